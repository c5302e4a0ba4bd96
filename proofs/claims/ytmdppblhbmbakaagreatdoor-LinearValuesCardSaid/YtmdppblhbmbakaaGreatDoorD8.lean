/- What divide does with a longer divisor. -/
import Derived.Test.YtmdppblhbmbakaaGreatDoorD7
import Derived.Test.YtmdppblhbmbakaaGreatDoorI1
set_option linter.unusedVariables false
set_option linter.unusedSimpArgs false
namespace Go.Proofs.YtmdppblhbmbakaaGreatDoor
open Go.RowKit _root_.Go.Proofs.YtmdppblhbmbakaaGreatDoor.Nm

/-- What is known of the two numbers: their lengths, the factor, and the multiplied divisor. -/
theorem long_facts (a b n y : Nat) (hlb : (ds 1000000000 b).length = n + 1) (hy : (ds 1000000000 b)[n]? = some y) (hge : b ≤ a) :
    0 < y ∧ y < 1000000000 ∧ 1000000000 ^ n ≤ b ∧ b * (1000000000 / (y + 1)) < 1000000000 ^ (n + 1) ∧ 0 < b := by
  have hl := vl_split (ds 1000000000 b) n (by omega)
  have h1 : (ds 1000000000 b).drop n = [y] := by
    obtain ⟨h, h2⟩ := List.getElem?_eq_some_iff.1 hy
    rw [List.drop_eq_getElem_cons h, h2, List.drop_of_length_le (by omega)]
  rw [h1, vl_ds _ (by omega), show vl 1000000000 [y] = y from by simp [vl]] at hl
  have hlt := vl_lt 1000000000 ((ds 1000000000 b).take n) (fun x hx => ds_lt _ (by omega) b x (List.mem_of_mem_take hx))
  rw [List.length_take, Nat.min_eq_left (by omega)] at hlt
  have hy2 : y < 1000000000 := ds_lt _ (by omega) b y (List.mem_of_getElem? hy)
  have hy1 : 0 < y := by
    rcases Nat.eq_zero_or_pos y with h | h
    · exfalso
      subst h
      apply getLast_ne 1000000000 (by omega) b
      rw [List.getLast?_eq_getElem?, hlb, Nat.add_sub_cancel]
      exact hy
    · exact h
  have hp : 1000000000 ^ n * 1 ≤ 1000000000 ^ n * y := Nat.mul_le_mul_left _ hy1
  obtain ⟨s1, s2⟩ := scale_fits y hy2
  generalize 1000000000 / (y + 1) = sc at *
  have h3 : 1000000000 ^ n * (sc * (y + 1)) ≤ 1000000000 ^ n * 1000000000 := Nat.mul_le_mul_left _ s2
  have h4 : b * sc < (1000000000 ^ n * (y + 1)) * sc := Nat.mul_lt_mul_of_pos_right (by rw [Nat.mul_add]; omega) s1
  rw [Nat.pow_succ]
  have h5 : (1000000000 ^ n * (y + 1)) * sc = 1000000000 ^ n * (sc * (y + 1)) := by rw [Nat.mul_assoc, Nat.mul_comm (y + 1) sc]
  have h6 : 0 < 1000000000 ^ n := Nat.pow_pos (by omega)
  generalize 1000000000 ^ n = P at *
  exact ⟨hy1, hy2, by omega, by omega, by omega⟩

theorem set_zero {w : World} {g p : Nat} {Q : List Nat} (h : Own .u32 199 w g (List.replicate (p + 1) 0 ++ Q)) (q : Nat) : Own .u32 199 (w.setCell ⟨g, p, none⟩ (.int .u32 ((q : Nat) : Int))) g (List.replicate p 0 ++ (q :: Q)) := by
  have h2 := h.set p q
  have e : (List.replicate (p + 1) 0 ++ Q).set p q = List.replicate p 0 ++ (q :: Q) := by
    rw [List.replicate_succ', List.append_assoc, List.set_append_right _ _ (by simp)]
    simp
  rwa [e] at h2

set_option maxRecDepth 100000 in
set_option maxHeartbeats 3200000 in
theorem divide_to (aa : Option Addr) (ca L : Nat) (gb ob cb a b n y : Nat) (w : World) (ha : IsNat w (.slice aa L ca) a) (hL : (ds 1000000000 a).length = L) (hb : IsNat w (.slice (some ⟨gb, ob, none⟩) (n + 2) cb) b) (hgb : gb < w.heap.size) (hcy : w.cell? ⟨gb, ob + (n + 1), none⟩ = some (.int .u32 (y : Nat)))
    (hlb : (ds 1000000000 b).length = n + 2) (hy : (ds 1000000000 b)[n + 1]? = some y) (hge : b ≤ a) (la : L ≤ 900) :
    Calls Tryz.prog 190 #[.slice aa L ca, .slice (some ⟨gb, ob, none⟩) (n + 2) cb] w (QuoPost (a / b) (a % b) w) := by
  obtain ⟨hy1, hy2, hbp, hdl, hb0⟩ := long_facts a b (n + 1) y hlb hy hge
  obtain ⟨sc1, sc2⟩ := scale_fits y hy2
  obtain ⟨sc, hsc⟩ : ∃ sc, 1000000000 / (y + 1) = sc := ⟨_, rfl⟩
  rw [hsc] at hdl sc1 sc2
  have hscl : sc < 1000000000 := by
    rcases Nat.lt_or_ge sc 1000000000 with h | h
    · exact h
    · have : 1000000000 * 2 ≤ sc * (y + 1) := Nat.mul_le_mul h (by omega)
      omega
  have hsci : (1000000000 : Int) / ((y : Int) + 1) = (sc : Int) := by rw [← hsc]; simp
  have hab := ds_length_mono 1000000000 (by omega) b a hge
  rw [hlb, hL] at hab
  obtain ⟨p0, hp0⟩ : ∃ p0, p0 + (n + 1) = L := ⟨L - (n + 1), by omega⟩
  have hasc : a * sc < 1000000000 ^ (L + 1) := by
    have h1 := lt_pow_length 1000000000 (by omega) a
    rw [hL] at h1
    rw [Nat.pow_succ]
    exact Nat.mul_lt_mul'' h1 hscl
  have HX := Lib.hid (ds_length_le 1000000000 (by omega) (a * sc) (L + 1) hasc)
  have HAL : Hid (a < 1000000000 ^ L) := Lib.hid (by have h1 := lt_pow_length 1000000000 (by omega) a; rwa [hL] at h1)
  have hd := sgn_ge a b (by omega)
  obtain ⟨r, hr⟩ : ∃ r, sgn a b = r := ⟨_, rfl⟩
  rw [hr] at hd
  have HR := Lib.hid hr
  have HA := Lib.hid ha
  have HB := Lib.hid hb
  have HSI := Lib.hid (And.intro trivial hsci)
  have HDL := Lib.hid hdl
  have HBP := Lib.hid hbp
  have hlz : ((n : Int) + 2 == 1) = false := by rw [beq_eq_false_iff_ne]; omega
  have lb2 : (ds 1000000000 b).length ≤ 1000 := by rw [hlb]; omega
  have la2 : (ds 1000000000 a).length ≤ 1000 := by rw [hL]; omega
  have ls2 : (ds 1000000000 sc).length ≤ 1000 := by rw [ds_pos _ _ (by omega) (by omega), Nat.div_eq_of_lt hscl, ds_zero]; simp
  have HSD : Hid (ds 1000000000 sc = [sc]) := Lib.hid (by rw [ds_pos _ _ (by omega) (by omega), Nat.div_eq_of_lt hscl, ds_zero, Nat.mod_eq_of_lt hscl])
  obtain ⟨i0, hi, hz0, hz1, hz2⟩ := info_parts info32
  have HZ2 := Lib.hid hz2
  have HI := Lib.hid hi
  have HZ0 := Lib.hid hz0
  have HZ1 := Lib.hid hz1
  clear hi hz0 hz1 hz2 hasc hL
  clear ha hb hr hsci hsc hdl hbp hy hlb sc2
  go_enter Tryz.func190, Tryz.ntmps190
  go_wp2_with fail
  refine (compare_any _ _ a b _ HA.out HB.out).mono ?_
  rintro e w1 ⟨rfl, n1, hw⟩
  rw [HR.out]
  have HW := Lib.hid (show Below w.heap.size w w1 from by rw [hw]; exact ⟨rfl, rfl, rfl, Nat.le_refl _, fun _ _ => rfl⟩)
  have hc1 : w1.cell? ⟨gb, ob + (n + 1), none⟩ = some (.int .u32 (y : Nat)) := (HW.out.cell (p := ⟨gb, ob + (n + 1), none⟩) hgb).trans hcy
  clear hw hcy
  go_wp2_with fail
  rw [HSI.out.2]
  have HO1 := Lib.hid (own_one .u32 199 w1 sc)
  have HAL1 := Lib.hid ((Below.refl w1.heap.size w1).alloc (Nat.le_refl _) (.cells #[.int .u32 ((sc : Nat) : Int)] 199))
  have HSN : Hid (IsNat (w1.alloc (.cells #[.int .u32 ((sc : Nat) : Int)] 199)) (.slice (some ⟨w1.heap.size, 0, none⟩) 1 1) sc) := Lib.hid (by
    unfold IsNat; rw [HSD.out]; exact HO1.out.rd 1 1 (by simp) (by omega) (by omega))
  have hsc1 : (w1.alloc (.cells #[.int .u32 ((sc : Nat) : Int)] 199)).cell? ⟨w1.heap.size, 0, none⟩ = some (.int .u32 (sc : Nat)) := HO1.out.cell 0 (by simp)
  have HSC := Lib.hid hsc1
  have HWA := Lib.hid (HW.out.trans (HAL1.out.mono HW.out.size))
  clear hsc1 HO1 hc1
  refine (product_any _ _ b sc _ (HB.out.keep HWA.out (Nat.le_refl _)) HSN.out lb2 ls2).mono ?_
  rintro e w2 ⟨vd, rfl, hvd, hfd, hb2⟩
  obtain ⟨ad, md, cd, rfl⟩ := IsNat.slice hvd
  have HVD := Lib.hid hvd
  have HFD := Lib.hid hfd
  have HB2 := Lib.hid hb2
  have HW2 := Lib.hid (HWA.out.trans (hb2.mono HWA.out.size))
  clear hvd hfd hb2
  go_wp2_with fail
  refine (product_any _ _ a sc _ (HA.out.keep HW2.out (Nat.le_refl _)) (HSN.out.keep HB2.out (Nat.le_refl _)) la2 ls2).mono ?_
  rintro e w3 ⟨vp, rfl, hvp, hfp, hb3⟩
  have HVP := Lib.hid hvp
  have HB3 := Lib.hid (HB2.out.trans (hb3.mono HB2.out.size))
  have HB23 := Lib.hid hb3
  have HW3 := Lib.hid (HW2.out.trans (hb3.mono HW2.out.size))
  clear hvp hfp hb3
  have hdlen : (ds 1000000000 (b * sc)).length = n + 2 := by
    have h1 := ds_length_ge 1000000000 (by omega) (b * sc) (n + 1) (Nat.le_trans HBP.out (Nat.le_mul_of_pos_right _ sc1))
    have h2 := ds_length_le 1000000000 (by omega) (b * sc) (n + 1 + 1) HDL.out
    omega
  have hdtop : 0 < (ds 1000000000 (b * sc))[n + 1]'(by omega) := by
    rcases Nat.eq_zero_or_pos ((ds 1000000000 (b * sc))[n + 1]'(by omega)) with h | h
    · exfalso
      apply getLast_ne 1000000000 (by omega) (b * sc)
      rw [List.getLast?_eq_getElem?, hdlen, show n + 2 - 1 = n + 1 from by omega, List.getElem?_eq_getElem (by omega), h]
    · exact h
  have HDT : Hid (True ∧ ∀ h : n + 1 < (ds 1000000000 (b * sc)).length, 0 < (ds 1000000000 (b * sc))[n + 1]) := Lib.hid ⟨trivial, fun h => hdtop⟩
  have HDLN := Lib.hid hdlen
  have hD0 : 0 < b * sc := Nat.mul_pos hb0 sc1
  have hrd : ∃ gd od, ad = some ⟨gd, od, none⟩ ∧ md = n + 2 ∧ n + 2 ≤ cd ∧ Cap (n + 2) cd ∧ gd < w2.heap.size ∧ Row .u32 w2 gd od (ds 1000000000 (b * sc)) := by
    rcases Rd.cases HVD.out with ⟨h0, _⟩ | ⟨_, g', off, c', e, k1, k2, k3, k4⟩
    · rw [h0] at hdlen; simp at hdlen
    · simp only [Value.slice.injEq] at e
      obtain ⟨rfl, rfl, rfl⟩ := e
      rw [hdlen] at k1 k2
      exact ⟨g', off, rfl, hdlen, k1, k2, k3, k4⟩
  obtain ⟨gd, od, rfl, rfl, hcd1, hcd2, hgd, hrow⟩ := hrd
  have HROW := Lib.hid hrow
  have HCD := Lib.hid hcd2
  have HPI := Lib.hid (show (L : Int) - ((n : Int) + 2) + 1 = (p0 : Int) by omega)
  clear hrow hcd2 hdlen hdtop
  go_wp2_with fail
  rw [show (L : Int) + 1 = ((L + 1 : Nat) : Int) from by omega]
  refine (extended_any vp (ds 1000000000 (a * sc)) (L + 1) (L + 1) (by omega) (by have := HX.out; omega) _ HVP.out).mono ?_
  rintro e w4 ⟨gr, hgr, rfl, hO4, hb4⟩
  have HO4 := Lib.hid hO4
  have HW4 := Lib.hid hb4
  clear hO4 hb4
  go_wp2_with (rw [HPI.out]; refine wpList_make_full _ rfl (.tmp 59) (.tmp 59) 176 rfl w4.heap.size 199 i0 (.int .u32 0) 1 Tryz.underlying176 HI.out HZ0.out HZ1.out .i64 .i64 _ _ p0 rfl rfl (by rfl) (by rfl) (by rw [HZ2.out]; omega) (by unfold maxLen; omega) (Nat.le_refl _) ?_; intro w5 hown hgrow; refine hold ?_)
  rw [made_zeros] at hown
  obtain ⟨hOq, _⟩ := own_of_full (by simp) hown
  have hgrlt : gr < w4.heap.size := HO4.out.lt
  have hb5 := (Below.refl w4.heap.size w4).grown hgrow (Nat.le_refl _) (fun k hk => by simp at hk)
  have HOR := Lib.hid (HO4.out.of_below hb5 hgrlt)
  have HOQ := Lib.hid hOq
  have HW5 := Lib.hid (HW4.out.trans (hb5.mono HW4.out.size))
  have hw43 := HW4.out.size
  have hwl : (ds 1000000000 (a * sc) ++ List.replicate (L + 1 - (ds 1000000000 (a * sc)).length) 0).length = L + 1 := by
    rw [List.length_append, List.length_replicate]; have := HX.out; omega
  have HLI := Lib.hid (LongInv.start a sc b L (n + 1) p0 _ HAL.out HBP.out hp0 sc1 hwl (zeros_lt _ _ (ds_lt _ (by omega) _)) (by rw [vl_zeros_app, vl_ds _ (by omega)]))
  have hgrq : gr ≠ w4.heap.size := by omega
  have hp1 : p0 + (n + 2) + 1 ≤ L + 1 + 1 := by omega
  clear hown hgrow hOq hb5 hwl HO4 HVP
  refine go_on ?_
  go_wp2
  go_loopw [63] (fun j wr => ∃ (k : Nat) (Rl Q : List Nat), k ≤ p0 ∧ j = .int .i64 k ∧ Hid (Q.length = k) ∧ Hid (LongInv (a * sc) (b * sc) L (p0 - k) Rl Q) ∧ Hid (Own .u32 199 wr w4.heap.size (List.replicate (p0 - k) 0 ++ Q)) ∧ Hid (Own .u32 199 wr gr Rl) ∧ Hid (Below w3.heap.size w3 wr)) (fun j _ => p0 - (intOf j).toNat)
  case atStart => exact ⟨0, _, [], by omega, rfl, Lib.hid rfl, HLI, Lib.hid (by rw [Nat.sub_zero, List.append_nil]; exact HOQ.out), HOR, HW5⟩
  case round =>
    obtain ⟨k, Rl, Q, hk, rfl, HQL, HI1, HOQ1, HOR1, HBW⟩ := hrel
    by_cases hlt : k < p0
    · have hlt' : (k : Int) < p0 := by omega
      obtain ⟨p, hp⟩ : ∃ p, p0 - k = p + 1 := ⟨p0 - k - 1, by omega⟩
      have hp2 : p0 - (k + 1) = p := by omega
      have hpi : (p0 : Int) - 1 - k = p := by omega
      have hpp : p < p0 := by omega
      have HP2 := Lib.hid hp2
      rw [hp] at HI1 HOQ1
      have hDle : b * sc ≤ 1000000000 ^ (n + 2) := Nat.le_of_lt HDL.out
      have hw := HI1.out.window hDle (by omega)
      have hst := fun R' h1 h2 h3 => HI1.out.step (R' := R') hD0 hDle (by omega) h1 h2 h3
      have hdl1 : n + 1 < (ds 1000000000 (b * sc)).length := by rw [HDLN.out]; omega
      have hgdr : gd ≠ gr := by have := HB23.out.size; omega
      have hcall := reduce_to gr (L + 1 - p) (n + 2) (n + 1) gd od cd (Rl.take p) ((Rl.drop p).take (n + 2 + 1)) (Rl.drop (p + (n + 2) + 1)) (ds 1000000000 (b * sc)) wr rfl hw.2.2.1 HDLN.out (by omega) (by rw [hw.2.1, hw.2.2.1]; omega)
        (fun x hx => HI1.out.lt x (List.mem_of_mem_drop (List.mem_of_mem_take hx))) (ds_lt _ (by omega) _) (by rw [vl_ds _ (by omega)]; exact hw.2.2.2.2) (HDT.out.2 hdl1) (by rw [← hw.1]; exact HOR1.out)
        (HROW.out.keep (HB23.out.trans (HBW.out.mono HB23.out.size)) hgd) (Nat.lt_of_lt_of_le hgd (Nat.le_trans HB23.out.size HBW.out.size)) hgdr (by omega) hcd1 HCD.out
      rw [hw.2.1] at hcall
      have HRL := Lib.hid hw.2.2.1
      have HCALL := Lib.hid hcall
      have HST := Lib.hid hst
      clear hcall hst hw hp hp2 hdl1
      have hpl : p + (n + 2) + 1 - p = n + 2 + 1 := by omega
      go_wp2_with fail
      rw [hpl]
      refine HCALL.out.mono ?_
      rintro e w6 ⟨R', rfl, h1, h2, h3, h4, h5⟩
      have hVD : vl 1000000000 (ds 1000000000 (b * sc)) = b * sc := vl_ds _ (by omega) _
      rw [hVD] at h3 ⊢
      obtain ⟨hli, hql⟩ := HST.out R' (h1.trans HRL.out) h2 h3
      obtain ⟨q, hq⟩ : ∃ q, vl 1000000000 ((Rl.drop p).take (n + 2 + 1)) / (b * sc) = q := ⟨_, rfl⟩
      rw [hq] at hli hql ⊢
      have hOq6 := HOQ1.out.of_only h5 (Ne.symm hgrq)
      obtain ⟨z6, hcc⟩ : ∃ z, w6.cell? ⟨w4.heap.size, p, none⟩ = some z := ⟨_, hOq6.cell p (by simp; omega)⟩
      have hff : w6.frozen? ⟨w4.heap.size, p, none⟩ = false := hOq6.free _
      have HLI2 := Lib.hid hli
      have HOQ2 := Lib.hid (set_zero hOq6 q)
      have HOR2 := Lib.hid (h4.of_only ((Only.refl w4.heap.size w6).set p (.int .u32 ((q : Nat) : Int))) hgrq)
      have HBW2 := Lib.hid (HBW.out.trans ((h5.below hgr).trans (((Only.refl w4.heap.size w6).set p (.int .u32 ((q : Nat) : Int))).below hw43)))
      clear hVD hq hpl h1 h2 h3 h4 h5 hli hOq6 HCALL HST
      go_wp2
      go_roundw
      case rel => exact ⟨k + 1, _, q :: Q, by omega, by go_num, Lib.hid (by rw [List.length_cons, HQL.out]), Lib.hid (by rw [HP2.out]; exact HLI2.out), Lib.hid (by rw [HP2.out]; exact HOQ2.out), HOR2, HBW2⟩
      case measure => simp [intOf]; omega
    · have hke : k = p0 := by omega
      have HLI2 := Lib.hid (show LongInv (a * sc) (b * sc) L 0 Rl Q by have := HI1.out; rwa [hke, Nat.sub_self] at this)
      have HDN := Lib.hid (HLI2.out.done sc1 hb0)
      have HOQ2 : Hid (Own .u32 199 wr w4.heap.size Q) := Lib.hid (by have := HOQ1.out; rwa [hke, Nat.sub_self, List.replicate_zero, List.nil_append] at this)
      have hge' : ¬ (k : Int) < p0 := by omega
      have HRR : Hid (Rd .u32 wr (.slice (some ⟨gr, 0, none⟩) Rl.length (L + 1)) Rl) := Lib.hid (by
        have h2 := HOR1.out.rd (L + 1) (L + 1) (Nat.le_of_eq HLI2.out.len.symm) (by omega) (by omega)
        rw [List.take_of_length_le (Nat.le_of_eq HLI2.out.len)] at h2
        rw [HLI2.out.len]; exact h2)
      have HRQ : Hid (Rd .u32 wr (.slice (some ⟨w4.heap.size, 0, none⟩) p0 p0) Q) := Lib.hid (by
        have h2 := HOQ2.out.rd p0 p0 (by rw [HQL.out]; omega) (by omega) (by omega)
        rwa [List.take_of_length_le (by rw [HQL.out]; omega)] at h2)
      have hscw : wr.cell? ⟨w1.heap.size, 0, none⟩ = some (.int .u32 (sc : Nat)) := ((HB3.out.trans (HBW.out.mono HB3.out.size)).cell (p := ⟨w1.heap.size, 0, none⟩) (by simp)).trans HSC.out
      have HWR := Lib.hid (HW3.out.trans (HBW.out.mono HW3.out.size))
      have HLEN := Lib.hid HLI2.out.len
      clear hke
      go_wp2_with fail
      have hcall := divideByLimb_to (some ⟨gr, 0, none⟩) (L + 1) Rl sc wr HRR.out HLI2.out.lt (by rw [HLEN.out]; omega) sc1 hscl
      rw [HLEN.out] at hcall
      refine hcall.mono ?_
      clear hcall
      rintro e w6 ⟨v, rfl, hv, hf, hb6⟩
      rw [HDN.out.2] at hv
      have HV := Lib.hid hv
      have HF := Lib.hid (hf.mono HWR.out.size)
      have HW6 := Lib.hid (HWR.out.trans (hb6.mono HWR.out.size))
      have HRQ6 := Lib.hid (HRQ.out.keep hb6 (Nat.le_refl _))
      clear hv hf hb6 hscw
      go_wp2_with fail
      refine (trim_any _ Q HLI2.out.qlt _ HRQ6.out).mono ?_
      rintro e w7 ⟨⟨v', rfl, hv, hsm⟩, rfl⟩
      rw [HDN.out.1] at hv
      have HV7 := Lib.hid hv
      have HF7 := Lib.hid (Fr.of_same hsm (show w.heap.size ≤ w4.heap.size from Nat.le_trans HW3.out.size hw43))
      clear hv hsm
      go_wp2
      go_ret2
      exact ⟨_, _, rfl, HV7.out, HF7.out, HV.out, HF.out, HW6.out⟩

theorem divide_nat (va vb : Value) (a b : Nat) (w : World) (ha : IsNat w va a) (hb : IsNat w vb b) (hb0 : 0 < b) (la : (ds 1000000000 a).length ≤ 900) :
    Calls Tryz.prog 190 #[va, vb] w (QuoPost (a / b) (a % b) w) := by
  by_cases hlt : a < b
  · rw [Nat.div_eq_of_lt hlt, Nat.mod_eq_of_lt hlt]
    exact divide_less va vb a b w ha hb hlt
  · have hge : b ≤ a := by omega
    rcases Rd.cases hb with ⟨h0, _⟩ | ⟨hpos, g, off, c, rfl, hxc, hc, hg, hr⟩
    · have := (ds_eq_nil _ (by omega) b).1 h0
      omega
    · by_cases h1 : (ds 1000000000 b).length = 1
      · have hbl : b < 1000000000 := by
          have := lt_pow_length 1000000000 (by omega) b
          rwa [h1, Nat.pow_one] at this
        have hds : ds 1000000000 b = [b] := by rw [ds_pos _ _ (by omega) hb0, Nat.div_eq_of_lt hbl, ds_zero, Nat.mod_eq_of_lt hbl]
        have hc0 := hr 0 (by omega)
        rw [h1] at hb ⊢
        rw [Nat.add_zero] at hc0
        simp only [hds, List.getElem_cons_zero] at hc0
        exact divide_one va g off c a b w ha hb hg hc0 hge hb0 hbl (by omega)
      · obtain ⟨n, hn⟩ : ∃ n, (ds 1000000000 b).length = n + 2 := ⟨(ds 1000000000 b).length - 2, by omega⟩
        obtain ⟨aa, ca, rfl, _⟩ := id ha
        have hc0 := hr (n + 1) (by omega)
        rw [hn] at hb ⊢
        exact divide_to aa ca _ g off c a b n _ w ha rfl hb hg hc0 hn (List.getElem?_eq_getElem (by omega)) hge la

end Go.Proofs.YtmdppblhbmbakaaGreatDoor
