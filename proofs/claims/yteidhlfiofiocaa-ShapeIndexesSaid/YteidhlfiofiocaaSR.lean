/- The laws ShapeInsides and ShapeUnique. -/
import Derived.Test.YteidhlfiofiocaaSP
import Derived.Test.YteidhlfiofiocaaSL
import Derived.Test.YteidhlfiofiocaaSM
import Derived.Test.YteidhlfiofiocaaZT
set_option linter.unusedVariables false
set_option linter.unusedSimpArgs false
namespace Go.Proofs.Yteidhlfiofiocaa
open Go.RowKit Go.Shelf

set_option maxRecDepth 100000 in
set_option maxHeartbeats 3200000 in
theorem ssame_any (u v : Value) (l : List Int) (w : World) (hu : FsAt w u l) (hv : FsAt w v l) (hn : l.length ≤ 100000) :
    Calls Try.prog 45 #[u, v] w fun e w' => e = .returned (.bool true) ∧ Below w.heap.size w w' := by
  obtain ⟨au, cu, rfl⟩ := hu.slice
  obtain ⟨av, cv, rfl⟩ := hv.slice
  obtain ⟨n, hln⟩ : ∃ n, l.length = n := ⟨_, rfl⟩
  rw [hln] at hn hv hu ⊢
  have HL := Lib.hid hln
  have HV := Lib.hid hv
  have HU := Lib.hid hu
  clear hln hv hu
  go_enter Try.func45, Try.ntmps45
  go_wp2
  go_loopw [5] (fun i wr => ∃ k : Nat, k ≤ n ∧ i = .int .i64 k ∧ Hid (Below w.heap.size w wr)) (fun i _ => n - (intOf i).toNat)
  case atStart => exact ⟨0, Nat.zero_le _, rfl, Lib.hid (Below.refl _ _)⟩
  case round =>
    obtain ⟨k, hk, rfl, HB⟩ := hrel
    by_cases hlt : k < n
    · have hltz : (k : Int) < (n : Int) := by omega
      have hkm : k < l.length := by rw [HL.out]; exact hlt
      obtain ⟨b, off, rfl, hb, c0⟩ := HU.out.at k hkm
      obtain ⟨b2, off2, rfl, hb2, c1⟩ := HV.out.at k hkm
      replace c0 := (HB.out.cell (p := ⟨b, off + k, none⟩) hb).trans c0
      replace c1 := (HB.out.cell (p := ⟨b2, off2 + k, none⟩) hb2).trans c1
      obtain ⟨x, hx⟩ : ∃ x, l[k] = x := ⟨_, rfl⟩
      rw [hx] at c0 c1
      have hk0 : (0 : Int) ≤ k := by omega
      clear hx hkm
      go_wp2
      go_quiet ((fail))
      go_wp2
      go_roundw
      case rel => exact ⟨k + 1, by omega, by go_num, Lib.hid (HB.out.trans ((below_drewNg wr _).mono HB.out.size))⟩
      case measure => simp [intOf]; omega
    · obtain rfl : n = k := by omega
      have hnn : ¬ (n : Int) < n := by omega
      go_wp2
      go_ret
      exact ⟨rfl, HB.out⟩

theorem Dt.insL_few {d : List DataM} (hd : Sm d) (t f : Int) : (Dt.insL d t f).length ≤ 10100 := by
  unfold Dt.insL
  split
  · rw [Dt.inList_length]; exact Dt.places_few hd f
  · simp

set_option maxRecDepth 100000 in
set_option maxHeartbeats 6400000 in
theorem law_ShapeInsides (v : Value) (d : List DataM) (t f : Int) (w : World) (hv : DsAt w v d) (h64 : H64 d) (hl : d.length ≤ maxLen) (ht : In64 t) (hf : In64 f) :
    Calls Try.prog 12 #[v, .int .i64 t, .int .i64 f] w fun e w' => e = .returned (.bool true) ∧ Below w.heap.size w w' := by
  obtain ⟨ad, cap, hE⟩ := hv.slice
  have HV := Lib.hid hv
  have HT := Lib.hid ht
  have HF := Lib.hid hf
  obtain ⟨q, hq⟩ : ∃ q, Dt.fewS d = q := ⟨_, rfl⟩
  have HFW : Hid (∀ W : World, DsAt W v d → Calls Try.prog 36 #[v] W fun e w' => e = .returned (.bool q) ∧ w' = W) := Lib.hid fun W h => sFew_any v d q W h hl (Lib.hid hq)
  have HS : Hid (q = true → Sm d) := Lib.hid fun h => Dt.fewS_sm (hq.trans h) h64
  generalize d.length = n at hE
  subst hE
  clear hv h64 ht hf hq hl
  go_enter Try.func12, Try.ntmps12
  go_wp2_with fail
  refine (sawake_any w).mono ?_
  rintro e w1 ⟨rfl, hb⟩
  have HB := Lib.hid hb
  have HV1 := Lib.hid (HV.out.keep hb (Nat.le_refl _))
  clear hb
  go_wp2_with fail
  refine (HFW.out w1 HV1.out).mono ?_
  rintro e w2 ⟨rfl, hw⟩
  rw [hw]
  clear hw w2 HFW
  cases q with
  | false =>
    go_wp2
    go_ret
    exact ⟨rfl, HB.out⟩
  | true =>
    have HSM := Lib.hid (HS.out rfl)
    go_wp2_with fail
    refine (Inside_any _ d t f w1 HV1.out HSM.out HT.out HF.out).mono ?_
    rintro e w2 ⟨⟨u, rfl, hu⟩, hb⟩
    have HB2 := Lib.hid (HB.out.trans (hb.mono HB.out.size))
    have HV2 := Lib.hid (HV1.out.keep hb (Nat.le_refl _))
    have HU2 := Lib.hid hu
    obtain ⟨au, cu, hEu⟩ := hu.slice
    generalize (Dt.insL d t f).length = nu at hEu
    subst hEu
    clear hu hb
    go_wp2_with fail
    refine (rInside_any _ d t f w2 HV2.out HSM.out).mono ?_
    rintro e w3 ⟨⟨u, rfl, hu⟩, hb⟩
    have HB3 := Lib.hid (HB2.out.trans (hb.mono HB2.out.size))
    have HU3 := Lib.hid (HU2.out.keep hb (Nat.le_refl _))
    have HX3 := Lib.hid hu
    obtain ⟨ax, cx, hEx⟩ := hu.slice
    generalize (Dt.insL d t f).length = nx at hEx
    subst hEx
    have HSA := Lib.hid (ssame_any _ _ _ w3 HU3.out HX3.out (by have := Dt.insL_few HSM.out t f; omega))
    generalize Dt.insE d t f = E
    clear hu hb
    go_wp2_with (first | (go_at_call 45; refine HSA.out.mono ?_; rintro e w4 ⟨rfl, hb⟩; have HB4 := Lib.hid (HB3.out.trans (hb.mono HB3.out.size)); clear hb))
    go_ret
    exact ⟨by simp, HB4.out⟩

theorem Dt.places_head {d : List DataM} {t : Int} (h : Dt.nf d t = true) : ∃ tl, Dt.places d t = (t, 0) :: tl := by
  obtain ⟨l, hl⟩ := Dt.contents_head h
  unfold Dt.places Dt.placesL
  rw [hl, List.flatMap_cons]
  unfold Dt.placesC
  unfold Dt.nf at h
  cases hc : Dt.consOf d t with
  | nil => rw [hc] at h; simp at h
  | cons c cs =>
    rw [List.length_cons, List.range_succ_eq_map]
    exact ⟨_, rfl⟩

set_option maxRecDepth 100000 in
set_option maxHeartbeats 12800000 in
theorem law_ShapeUnique (v : Value) (d : List DataM) (t : Int) (w : World) (hv : DsAt w v d) (h64 : H64 d) (hl : d.length ≤ maxLen) (ht : In64 t) :
    Calls Try.prog 13 #[v, .int .i64 t] w fun e w' => e = .returned (.bool true) ∧ Below w.heap.size w w' := by
  obtain ⟨ad, cap, hE⟩ := hv.slice
  have HV := Lib.hid hv
  have HT := Lib.hid ht
  obtain ⟨q, hq⟩ : ∃ q, Dt.fewS d = q := ⟨_, rfl⟩
  have HFW : Hid (∀ W : World, DsAt W v d → Calls Try.prog 36 #[v] W fun e w' => e = .returned (.bool q) ∧ w' = W) := Lib.hid fun W h => sFew_any v d q W h hl (Lib.hid hq)
  have HS : Hid (q = true → Sm d) := Lib.hid fun h => Dt.fewS_sm (hq.trans h) h64
  obtain ⟨n, hn⟩ : ∃ n, d.length = n := ⟨_, rfl⟩
  rw [hn] at hE
  have HN := Lib.hid hn
  subst hE
  clear hv h64 ht hq hl hn
  go_enter Try.func13, Try.ntmps13
  go_wp2_with fail
  refine (sawake_any w).mono ?_
  rintro e w1 ⟨rfl, hb⟩
  have HB := Lib.hid hb
  have HV1 := Lib.hid (HV.out.keep hb (Nat.le_refl _))
  clear hb
  go_wp2_with fail
  refine (HFW.out w1 HV1.out).mono ?_
  rintro e w2 ⟨rfl, hw⟩
  rw [hw]
  clear hw w2 HFW
  cases q with
  | false =>
    go_wp2
    go_ret
    exact ⟨rfl, HB.out⟩
  | true =>
    have HSM := Lib.hid (HS.out rfl)
    go_wp2_with fail
    refine (Of_any _ d t w1 HV1.out HSM.out HT.out).mono ?_
    rintro e w2 ⟨⟨u, rfl, hu⟩, hb⟩
    have HB2 := Lib.hid (HB.out.trans (hb.mono HB.out.size))
    have HV2 := Lib.hid (HV1.out.keep hb (Nat.le_refl _))
    have HIX : Hid (∀ (W : World) (x1 x2 : Int), DsAt W (.slice ad n cap) d → In64 x1 → In64 x2 → Calls Try.prog 41 #[.slice ad n cap, .int .i64 t, .agg #[.int .i64 x1, .int .i64 x2]] W fun e w' => e = .returned (.int .i64 (Dt.pidx (x1, x2) (Dt.ofM d t))) ∧ Below W.heap.size W w') := Lib.hid fun W x1 x2 h a b => Index_any _ d t (x1, x2) W h HSM.out HT.out a b
    have H64 : Hid (∀ x ∈ Dt.ofM d t, In64 x.1 ∧ In64 x.2) := Lib.hid (Dt.ofM_in64 HSM.out)
    have HND := Lib.hid (Dt.ofM_nodup d t)
    have hlen := Dt.ofM_few HSM.out t
    obtain ⟨L, hL⟩ : ∃ L, Dt.ofM d t = L := ⟨_, rfl⟩
    rw [hL] at hu HIX H64 HND hlen
    have HLE := Lib.hid hL
    obtain ⟨ua, uc, rfl⟩ := hu.slice
    obtain ⟨m, hm⟩ : ∃ m, L.length = m := ⟨_, rfl⟩
    rw [hm] at hu hlen ⊢
    have HM := Lib.hid hm
    have HU := Lib.hid hu
    clear hu hb hL hm
    go_wp2
    go_loopw [6] (fun i wr => ∃ k : Nat, k ≤ m ∧ i = .int .i64 k ∧ Hid (Below w2.heap.size w2 wr)) (fun i _ => m - (intOf i).toNat)
    case atStart => exact ⟨0, Nat.zero_le _, rfl, Lib.hid (Below.refl _ _)⟩
    case round =>
      obtain ⟨k, hk, rfl, HBR⟩ := hrel
      by_cases hlt : k < m
      · have hltz : (k : Int) < (m : Int) := by omega
        have hkl : k < L.length := by rw [HM.out]; exact hlt
        obtain ⟨pb, po, rfl, hpb, p0, p1⟩ := (HU.out.keep HBR.out (Nat.le_refl _)).at k hkl
        obtain ⟨x1, x2, hx⟩ : ∃ x1 x2, L[k] = (x1, x2) := ⟨_, _, rfl⟩
        have h64 := H64.out L[k] (List.getElem_mem hkl)
        have hpi := Dt.pidx_at HND.out k hkl
        rw [hx] at p0 p1 h64 hpi
        dsimp only at p0 p1 h64
        have HIC := Lib.hid (HIX.out wr x1 x2 (HV2.out.keep HBR.out (Nat.le_refl _)) h64.1 h64.2)
        rw [hpi] at HIC
        clear hx h64 hpi hkl
        go_wp2_with fail
        refine HIC.out.mono ?_
        rintro e w4 ⟨rfl, hb⟩
        have HB4 := Lib.hid (HBR.out.trans (hb.mono HBR.out.size))
        clear hb p0 p1 HIC
        go_wp2
        go_roundw
        case rel => exact ⟨k + 1, by omega, by go_num, HB4⟩
        case measure => simp [intOf]; omega
      · obtain rfl : m = k := by omega
        have hnn : ¬ (m : Int) < m := by omega
        have HVR := Lib.hid (HV2.out.keep HBR.out (Nat.le_refl _))
        have HUR := Lib.hid (HU.out.keep HBR.out (Nat.le_refl _))
        have HBX := Lib.hid (HB2.out.trans (HBR.out.mono HB2.out.size))
        have HCK := Lib.hid (Check_any _ d wr HVR.out HSM.out)
        obtain ⟨E, hE⟩ : ∃ E, Dt.check d = E := ⟨_, rfl⟩
        rw [hE] at HCK
        have HE := Lib.hid hE
        obtain ⟨z, hz⟩ : ∃ z, Dt.ok d t = z := ⟨_, rfl⟩
        have HZ := Lib.hid hz
        clear hE hz
        by_cases h0 : E = 0
        · subst h0
          cases z with
          | false =>
            have hL0 : L = [] := by rw [← HLE.out]; exact Dt.ofM_bad (.inr HZ.out)
            have hm0 : m = 0 := by rw [← HM.out, hL0]; rfl
            have hnok : ¬ (0 ≤ t ∧ t ≤ (n : Int)) := by
              intro h
              have : Dt.ok d t = true := by simp [Dt.ok, HN.out, h.1, h.2]
              rw [HZ.out] at this; cases this
            subst hm0
            clear hL0
            by_cases ht0 : t < 0
            · go_wp2_with (first | (go_at_call 17; refine HCK.out.mono ?_; rintro e w5 ⟨rfl, hb⟩; have HB5 := Lib.hid (HBX.out.trans (hb.mono HBX.out.size)); clear hb))
              go_ret
              exact ⟨rfl, HB5.out⟩
            · have htn : (n : Int) < t := by omega
              go_wp2_with (first | (go_at_call 17; refine HCK.out.mono ?_; rintro e w5 ⟨rfl, hb⟩; have HB5 := Lib.hid (HBX.out.trans (hb.mono HBX.out.size)); clear hb))
              go_ret
              exact ⟨rfl, HB5.out⟩
          | true =>
            obtain ⟨ht1, ht2⟩ := (ok_iff d t).1 HZ.out
            rw [HN.out] at ht2
            have ht0 : ¬ t < 0 := by omega
            have htn : ¬ (n : Int) < t := by omega
            have hnf := Dt.nf_flat HZ.out
            obtain ⟨fl, hfl⟩ : ∃ fl, Dt.flat d t = fl := ⟨_, rfl⟩
            have HFL := Lib.hid (fun W (h : DsAt W (.slice ad n cap) d) => Flat_any _ d t fl W h HSM.out (Lib.hid hfl))
            rw [hfl] at hnf
            cases fl with
            | true =>
              have hL0 : L = [] := by rw [← HLE.out, Dt.ofM_good HE.out HZ.out]; unfold Dt.places; rw [Dt.contents_flat (by rw [hnf]; rfl)]; rfl
              have hm0 : m = 0 := by rw [← HM.out, hL0]; rfl
              subst hm0
              clear hL0 hnf hfl ht1 ht2
              go_wp2_with (first | (go_at_call 17; refine HCK.out.mono ?_; rintro e w5 ⟨rfl, hb⟩; have HB5 := Lib.hid (HBX.out.trans (hb.mono HBX.out.size)); have HV5 := Lib.hid (HVR.out.keep hb (Nat.le_refl _)); clear hb) | (go_at_call 19; refine (HFL.out _ HV5.out).mono ?_; rintro e w6 ⟨rfl, hb⟩; have HB6 := Lib.hid (HB5.out.trans (hb.mono HB5.out.size)); clear hb))
              go_ret
              exact ⟨rfl, HB6.out⟩
            | false =>
              obtain ⟨tl, htl⟩ := Dt.places_head (d := d) (t := t) (by rw [hnf]; rfl)
              have hL0 : L = (t, 0) :: tl := by rw [← HLE.out, Dt.ofM_good HE.out HZ.out, htl]
              have hm0 : 0 < m := by rw [← HM.out, hL0]; simp
              have hm0z : (0 : Int) < m := by omega
              obtain ⟨pb, po, rfl, hpb, p0, p1⟩ := HUR.out.at 0 (by rw [HM.out]; exact hm0)
              have hx : L[0]'(by rw [HM.out]; exact hm0) = (t, 0) := by simp [hL0]
              rw [hx] at p0 p1
              dsimp only at p0 p1
              rw [show po + 0 * 2 = po by omega] at p0 p1
              have HP := Lib.hid (And.intro p0 (And.intro p1 hpb))
              have heq := fun W : World => place_eql W t 0 t 0 true HT.out (by unfold In64; omega) HT.out (by unfold In64; omega) (by simp)
              clear hL0 hnf hfl ht1 ht2 htl hx p0 p1
              go_wp2_with (first | (go_at_call 17; refine HCK.out.mono ?_; rintro e w5 ⟨rfl, hb⟩; have HB5 := Lib.hid (HBX.out.trans (hb.mono HBX.out.size)); have HV5 := Lib.hid (HVR.out.keep hb (Nat.le_refl _)); have p5 := (hb.cell (p := ⟨pb, po, none⟩) HP.out.2.2).trans HP.out.1; have p6 := (hb.cell (p := ⟨pb, po + 1, none⟩) HP.out.2.2).trans HP.out.2.1; have hp5 := Nat.lt_of_lt_of_le HP.out.2.2 hb.size; clear hb) | (go_at_call 19; refine (HFL.out _ HV5.out).mono ?_; rintro e w6 ⟨rfl, hb⟩; have HB6 := Lib.hid (HB5.out.trans (hb.mono HB5.out.size)); have p7 := (hb.cell (p := ⟨pb, po, none⟩) hp5).trans p5; have p8 := (hb.cell (p := ⟨pb, po + 1, none⟩) hp5).trans p6; clear hb))
              go_ret
              exact ⟨rfl, HB6.out⟩
        · have hL0 : L = [] := by rw [← HLE.out]; exact Dt.ofM_bad (.inl (by rw [HE.out]; exact h0))
          have hm0 : m = 0 := by rw [← HM.out, hL0]; rfl
          have hne : (E == 0) = false := by simpa using h0
          have hne2 : (E != 0) = true := by simpa using h0
          subst hm0
          clear hL0 h0
          go_wp2_with (first | (go_at_call 17; refine HCK.out.mono ?_; rintro e w5 ⟨rfl, hb⟩; have HB5 := Lib.hid (HBX.out.trans (hb.mono HBX.out.size)); clear hb))
          go_ret
          exact ⟨rfl, HB5.out⟩

end Go.Proofs.Yteidhlfiofiocaa
