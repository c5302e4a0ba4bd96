/- The reference's Text; the law ShapeLists. -/
import Derived.Test.YteidhlfiofiocaaSR
import Derived.Laws.Concat
set_option linter.unusedVariables false
set_option linter.unusedSimpArgs false
namespace Go.Proofs.Yteidhlfiofiocaa
open Go.RowKit Go.Shelf Go.Maps

theorem jnl_len {l : List ByteArray} (h : ∀ x ∈ l, x.size ≤ 1000) : (jnl l).length ≤ 1001 * l.length := by
  cases l with
  | nil => simp [jnl]
  | cons x r =>
    have h1 := jtl_len (l := r) (fun y hy => h y (by simp [hy]))
    have h2 := h x (by simp)
    have h3 : x.data.toList.length = x.size := by rw [Array.length_toList]; rfl
    show (x.data.toList ++ jtl r).length ≤ _
    rw [List.length_append, List.length_cons]
    omega
theorem bytes_eq {a : ByteArray} {l : List UInt8} (h : a.data.toList = l) : a = ⟨l.toArray⟩ := by
  apply ByteArray.ext
  rw [← h]
theorem Dt.shErr_bad {d : List DataM} {t : Int} (h : Dt.check d ≠ 0) : Dt.shErr d [t] = 3 := by unfold Dt.shErr; rw [if_neg h]
theorem Dt.shErr_range1 {d : List DataM} {t : Int} (h : Dt.check d = 0) (h2 : Dt.ok d t = false) : Dt.shErr d [t] = 2 := by
  unfold Dt.shErr
  rw [if_pos h, if_pos]
  rw [List.any_eq_true]
  exact ⟨t, by simp, by rw [h2]; rfl⟩
theorem Dt.shErr_good {d : List DataM} {t : Int} (h : Dt.check d = 0) (h2 : Dt.ok d t = true) : Dt.shErr d [t] = 0 := by
  unfold Dt.shErr
  simp [h, h2]

set_option maxRecDepth 100000 in
set_option maxHeartbeats 12800000 in
theorem rText_any (v : Value) (d : List DataM) (t : Int) (w : World) (hv : DsAt w v d) (hd : Sm d) :
    Calls Try.prog 40 #[v, .int .i64 t] w fun e w' => e = .returned (.tuple #[.string (Dt.txt d t), .int .i64 (Dt.shErr d [t])]) ∧ Below w.heap.size w w' := by
  have HCK := Lib.hid (rCheck_any v d w hv hd)
  obtain ⟨ad, cap, hvE⟩ := hv.slice
  obtain ⟨n, hn⟩ : ∃ n, d.length = n := ⟨_, rfl⟩
  rw [hn] at hvE
  subst hvE
  have HV := Lib.hid hv
  have HN := Lib.hid hn
  have HD := Lib.hid hd
  have hn100 : n ≤ 100 := by rw [← hn]; exact hd.1
  obtain ⟨E, hE⟩ : ∃ E, Dt.check d = E := ⟨_, rfl⟩
  rw [hE] at HCK
  have HE := Lib.hid hE
  obtain ⟨q, hq⟩ : ∃ q, Dt.ok d t = q := ⟨_, rfl⟩
  have HQ := Lib.hid hq
  have HIT : Hid (∀ W : World, Calls Try.prog 77 #[.slice ad n cap, .int .i64 t] W fun e w' => e = .returned (.bool q) ∧ w' = W) := Lib.hid fun W => rsIsType_any ad n cap t d q W HN HQ
  clear hv hn hd hE hq
  by_cases h0 : E = 0
  · subst h0
    cases q with
    | false =>
      have hz := Dt.shErr_range1 HE.out HQ.out
      have hz2 : Dt.txt d t = ⟨#[]⟩ := by unfold Dt.txt; rw [hz, if_neg (by decide)]
      rw [hz, hz2]
      clear hz hz2
      go_enter Try.func40, Try.ntmps40
      go_wp2_with fail
      refine HCK.out.mono ?_
      rintro e w1 ⟨rfl, hb⟩
      have HB1 := Lib.hid hb
      clear hb
      go_wp2_with (first | (go_at_call 77; refine (HIT.out _).mono ?_; rintro e w2 ⟨rfl, hw⟩; rw [hw]; clear hw w2))
      go_ret2
      exact ⟨rfl, HB1.out⟩
    | true =>
      have hz := Dt.shErr_good HE.out HQ.out
      obtain ⟨P, hP⟩ : ∃ P, Dt.places d t = P := ⟨_, rfl⟩
      have hz2 : Dt.txt d t = ⟨(jnl (P.map (Dt.nmOf d))).toArray⟩ := by unfold Dt.txt; rw [hz, if_pos rfl, hP]
      have HPM : Hid (∀ p ∈ P, Dt.nf d p.1 = true ∧ 0 ≤ p.2 ∧ p.2 < (Dt.consOf d p.1).length) := Lib.hid (by
        rw [← hP]
        intro p hp
        obtain ⟨a, b, c⟩ := Dt.mem_places.1 hp
        exact ⟨Dt.contents_nf a, b, c⟩)
      have hPl : P.length ≤ 10100 := by rw [← hP]; exact Dt.places_few HD.out t
      have HOW : Hid (∀ W : World, DsAt W (.slice ad n cap) d → Calls Try.prog 38 #[.slice ad n cap, .int .i64 t] W fun e w' => (∃ u, e = .returned u ∧ PsAt w' u P) ∧ Below W.heap.size W w') := Lib.hid fun W h => by
        have h1 := rOf_any _ d t W h HD.out
        rw [Dt.ofM_good HE.out HQ.out, hP] at h1
        exact h1
      rw [hz, hz2]
      obtain ⟨m, hm⟩ : ∃ m, P.length = m := ⟨_, rfl⟩
      rw [hm] at hPl
      have HM := Lib.hid hm
      clear hz hz2 hP hm
      go_enter Try.func40, Try.ntmps40
      go_wp2_with fail
      refine HCK.out.mono ?_
      rintro e w1 ⟨rfl, hb⟩
      have HB1 := Lib.hid hb
      have HV1 := Lib.hid (HV.out.keep hb (Nat.le_refl _))
      clear hb HCK
      go_wp2_with (first | (go_at_call 77; refine (HIT.out _).mono ?_; rintro e w2 ⟨rfl, hw⟩; rw [hw]; clear hw w2) | (go_at_call 38; refine (HOW.out w1 HV1.out).mono ?_; rintro e w3 ⟨⟨u, rfl, hu⟩, hb⟩; refine hold ?_))
      obtain ⟨ua, uc, rfl⟩ := hu.slice
      rw [HM.out] at hu ⊢
      have HU3 := Lib.hid hu
      have HB3 := Lib.hid (HB1.out.trans (hb.mono HB1.out.size))
      have HV3 := Lib.hid (HV1.out.keep hb (Nat.le_refl _))
      clear hu hb HOW HV1 HIT
      refine go_on ?_
      go_wp2
      go_loopw [7, 8] (fun z i wr => ∃ (c : Nat) (s : ByteArray), c ≤ m ∧ i = .int .i64 c ∧ z = .string s ∧ Hid (s.data.toList = jnl ((P.take c).map (Dt.nmOf d))) ∧ Hid (Below w3.heap.size w3 wr)) (fun _ i _ => m - (intOf i).toNat)
      case atStart => exact ⟨0, ⟨#[]⟩, Nat.zero_le _, rfl, rfl, Lib.hid rfl, Lib.hid (Below.refl _ _)⟩
      case round =>
        obtain ⟨c, s, hc, rfl, rfl, HSJ, HB⟩ := hrel
        by_cases hlt : c < m
        · have hltz : (c : Int) < (m : Int) := by omega
          have hcl : c < P.length := by rw [HM.out]; exact hlt
          obtain ⟨pb, po, rfl, hpb, p0, p1⟩ := (HU3.out.keep HB.out (Nat.le_refl _)).at c hcl
          obtain ⟨x1, x2, hx⟩ : ∃ x1 x2, P[c] = (x1, x2) := ⟨_, _, rfl⟩
          obtain ⟨h1, h2, h3⟩ := HPM.out P[c] (List.getElem_mem hcl)
          obtain ⟨k, j, b, off, b2, off2, q, fc, hk, hj, hkd, hjq, hade, hb, hb2, e0, e1⟩ := place_at (HV3.out.keep HB.out (Nat.le_refl _)) h1 h2 h3
          have htk : P.take (c + 1) = P.take c ++ [P[c]] := (List.take_append_getElem hcl).symm
          obtain ⟨nm, hnm⟩ : ∃ nm, Dt.nmOf d P[c] = nm := ⟨_, rfl⟩
          have hnms : nm.size ≤ 1000 := by rw [← hnm]; exact Dt.nmOf_size HD.out _
          rw [hnm] at e1
          have hsl : s.size ≤ 20000000 := by
            have g1 := jnl_len (l := (P.take c).map (Dt.nmOf d)) (fun x hx => by obtain ⟨p, _, rfl⟩ := List.mem_map.1 hx; exact Dt.nmOf_size HD.out p)
            have g2 : (P.take c).length ≤ c := by rw [List.length_take]; exact Nat.min_le_left _ _
            have g3 : s.data.toList.length = s.size := by rw [Array.length_toList]; rfl
            rw [HSJ.out, List.length_map] at *
            rw [← g3]
            omega
          have HTK : Hid ((P.take (c + 1)).map (Dt.nmOf d) = (P.take c).map (Dt.nmOf d) ++ [nm]) := Lib.hid (by rw [htk, List.map_append, List.map_cons, List.map_nil, hnm])
          have HC0 : Hid ((P.take c).map (Dt.nmOf d) = [] ↔ c = 0) := Lib.hid (by
            rw [List.map_eq_nil_iff, List.take_eq_nil_iff]
            constructor
            · rintro (h | h)
              · exact h
              · rw [h] at hcl; simp at hcl
            · exact .inl)
          rw [hx] at p0 p1 hk hj
          dsimp only at p0 p1 hk hj
          subst hade
          subst hk hj
          rw [HN.out] at hkd
          have hkb : k ≤ 100000 := by omega
          have hkz : (k : Int) < (n : Int) := by omega
          have hjz : (j : Int) < (q : Int) := by omega
          have hj0 : (0 : Int) ≤ j := by omega
          have hk0 : (0 : Int) ≤ k := by omega
          have hk1 : (k : Int) + 1 - 1 = k := by omega
          have hc0 : (0 : Int) ≤ c := by omega
          clear hx h1 h2 h3 htk hnm hcl
          by_cases hz0 : c = 0
          · obtain ⟨s2, hs2⟩ : ∃ s2, s ++ nm = s2 := ⟨_, rfl⟩
            have HSN : Hid (s2.data.toList = jnl ((P.take (c + 1)).map (Dt.nmOf d))) := Lib.hid (by
              rw [HTK.out, jnl_snoc, if_pos (HC0.out.2 hz0), ← hs2, ByteArray.data_append, Array.toList_append, HSJ.out, HC0.out.2 hz0]
              simp [jnl])
            have hcat2 : ∀ W : World, (Op.stringOp .add s nm).run Try.prog W = .ok (.string s2) W := fun W => by rw [← hs2]; exact run_string_add_sum W _ _ (by omega)
            have hgt : ¬ (0 : Int) < (c : Int) := by omega
            have HZ0 := Lib.hid hz0
            have HBd : Hid (k ≤ 100000 ∧ (k : Int) + 1 - 1 = k) := Lib.hid ⟨hkb, hk1⟩
            clear hs2 hz0 hsl hnms hk1
            have hw1 : wrap64 ((k : Int) + 1 - 1) = k := by rw [HBd.out.2]; exact wrap_k k HBd.out.1
            have hw2 : IntKind.i64.wrap ((k : Int) + 1 - 1) = k := by rw [HBd.out.2]; exact wrap_k' k HBd.out.1
            go_wp2
            go_quiet ((fail))
            clear hw1 hw2 hcat2 p0 p1 e0 e1
            go_wp2
            go_roundw
            case rel => exact ⟨c + 1, s2, by omega, by go_num, rfl, HSN, Lib.hid (HB.out.trans ((below_drewNg wr _).mono HB.out.size))⟩
            case measure => simp [intOf]; omega
          · obtain ⟨s1, hs1⟩ : ∃ s1, s ++ (⟨#[32]⟩ : ByteArray) = s1 := ⟨_, rfl⟩
            obtain ⟨s2, hs2⟩ : ∃ s2, s1 ++ nm = s2 := ⟨_, rfl⟩
            have HSN : Hid (s2.data.toList = jnl ((P.take (c + 1)).map (Dt.nmOf d))) := Lib.hid (by
              rw [HTK.out, jnl_snoc, if_neg (fun h => hz0 (HC0.out.1 h)), ← hs2, ← hs1, ByteArray.data_append, ByteArray.data_append, Array.toList_append, Array.toList_append, HSJ.out]
              simp)
            have hs1l : s1.size ≤ 20000001 := by rw [← hs1, ByteArray.size_append]; have : (⟨#[32]⟩ : ByteArray).size = 1 := rfl; omega
            have hcat1 : ∀ W : World, (Op.stringOp .add s ⟨#[32]⟩).run Try.prog W = .ok (.string s1) W := fun W => by rw [← hs1]; exact run_string_add_sum W _ _ (by have : (⟨#[32]⟩ : ByteArray).size = 1 := rfl; omega)
            have hcat2 : ∀ W : World, (Op.stringOp .add s1 nm).run Try.prog W = .ok (.string s2) W := fun W => by rw [← hs2]; exact run_string_add_sum W _ _ (by omega)
            have hgt : (0 : Int) < (c : Int) := by omega
            have HBd : Hid (k ≤ 100000 ∧ (k : Int) + 1 - 1 = k) := Lib.hid ⟨hkb, hk1⟩
            clear hs2 hs1 hz0 hsl hs1l hnms hk1
            have hw1 : wrap64 ((k : Int) + 1 - 1) = k := by rw [HBd.out.2]; exact wrap_k k HBd.out.1
            have hw2 : IntKind.i64.wrap ((k : Int) + 1 - 1) = k := by rw [HBd.out.2]; exact wrap_k' k HBd.out.1
            go_wp2
            go_quiet ((fail))
            clear hw1 hw2 hcat1 hcat2 p0 p1 e0 e1
            go_wp2
            go_roundw
            case rel => exact ⟨c + 1, s2, by omega, by go_num, rfl, HSN, Lib.hid (HB.out.trans ((below_drewNg wr _).mono HB.out.size))⟩
            case measure => simp [intOf]; omega
        · obtain rfl : m = c := by omega
          have hnn : ¬ (m : Int) < m := by omega
          have hse : s = ⟨(jnl (P.map (Dt.nmOf d))).toArray⟩ := bytes_eq (by
            rw [HSJ.out, List.take_of_length_le (by rw [HM.out]; exact Nat.le_refl _)])
          have HBF := Lib.hid (HB3.out.trans (HB.out.mono HB3.out.size))
          have HSE := Lib.hid hse
          clear hse
          go_wp2
          go_ret2
          exact ⟨by rw [HSE.out]; rfl, HBF.out⟩
  · have hz := Dt.shErr_bad (d := d) (t := t) (by rw [HE.out]; exact h0)
    have hz2 : Dt.txt d t = ⟨#[]⟩ := by unfold Dt.txt; rw [hz, if_neg (by decide)]
    rw [hz, hz2]
    have hne : (E == 0) = false := by simpa using h0
    have hne2 : (E != 0) = true := by simpa using h0
    clear h0 hz hz2
    go_enter Try.func40, Try.ntmps40
    go_wp2_with fail
    refine HCK.out.mono ?_
    rintro e w1 ⟨rfl, hb⟩
    have HB1 := Lib.hid hb
    clear hb
    go_wp2
    go_ret2
    exact ⟨rfl, HB1.out⟩

set_option maxRecDepth 100000 in
set_option maxHeartbeats 12800000 in
theorem law_ShapeLists (v : Value) (d : List DataM) (t : Int) (w : World) (hv : DsAt w v d) (h64 : H64 d) (hl : d.length ≤ maxLen) (ht : In64 t) :
    Calls Try.prog 10 #[v, .int .i64 t] w fun e w' => e = .returned (.bool true) ∧ Below w.heap.size w w' := by
  obtain ⟨ad, cap, hE⟩ := hv.slice
  have HV := Lib.hid hv
  have HT := Lib.hid ht
  obtain ⟨q, hq⟩ : ∃ q, Dt.fewS d = q := ⟨_, rfl⟩
  have HFW : Hid (∀ W : World, DsAt W v d → Calls Try.prog 36 #[v] W fun e w' => e = .returned (.bool q) ∧ w' = W) := Lib.hid fun W h => sFew_any v d q W h hl (Lib.hid hq)
  have HS : Hid (q = true → Sm d) := Lib.hid fun h => Dt.fewS_sm (hq.trans h) h64
  generalize d.length = n at hE
  subst hE
  clear hv h64 ht hq hl
  go_enter Try.func10, Try.ntmps10
  go_wp2_with fail
  refine (sawake_any w).mono ?_
  rintro e w1 ⟨rfl, hb⟩
  have HB := Lib.hid hb
  have HV1 := Lib.hid (HV.out.keep hb (Nat.le_refl _))
  clear hb
  go_wp2_with fail
  refine (HFW.out w1 HV1.out).mono ?_
  rintro e w2 ⟨rfl, hw⟩
  rw [hw]
  clear hw w2 HFW
  cases q with
  | false =>
    go_wp2
    go_ret
    exact ⟨rfl, HB.out⟩
  | true =>
    have HSM := Lib.hid (HS.out rfl)
    have HO1 := Lib.hid (Of_any _ d t w1 HV1.out HSM.out HT.out)
    have HO2 : Hid (∀ W : World, DsAt W (.slice ad n cap) d → Calls Try.prog 38 #[.slice ad n cap, .int .i64 t] W fun e w' => (∃ u, e = .returned u ∧ PsAt w' u (Dt.ofM d t)) ∧ Below W.heap.size W w') := Lib.hid fun W h => rOf_any _ d t W h HSM.out
    have H64 : Hid (∀ x ∈ Dt.ofM d t, In64 x.1 ∧ In64 x.2) := Lib.hid (Dt.ofM_in64 HSM.out)
    have hlen := Dt.ofM_few HSM.out t
    generalize Dt.ofM d t = L at HO1 HO2 H64 hlen
    obtain ⟨m, hm⟩ : ∃ m, L.length = m := ⟨_, rfl⟩
    rw [hm] at hlen
    have HM := Lib.hid hm
    clear hm
    go_wp2_with fail
    refine HO1.out.mono ?_
    rintro e w2 ⟨⟨u, rfl, hu⟩, hb⟩
    have HB2 := Lib.hid (HB.out.trans (hb.mono HB.out.size))
    have HV2 := Lib.hid (HV1.out.keep hb (Nat.le_refl _))
    obtain ⟨ua, uc, rfl⟩ := hu.slice
    rw [HM.out] at hu ⊢
    have HU2 := Lib.hid hu
    clear hu hb HO1 HV1
    go_wp2_with fail
    refine (HO2.out w2 HV2.out).mono ?_
    rintro e w3 ⟨⟨u, rfl, hu⟩, hb⟩
    have HB3 := Lib.hid (HB2.out.trans (hb.mono HB2.out.size))
    have HV3 := Lib.hid (HV2.out.keep hb (Nat.le_refl _))
    have HU3 := Lib.hid (HU2.out.keep hb (Nat.le_refl _))
    obtain ⟨xa, xc, rfl⟩ := hu.slice
    rw [HM.out] at hu ⊢
    have HX3 := Lib.hid hu
    clear hu hb HO2 HU2 HV2
    go_wp2
    go_loopw [7] (fun i wr => ∃ k : Nat, k ≤ m ∧ i = .int .i64 k ∧ Hid (Below w3.heap.size w3 wr)) (fun i _ => m - (intOf i).toNat)
    case atStart => exact ⟨0, Nat.zero_le _, rfl, Lib.hid (Below.refl _ _)⟩
    case round =>
      obtain ⟨k, hk, rfl, HBR⟩ := hrel
      by_cases hlt : k < m
      · have hltz : (k : Int) < (m : Int) := by omega
        have hkl : k < L.length := by rw [HM.out]; exact hlt
        obtain ⟨pb, po, rfl, hpb, p0, p1⟩ := (HU3.out.keep HBR.out (Nat.le_refl _)).at k hkl
        obtain ⟨qb, qo, rfl, hqb, q0, q1⟩ := (HX3.out.keep HBR.out (Nat.le_refl _)).at k hkl
        obtain ⟨x1, x2, hx⟩ : ∃ x1 x2, L[k] = (x1, x2) := ⟨_, _, rfl⟩
        have h64 := H64.out L[k] (List.getElem_mem hkl)
        rw [hx] at p0 p1 q0 q1 h64
        dsimp only at p0 p1 q0 q1 h64
        have heq := fun W : World => place_neq W x1 x2 x1 x2 true h64.1 h64.2 h64.1 h64.2 (by simp)
        have hk0 : (0 : Int) ≤ k := by omega
        clear hx h64 hkl hpb hqb
        go_wp2
        go_quiet ((fail))
        clear heq p0 p1 q0 q1
        go_wp2
        go_roundw
        case rel => exact ⟨k + 1, by omega, by go_num, Lib.hid (HBR.out.trans ((below_drewNg wr _).mono HBR.out.size))⟩
        case measure => simp [intOf]; omega
      · obtain rfl : m = k := by omega
        have hnn : ¬ (m : Int) < m := by omega
        have HVR := Lib.hid (HV3.out.keep HBR.out (Nat.le_refl _))
        have HBX := Lib.hid (HB3.out.trans (HBR.out.mono HB3.out.size))
        have HT1 := Lib.hid (Text_any _ d t wr HVR.out HSM.out HT.out)
        have HT2 : Hid (∀ W : World, DsAt W (.slice ad n cap) d → Calls Try.prog 40 #[.slice ad n cap, .int .i64 t] W fun e w' => e = .returned (.tuple #[.string (Dt.txt d t), .int .i64 (Dt.shErr d [t])]) ∧ Below W.heap.size W w') := Lib.hid fun W h => rText_any _ d t W h HSM.out
        generalize Dt.txt d t = X at HT1 HT2
        generalize Dt.shErr d [t] = E at HT1 HT2
        go_wp2_with fail
        refine HT1.out.mono ?_
        rintro e w4 ⟨rfl, hb⟩
        have HB4 := Lib.hid (HBX.out.trans (hb.mono HBX.out.size))
        have HV4 := Lib.hid (HVR.out.keep hb (Nat.le_refl _))
        clear hb HT1
        go_wp2_with fail
        refine (HT2.out w4 HV4.out).mono ?_
        rintro e w5 ⟨rfl, hb⟩
        have HB5 := Lib.hid (HB4.out.trans (hb.mono HB4.out.size))
        clear hb HT2
        go_wp2
        go_ret
        exact ⟨by simp, HB5.out⟩

end Go.Proofs.Yteidhlfiofiocaa
