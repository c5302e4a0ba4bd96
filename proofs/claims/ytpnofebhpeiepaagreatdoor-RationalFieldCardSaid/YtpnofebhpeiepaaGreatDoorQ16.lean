/- The law RationalField. -/
import Derived.Test.YtpnofebhpeiepaaGreatDoorQ15
set_option linter.unusedVariables false
set_option linter.unusedSimpArgs false
namespace Go.Proofs.YtpnofebhpeiepaaGreatDoor
open Go.RowKit _root_.Go.Proofs.YtpnofebhpeiepaaGreatDoor.Nm

theorem rcmp_lt {p q : Rat} (h : p < q) : rcmp p q = -1 := by
  unfold rcmp sgn2; rw [if_pos (by rw [Rat.lt_iff] at h; exact h)]
theorem rcmp_gt {p q : Rat} (h : q < p) : rcmp p q = 1 := by
  have h2 : ¬ p < q := by grind
  unfold rcmp sgn2
  rw [if_neg (by rw [Rat.lt_iff] at h2; exact h2), if_pos (by rw [Rat.lt_iff] at h; exact h)]
theorem rcmp_eq (p : Rat) : rcmp p p = 0 := by
  unfold rcmp sgn2; rw [if_neg (by omega), if_neg (by omega)]
theorem rcmp_ways (p q : Rat) : (p < q ∧ rcmp p q = -1 ∧ rcmp q p = 1) ∨ (p = q ∧ rcmp p q = 0 ∧ rcmp q p = 0) ∨ (q < p ∧ rcmp p q = 1 ∧ rcmp q p = -1) := by
  by_cases h1 : p < q
  · exact .inl ⟨h1, rcmp_lt h1, rcmp_gt h1⟩
  · by_cases h2 : q < p
    · exact .inr (.inr ⟨h2, rcmp_gt h2, rcmp_lt h2⟩)
    · have e : p = q := by grind
      subst e
      exact .inr (.inl ⟨rfl, rcmp_eq p, rcmp_eq p⟩)
theorem rcmp_add (p q r : Rat) : rcmp (p + r) (q + r) = rcmp p q := by
  rcases rcmp_ways p q with ⟨h, h1, _⟩ | ⟨h, h1, _⟩ | ⟨h, h1, _⟩
  · rw [h1]; exact rcmp_lt (by grind)
  · rw [h, rcmp_eq, rcmp_eq]
  · rw [h1]; exact rcmp_gt (by grind)

theorem cmpVal_is {a b : ByteArray} {p q : Rat} (ha : RIs a p) (hb : RIs b q) : cmpVal a b = rcmp p q := by
  unfold cmpVal; rw [ha.val, hb.val]

theorem rstr_zero {s : ByteArray} {q : Rat} (h : RIs s q) (hq : q = 0) : (s.toList == [48]) = true := by
  subst hq
  rw [h.unique str_zero]; decide +kernel
theorem rstr_not_zero {s : ByteArray} {q : Rat} (h : RIs s q) (hq : q ≠ 0) : (s.toList == [48]) = false := by
  rw [beq_eq_false_iff_ne]
  intro e
  rw [Lib.toList_data] at e
  have h2 := h.val
  rw [e, show rval [48] = some 0 from by decide +kernel] at h2
  exact hq (Option.some.inj h2).symm
theorem rstr_same {s t : ByteArray} {p q : Rat} (h : RIs s p) (h' : RIs t q) (hq : p = q) : (s.toList == t.toList) = true := by
  subst hq
  rw [h.unique h']; simp
theorem rstr_other {s t : ByteArray} {p q : Rat} (h : RIs s p) (h' : RIs t q) (hq : p ≠ q) : (s.toList == t.toList) = false := by
  rw [beq_eq_false_iff_ne]
  intro e
  rw [Lib.toList_data, Lib.toList_data] at e
  have h2 := h.val
  rw [e, h'.val] at h2
  exact hq (Option.some.inj h2).symm

set_option maxRecDepth 100000 in
set_option maxHeartbeats 6400000 in
theorem field_out (a b c : ByteArray) (w : World) (htab : Tab w) (h : ¬ (a.size ≤ 100 ∧ b.size ≤ 100 ∧ c.size ≤ 100 ∧ (rval a.data.toList).isSome = true ∧ (rval b.data.toList).isSome = true ∧ (rval c.data.toList).isSome = true)) :
    Calls Tryz.prog 8 #[.string a, .string b, .string c] w fun e w' => e = .returned (.bool true) ∧ Below w.heap.size w w' := by
  have HT := Lib.hid htab
  clear htab
  by_cases sa : (100 : Int) < a.size
  · clear h
    go_enter Tryz.func8, Tryz.ntmps8
    go_wp2_with fail
    refine (qawake_any _ HT.out).mono ?_
    rintro e w1 ⟨rfl, hb1⟩
    have HW1 := Lib.hid hb1
    clear hb1
    go_wp2
    go_ret
    exact ⟨rfl, HW1.out⟩
  · have za : a.size ≤ 100 := by omega
    by_cases sb : (100 : Int) < b.size
    · clear h
      go_enter Tryz.func8, Tryz.ntmps8
      go_wp2_with fail
      refine (qawake_any _ HT.out).mono ?_
      rintro e w1 ⟨rfl, hb1⟩
      have HW1 := Lib.hid hb1
      clear hb1
      go_wp2
      go_ret
      exact ⟨rfl, HW1.out⟩
    · have zb : b.size ≤ 100 := by omega
      by_cases sc : (100 : Int) < c.size
      · clear h
        go_enter Tryz.func8, Tryz.ntmps8
        go_wp2_with fail
        refine (qawake_any _ HT.out).mono ?_
        rintro e w1 ⟨rfl, hb1⟩
        have HW1 := Lib.hid hb1
        clear hb1
        go_wp2
        go_ret
        exact ⟨rfl, HW1.out⟩
      · have zc : c.size ≤ 100 := by omega
        cases ka : (rval a.data.toList).isSome
        · clear h
          have KA := Lib.hid ka
          clear ka
          go_enter Tryz.func8, Tryz.ntmps8
          go_wp2_with fail
          refine (qValid_any a false _ KA (by omega)).mono ?_
          rintro e v1 ⟨rfl, hb⟩
          have HV1 := Lib.hid hb
          clear hb
          go_wp2_with fail
          refine (qawake_any _ (tab_keep HT.out HV1.out)).mono ?_
          rintro e w1 ⟨rfl, hb1⟩
          have HW1 := Lib.hid (HV1.out.trans (hb1.mono HV1.out.size))
          clear hb1
          go_wp2
          go_ret
          exact ⟨rfl, HW1.out⟩
        · skip
          cases kb : (rval b.data.toList).isSome
          · clear h
            have KA := Lib.hid ka
            have KB := Lib.hid kb
            clear ka kb
            go_enter Tryz.func8, Tryz.ntmps8
            go_wp2_with fail
            refine (qValid_any a true _ KA (by omega)).mono ?_
            rintro e v1 ⟨rfl, hb⟩
            have HV1 := Lib.hid hb
            clear hb
            go_wp2_with fail
            refine (qValid_any b false _ KB (by omega)).mono ?_
            rintro e v2 ⟨rfl, hb⟩
            have HV2 := Lib.hid (HV1.out.trans (hb.mono HV1.out.size))
            clear hb
            go_wp2_with fail
            refine (qawake_any _ (tab_keep HT.out HV2.out)).mono ?_
            rintro e w1 ⟨rfl, hb1⟩
            have HW1 := Lib.hid (HV2.out.trans (hb1.mono HV2.out.size))
            clear hb1
            go_wp2
            go_ret
            exact ⟨rfl, HW1.out⟩
          · skip
            cases kc : (rval c.data.toList).isSome
            · clear h
              have KA := Lib.hid ka
              have KB := Lib.hid kb
              have KC := Lib.hid kc
              clear ka kb kc
              go_enter Tryz.func8, Tryz.ntmps8
              go_wp2_with fail
              refine (qValid_any a true _ KA (by omega)).mono ?_
              rintro e v1 ⟨rfl, hb⟩
              have HV1 := Lib.hid hb
              clear hb
              go_wp2_with fail
              refine (qValid_any b true _ KB (by omega)).mono ?_
              rintro e v2 ⟨rfl, hb⟩
              have HV2 := Lib.hid (HV1.out.trans (hb.mono HV1.out.size))
              clear hb
              go_wp2_with fail
              refine (qValid_any c false _ KC (by omega)).mono ?_
              rintro e v3 ⟨rfl, hb⟩
              have HV3 := Lib.hid (HV2.out.trans (hb.mono HV2.out.size))
              clear hb
              go_wp2_with fail
              refine (qawake_any _ (tab_keep HT.out HV3.out)).mono ?_
              rintro e w1 ⟨rfl, hb1⟩
              have HW1 := Lib.hid (HV3.out.trans (hb1.mono HV3.out.size))
              clear hb1
              go_wp2
              go_ret
              exact ⟨rfl, HW1.out⟩
            · exact absurd ⟨za, zb, zc, ka, kb, kc⟩ h

set_option maxRecDepth 100000 in
set_option maxHeartbeats 6400000 in
theorem field_in (a b c : ByteArray) (p q r : Rat) (w : World) (htab : Tab w) (la : a.size ≤ 100) (lb : b.size ≤ 100) (lc : c.size ≤ 100) (ha : RIs a p) (hb : RIs b q) (hc : RIs c r) :
    Calls Tryz.prog 8 #[.string a, .string b, .string c] w fun e w' => e = .returned (.bool true) ∧ Below w.heap.size w w' := by
  have HT := Lib.hid htab
  have HA := Lib.hid ha
  have HB := Lib.hid hb
  have HC := Lib.hid hc
  have KA : Hid ((rval a.data.toList).isSome = true) := Lib.hid (by rw [ha.val]; rfl)
  have KB : Hid ((rval b.data.toList).isSome = true) := Lib.hid (by rw [hb.val]; rfl)
  have KC : Hid ((rval c.data.toList).isSome = true) := Lib.hid (by rw [hc.val]; rfl)
  have ta := ha.ten la
  have tb := hb.ten lb
  have tc := hc.ten lc
  obtain ⟨t1, h1⟩ := (ta.add tb).str (by omega)
  obtain ⟨t2, h2⟩ := (tb.add tc).str (by omega)
  obtain ⟨t3, h3⟩ := ((ta.add tb).add tc).str (by omega)
  obtain ⟨t4, h4⟩ := (ta.mul (tb.add tc)).str (by omega)
  obtain ⟨t5, h5⟩ := (ta.mul tb).str (by omega)
  obtain ⟨t6, h6⟩ := (ta.mul tc).str (by omega)
  obtain ⟨t7, h7⟩ := (ta.add tc).str (by omega)
  have z1 := RIs.size h1
  have z2 := RIs.size h2
  have z3 := RIs.size h3
  have z4 := RIs.size h4
  have z5 := RIs.size h5
  have z6 := RIs.size h6
  have z7 := RIs.size h7
  have O1 : Hid (OpRes fAdd gAdd a b t1 0) := Lib.hid (Add_res ha hb h1 rfl)
  have O2 : Hid (OpRes fAdd gAdd b a t1 0) := Lib.hid (Add_res hb ha h1 (Rat.add_comm q p))
  have O3 : Hid (OpRes fAdd gAdd b c t2 0) := Lib.hid (Add_res hb hc h2 rfl)
  have O4 : Hid (OpRes fAdd gAdd t1 c t3 0) := Lib.hid (Add_res h1 hc h3 rfl)
  have O5 : Hid (OpRes fAdd gAdd a t2 t3 0) := Lib.hid (Add_res ha h2 h3 (by grind))
  have O6 : Hid (OpRes fSub gAdd t1 b a 0) := Lib.hid (Sub_res h1 hb ha (by grind))
  have O7 : Hid (OpRes fMul gAdd a t2 t4 0) := Lib.hid (Mul_res ha h2 h4 rfl)
  have O8 : Hid (OpRes fMul gAdd a b t5 0) := Lib.hid (Mul_res ha hb h5 rfl)
  have O9 : Hid (OpRes fMul gAdd a c t6 0) := Lib.hid (Mul_res ha hc h6 rfl)
  have O10 : Hid (OpRes fAdd gAdd t5 t6 t4 0) := Lib.hid (Add_res h5 h6 h4 (by grind))
  have O11 : Hid (OpRes fAdd gAdd a c t7 0) := Lib.hid (Add_res ha hc h7 rfl)
  obtain ⟨c0, hc0⟩ : ∃ z, rcmp p q = z := ⟨_, rfl⟩
  obtain ⟨c1, hc1⟩ : ∃ z, rcmp q p = z := ⟨_, rfl⟩
  have C1 : Hid (cmpVal t7 t2 = c0) := Lib.hid (by rw [cmpVal_is h7 h2, rcmp_add, hc0])
  have C2 : Hid (cmpVal a b = c0) := Lib.hid (by rw [cmpVal_is ha hb, hc0])
  have C3 : Hid (cmpVal b a = c1) := Lib.hid (by rw [cmpVal_is hb ha, hc1])
  obtain ⟨e0, f1, f2, f3⟩ : ∃ e : Bool, (c0 == 0) = e ∧ (a.toList == b.toList) = e ∧ IntKind.i64.wrap (-c1) = c0 := by
    rcases rcmp_ways p q with ⟨h, k1, k2⟩ | ⟨h, k1, k2⟩ | ⟨h, k1, k2⟩
    · exact ⟨false, by rw [← hc0, k1]; rfl, rstr_other ha hb (by grind), by rw [← hc0, ← hc1, k1, k2]; rfl⟩
    · exact ⟨true, by rw [← hc0, k1]; rfl, rstr_same ha hb h, by rw [← hc0, ← hc1, k1, k2]; rfl⟩
    · exact ⟨false, by rw [← hc0, k1]; rfl, rstr_other ha hb (by grind), by rw [← hc0, ← hc1, k1, k2]; rfl⟩
  have HF := Lib.hid (And.intro f1 (And.intro f2 f3))
  by_cases hq : q = 0
  · have hz : (b.toList == [48]) = true := rstr_zero hb hq
    clear htab ha hb hc ta tb tc h1 h2 h3 h4 h5 h6 h7 hc0 hc1 hq f1 f2 f3
    go_enter Tryz.func8, Tryz.ntmps8
    go_wp2_with fail
    refine (qValid_any a true _ KA (by omega)).mono ?_
    rintro e v1 ⟨rfl, hb⟩
    have HV1 := Lib.hid hb
    clear hb
    go_wp2_with fail
    refine (qValid_any b true _ KB (by omega)).mono ?_
    rintro e v2 ⟨rfl, hb⟩
    have HV2 := Lib.hid (HV1.out.trans (hb.mono HV1.out.size))
    clear hb
    go_wp2_with fail
    refine (qValid_any c true _ KC (by omega)).mono ?_
    rintro e v3 ⟨rfl, hb⟩
    have HV3 := Lib.hid (HV2.out.trans (hb.mono HV2.out.size))
    clear hb
    go_wp2_with fail
    refine (qAdd_any a b t1 0 _ O1 (by omega) (by omega) (tab_keep HT.out HV3.out)).mono ?_
    rintro e v4 ⟨rfl, hb⟩
    have HV4 := Lib.hid (HV3.out.trans (hb.mono HV3.out.size))
    clear hb
    go_wp2_with fail
    refine (qAdd_any b a t1 0 _ O2 (by omega) (by omega) (tab_keep HT.out HV4.out)).mono ?_
    rintro e v5 ⟨rfl, hb⟩
    have HV5 := Lib.hid (HV4.out.trans (hb.mono HV4.out.size))
    clear hb
    go_wp2_with fail
    refine (qAdd_any b c t2 0 _ O3 (by omega) (by omega) (tab_keep HT.out HV5.out)).mono ?_
    rintro e v6 ⟨rfl, hb⟩
    have HV6 := Lib.hid (HV5.out.trans (hb.mono HV5.out.size))
    clear hb
    go_wp2_with fail
    refine (qAdd_any t1 c t3 0 _ O4 (by omega) (by omega) (tab_keep HT.out HV6.out)).mono ?_
    rintro e v7 ⟨rfl, hb⟩
    have HV7 := Lib.hid (HV6.out.trans (hb.mono HV6.out.size))
    clear hb
    go_wp2_with fail
    refine (qAdd_any a t2 t3 0 _ O5 (by omega) (by omega) (tab_keep HT.out HV7.out)).mono ?_
    rintro e v8 ⟨rfl, hb⟩
    have HV8 := Lib.hid (HV7.out.trans (hb.mono HV7.out.size))
    clear hb
    go_wp2_with fail
    refine (qSub_any t1 b a 0 _ O6 (by omega) (by omega) (tab_keep HT.out HV8.out)).mono ?_
    rintro e v9 ⟨rfl, hb⟩
    have HV9 := Lib.hid (HV8.out.trans (hb.mono HV8.out.size))
    clear hb
    go_wp2_with fail
    refine (qMul_any a t2 t4 0 _ O7 (by omega) (by omega) (tab_keep HT.out HV9.out)).mono ?_
    rintro e v10 ⟨rfl, hb⟩
    have HV10 := Lib.hid (HV9.out.trans (hb.mono HV9.out.size))
    clear hb
    go_wp2_with fail
    refine (qMul_any a b t5 0 _ O8 (by omega) (by omega) (tab_keep HT.out HV10.out)).mono ?_
    rintro e v11 ⟨rfl, hb⟩
    have HV11 := Lib.hid (HV10.out.trans (hb.mono HV10.out.size))
    clear hb
    go_wp2_with fail
    refine (qMul_any a c t6 0 _ O9 (by omega) (by omega) (tab_keep HT.out HV11.out)).mono ?_
    rintro e v12 ⟨rfl, hb⟩
    have HV12 := Lib.hid (HV11.out.trans (hb.mono HV11.out.size))
    clear hb
    go_wp2_with fail
    refine (qAdd_any t5 t6 t4 0 _ O10 (by omega) (by omega) (tab_keep HT.out HV12.out)).mono ?_
    rintro e v13 ⟨rfl, hb⟩
    have HV13 := Lib.hid (HV12.out.trans (hb.mono HV12.out.size))
    clear hb
    go_wp2_with fail
    refine (qAdd_any a c t7 0 _ O11 (by omega) (by omega) (tab_keep HT.out HV13.out)).mono ?_
    rintro e v14 ⟨rfl, hb⟩
    have HV14 := Lib.hid (HV13.out.trans (hb.mono HV13.out.size))
    clear hb
    go_wp2_with fail
    refine (qawake_any _ (tab_keep HT.out HV14.out)).mono ?_
    rintro e v15 ⟨rfl, hb⟩
    have HV15 := Lib.hid (HV14.out.trans (hb.mono HV14.out.size))
    clear hb
    obtain ⟨f1, f2, f3⟩ := HF.out
    go_wp2_with fail
    refine (qCmp_any t7 t2 c0 _ C1 (by omega) (by omega)).mono ?_
    rintro e v16 ⟨rfl, hb⟩
    have HV16 := Lib.hid (HV15.out.trans (hb.mono HV15.out.size))
    clear hb
    go_wp2_with fail
    refine (qCmp_any a b c0 _ C2 (by omega) (by omega)).mono ?_
    rintro e v17 ⟨rfl, hb⟩
    have HV17 := Lib.hid (HV16.out.trans (hb.mono HV16.out.size))
    clear hb
    go_wp2_with fail
    refine (qCmp_any a b c0 _ C2 (by omega) (by omega)).mono ?_
    rintro e v18 ⟨rfl, hb⟩
    have HV18 := Lib.hid (HV17.out.trans (hb.mono HV17.out.size))
    clear hb
    go_wp2_with fail
    refine (qCmp_any a b c0 _ C2 (by omega) (by omega)).mono ?_
    rintro e v19 ⟨rfl, hb⟩
    have HV19 := Lib.hid (HV18.out.trans (hb.mono HV18.out.size))
    clear hb
    go_wp2_with fail
    refine (qCmp_any b a c1 _ C3 (by omega) (by omega)).mono ?_
    rintro e v20 ⟨rfl, hb⟩
    have HV20 := Lib.hid (HV19.out.trans (hb.mono HV19.out.size))
    clear hb
    go_wp2
    go_ret
    exact ⟨rfl, HV20.out⟩
  · have hz : (b.toList == [48]) = false := rstr_not_zero hb hq
    have O12 : Hid (OpRes fDiv gDiv t5 b a 0) := Lib.hid (Div_res h5 hb hq ha (by grind))
    clear htab ha hb hc ta tb tc h1 h2 h3 h4 h5 h6 h7 hc0 hc1 hq f1 f2 f3
    go_enter Tryz.func8, Tryz.ntmps8
    go_wp2_with fail
    refine (qValid_any a true _ KA (by omega)).mono ?_
    rintro e v1 ⟨rfl, hb⟩
    have HV1 := Lib.hid hb
    clear hb
    go_wp2_with fail
    refine (qValid_any b true _ KB (by omega)).mono ?_
    rintro e v2 ⟨rfl, hb⟩
    have HV2 := Lib.hid (HV1.out.trans (hb.mono HV1.out.size))
    clear hb
    go_wp2_with fail
    refine (qValid_any c true _ KC (by omega)).mono ?_
    rintro e v3 ⟨rfl, hb⟩
    have HV3 := Lib.hid (HV2.out.trans (hb.mono HV2.out.size))
    clear hb
    go_wp2_with fail
    refine (qAdd_any a b t1 0 _ O1 (by omega) (by omega) (tab_keep HT.out HV3.out)).mono ?_
    rintro e v4 ⟨rfl, hb⟩
    have HV4 := Lib.hid (HV3.out.trans (hb.mono HV3.out.size))
    clear hb
    go_wp2_with fail
    refine (qAdd_any b a t1 0 _ O2 (by omega) (by omega) (tab_keep HT.out HV4.out)).mono ?_
    rintro e v5 ⟨rfl, hb⟩
    have HV5 := Lib.hid (HV4.out.trans (hb.mono HV4.out.size))
    clear hb
    go_wp2_with fail
    refine (qAdd_any b c t2 0 _ O3 (by omega) (by omega) (tab_keep HT.out HV5.out)).mono ?_
    rintro e v6 ⟨rfl, hb⟩
    have HV6 := Lib.hid (HV5.out.trans (hb.mono HV5.out.size))
    clear hb
    go_wp2_with fail
    refine (qAdd_any t1 c t3 0 _ O4 (by omega) (by omega) (tab_keep HT.out HV6.out)).mono ?_
    rintro e v7 ⟨rfl, hb⟩
    have HV7 := Lib.hid (HV6.out.trans (hb.mono HV6.out.size))
    clear hb
    go_wp2_with fail
    refine (qAdd_any a t2 t3 0 _ O5 (by omega) (by omega) (tab_keep HT.out HV7.out)).mono ?_
    rintro e v8 ⟨rfl, hb⟩
    have HV8 := Lib.hid (HV7.out.trans (hb.mono HV7.out.size))
    clear hb
    go_wp2_with fail
    refine (qSub_any t1 b a 0 _ O6 (by omega) (by omega) (tab_keep HT.out HV8.out)).mono ?_
    rintro e v9 ⟨rfl, hb⟩
    have HV9 := Lib.hid (HV8.out.trans (hb.mono HV8.out.size))
    clear hb
    go_wp2_with fail
    refine (qMul_any a t2 t4 0 _ O7 (by omega) (by omega) (tab_keep HT.out HV9.out)).mono ?_
    rintro e v10 ⟨rfl, hb⟩
    have HV10 := Lib.hid (HV9.out.trans (hb.mono HV9.out.size))
    clear hb
    go_wp2_with fail
    refine (qMul_any a b t5 0 _ O8 (by omega) (by omega) (tab_keep HT.out HV10.out)).mono ?_
    rintro e v11 ⟨rfl, hb⟩
    have HV11 := Lib.hid (HV10.out.trans (hb.mono HV10.out.size))
    clear hb
    go_wp2_with fail
    refine (qMul_any a c t6 0 _ O9 (by omega) (by omega) (tab_keep HT.out HV11.out)).mono ?_
    rintro e v12 ⟨rfl, hb⟩
    have HV12 := Lib.hid (HV11.out.trans (hb.mono HV11.out.size))
    clear hb
    go_wp2_with fail
    refine (qAdd_any t5 t6 t4 0 _ O10 (by omega) (by omega) (tab_keep HT.out HV12.out)).mono ?_
    rintro e v13 ⟨rfl, hb⟩
    have HV13 := Lib.hid (HV12.out.trans (hb.mono HV12.out.size))
    clear hb
    go_wp2_with fail
    refine (qDiv_any t5 b a 0 _ O12 (by omega) (by omega) (tab_keep HT.out HV13.out)).mono ?_
    rintro e v14 ⟨rfl, hb⟩
    have HV14 := Lib.hid (HV13.out.trans (hb.mono HV13.out.size))
    clear hb
    go_wp2_with fail
    refine (qAdd_any a c t7 0 _ O11 (by omega) (by omega) (tab_keep HT.out HV14.out)).mono ?_
    rintro e v15 ⟨rfl, hb⟩
    have HV15 := Lib.hid (HV14.out.trans (hb.mono HV14.out.size))
    clear hb
    go_wp2_with fail
    refine (qawake_any _ (tab_keep HT.out HV15.out)).mono ?_
    rintro e v16 ⟨rfl, hb⟩
    have HV16 := Lib.hid (HV15.out.trans (hb.mono HV15.out.size))
    clear hb
    obtain ⟨f1, f2, f3⟩ := HF.out
    go_wp2_with fail
    refine (qCmp_any t7 t2 c0 _ C1 (by omega) (by omega)).mono ?_
    rintro e v17 ⟨rfl, hb⟩
    have HV17 := Lib.hid (HV16.out.trans (hb.mono HV16.out.size))
    clear hb
    go_wp2_with fail
    refine (qCmp_any a b c0 _ C2 (by omega) (by omega)).mono ?_
    rintro e v18 ⟨rfl, hb⟩
    have HV18 := Lib.hid (HV17.out.trans (hb.mono HV17.out.size))
    clear hb
    go_wp2_with fail
    refine (qCmp_any a b c0 _ C2 (by omega) (by omega)).mono ?_
    rintro e v19 ⟨rfl, hb⟩
    have HV19 := Lib.hid (HV18.out.trans (hb.mono HV18.out.size))
    clear hb
    go_wp2_with fail
    refine (qCmp_any a b c0 _ C2 (by omega) (by omega)).mono ?_
    rintro e v20 ⟨rfl, hb⟩
    have HV20 := Lib.hid (HV19.out.trans (hb.mono HV19.out.size))
    clear hb
    go_wp2_with fail
    refine (qCmp_any b a c1 _ C3 (by omega) (by omega)).mono ?_
    rintro e v21 ⟨rfl, hb⟩
    have HV21 := Lib.hid (HV20.out.trans (hb.mono HV20.out.size))
    clear hb
    go_wp2
    go_ret
    exact ⟨rfl, HV21.out⟩

theorem law_RationalField (a b c : ByteArray) (w : World) (htab : Tab w) :
    Calls Tryz.prog 8 #[.string a, .string b, .string c] w fun e w' => e = .returned (.bool true) ∧ Below w.heap.size w w' := by
  by_cases h : a.size ≤ 100 ∧ b.size ≤ 100 ∧ c.size ≤ 100 ∧ (rval a.data.toList).isSome = true ∧ (rval b.data.toList).isSome = true ∧ (rval c.data.toList).isSome = true
  · obtain ⟨la, lb, lc, ka, kb, kc⟩ := h
    obtain ⟨p, hp⟩ := Option.isSome_iff_exists.1 ka
    obtain ⟨q, hq⟩ := Option.isSome_iff_exists.1 kb
    obtain ⟨r, hr⟩ := Option.isSome_iff_exists.1 kc
    exact field_in a b c p q r w htab la lb lc (RIs.of hp) (RIs.of hq) (RIs.of hr)
  · exact field_out a b c w htab h

end Go.Proofs.YtpnofebhpeiepaaGreatDoor
