/- What the reference's Cmp and Small and integer's Neg do. -/
import Derived.Test.YtdkpcjfadabkbaaGreatDoorR12
import Derived.Test.YtdkpcjfadabkbaaGreatDoorK1
set_option linter.unusedVariables false
set_option linter.unusedSimpArgs false
namespace Go.Proofs.YtdkpcjfadabkbaaGreatDoor
open Go.RowKit _root_.Go.Proofs.YtdkpcjfadabkbaaGreatDoor.Nm

theorem Neg_good (s : ByteArray) (w : World) (hs : Hid (canon s.data.toList = true)) (htab : Tab w) :
    Calls Tryz.prog 23 #[.string s] w fun e w' => e = .returned (.string ⟨(Lib.itoa (-(zv s.data.toList))).toArray⟩) ∧ Below w.heap.size w w' := by
  have HT := Lib.hid htab
  have ln := ((zv_ten _ hs.out).neg).ds (by omega)
  obtain ⟨z, hz⟩ : ∃ z, zv s.data.toList = z := ⟨_, rfl⟩
  rw [hz] at ln ⊢
  have HZ := Lib.hid (And.intro trivial hz)
  obtain ⟨y, hy⟩ : ∃ y, -z = y := ⟨_, rfl⟩
  rw [hy] at ln ⊢
  have HY := Lib.hid (And.intro trivial hy)
  clear htab hz hy
  go_enter Tryz.func23, Tryz.ntmps23
  go_wp2_with fail
  refine (Valid_to s _ hs _).mono ?_
  rintro e w9 ⟨rfl, rfl⟩
  go_wp2_with fail
  refine (Read_any Ev s hs.out _ Ev.all).mono ?_
  rintro e w1 ⟨v1, rfl, hv1, hb⟩
  rw [HZ.out.2] at hv1
  have HV1 := Lib.hid hv1
  have HW1 := Lib.hid hb
  obtain ⟨s1, p1, rfl⟩ := hv1.form
  clear hv1 hb
  go_wp2_with fail
  refine (Negated_any Ev _ z _ Ev.all HV1.out).mono ?_
  rintro e w2 ⟨v2, rfl, hv2, hb⟩
  rw [HY.out.2] at hv2
  have HV2 := Lib.hid hv2
  have HW2 := Lib.hid (HW1.out.trans (hb.mono HW1.out.size))
  obtain ⟨s2, p2, rfl⟩ := hv2.form
  clear hv2 hb
  go_wp2_with fail
  refine (Text_any Ev _ y _ HV2.out ln (tab_keep HT.out HW2.out)).mono ?_
  rintro e w3 ⟨rfl, hb⟩
  have HW3 := Lib.hid (HW2.out.trans (hb.mono HW2.out.size))
  clear hb
  go_wp2
  go_ret
  exact ⟨rfl, HW3.out⟩

theorem Neg_none (s : ByteArray) (w : World) (hs : Hid (canon s.data.toList = false)) :
    Calls Tryz.prog 23 #[.string s] w fun e w' => e = .returned (.string ⟨#[]⟩) ∧ w = w' := by
  go_enter Tryz.func23, Tryz.ntmps23
  go_wp2_with fail
  refine (Valid_to s _ hs _).mono ?_
  rintro e w9 ⟨rfl, rfl⟩
  go_wp2
  go_ret
  exact ⟨rfl, rfl⟩

set_option maxRecDepth 100000 in
set_option maxHeartbeats 3200000 in
theorem rCmp_any (v1 v2 : Value) (x y c : Int) (w : World) (h1 : Ref w v1 x) (h2 : Ref w v2 y) (lx : (dg x.natAbs).length ≤ 2000) (ly : (dg y.natAbs).length ≤ 2000) (hc : Hid (True ∧ c = sgn2 x y)) :
    Calls Tryz.prog 26 #[v1, v2] w fun e w' => e = .returned (.int .i64 c) ∧ Below w.heap.size w w' := by
  obtain ⟨aa, ca, rfl⟩ := h1.form
  obtain ⟨ab, cb, rfl⟩ := h2.form
  obtain ⟨n1, hn1⟩ : ∃ b, isNeg x = b := ⟨_, rfl⟩
  obtain ⟨n2, hn2⟩ : ∃ b, isNeg y = b := ⟨_, rfl⟩
  obtain ⟨la, hla⟩ : ∃ l, (dg x.natAbs).length = l := ⟨_, rfl⟩
  obtain ⟨lb, hlb⟩ : ∃ l, (dg y.natAbs).length = l := ⟨_, rfl⟩
  rw [hn1, hla] at h1 ⊢
  rw [hn2, hlb] at h2 ⊢
  obtain ⟨r, hr⟩ : ∃ r, x - y = r := ⟨_, rfl⟩
  have HR := Lib.hid (And.intro trivial hr.symm)
  obtain ⟨l, hl⟩ : ∃ l, (dg r.natAbs).length = l := ⟨_, rfl⟩
  have HL := Lib.hid (And.intro trivial hl)
  obtain ⟨nr, hnr⟩ : ∃ l, isNeg r = l := ⟨_, rfl⟩
  have HNR := Lib.hid (And.intro trivial hnr)
  have hways : (l = 0 ∧ c = 0) ∨ (0 < l ∧ nr = true ∧ c = -1) ∨ (0 < l ∧ nr = false ∧ c = 1) := by
    have h := hc.out.2
    unfold sgn2 at h
    have hl0 : l = 0 ↔ r = 0 := by
      constructor
      · intro e
        have h3 := dval_dg r.natAbs
        rw [e] at hl
        rw [List.length_eq_zero_iff.1 hl, dval_nil] at h3
        omega
      · rintro rfl; rw [← hl, show (0 : Int).natAbs = 0 from rfl, dg_zero]; rfl
    unfold isNeg at hnr
    by_cases k1 : r = 0
    · rw [if_neg (by omega), if_neg (by omega)] at h
      exact .inl ⟨hl0.2 k1, h⟩
    · have k2 : 0 < l := by
        rcases Nat.eq_zero_or_pos l with e | e
        · exact absurd (hl0.1 e) k1
        · exact e
      by_cases k3 : r < 0
      · rw [if_pos (by omega)] at h
        exact .inr (.inl ⟨k2, by rw [← hnr]; exact decide_eq_true k3, h⟩)
      · rw [if_neg (by omega), if_pos (by omega)] at h
        exact .inr (.inr ⟨k2, by rw [← hnr]; exact decide_eq_false k3, h⟩)
  have HS0 := Lib.hid (St2.start w (.bool n1) (.slice aa la ca) (.bool n2) (.slice ab lb cb) 30 30)
  have HX := Lib.hid (h1.keep HS0.out.1 (Nat.le_refl _))
  have HY := Lib.hid (h2.keep HS0.out.1 (Nat.le_refl _))
  have HLX := Lib.hid (And.intro trivial lx)
  have HLY := Lib.hid (And.intro trivial ly)
  clear h1 h2 hn1 hn2 hla hlb lx ly hr hl hnr hc
  rcases hways with ⟨rfl, rfl⟩ | ⟨q1, rfl, rfl⟩ | ⟨q1, rfl, rfl⟩
  · go_enter Tryz.func26, Tryz.ntmps26
    go_wp2_with fail
    refine (rSub_any _ _ x y r _ HX.out HY.out HLX.out.2 HLY.out.2 HR.out.2).mono ?_
    rintro e w6 ⟨v6, rfl, hv6, hb⟩
    have HW6 := Lib.hid (HS0.out.1.trans (hb.mono (by have := HS0.out.2.1; omega)))
    obtain ⟨a6, c6, rfl⟩ := hv6.form
    rw [HL.out.2, HNR.out.2]
    clear hb hv6
    go_wp2
    go_ret
    exact ⟨rfl, HW6.out.alloc HW6.out.size _⟩
  · have hl0 : ((l : Int) == 0) = false := by rw [beq_eq_false_iff_ne]; omega
    go_enter Tryz.func26, Tryz.ntmps26
    go_wp2_with fail
    refine (rSub_any _ _ x y r _ HX.out HY.out HLX.out.2 HLY.out.2 HR.out.2).mono ?_
    rintro e w6 ⟨v6, rfl, hv6, hb⟩
    have HW6 := Lib.hid (HS0.out.1.trans (hb.mono (by have := HS0.out.2.1; omega)))
    obtain ⟨a6, c6, rfl⟩ := hv6.form
    rw [HL.out.2, HNR.out.2]
    clear hb hv6
    go_wp2
    go_ret
    exact ⟨rfl, HW6.out.alloc HW6.out.size _⟩
  · have hl0 : ((l : Int) == 0) = false := by rw [beq_eq_false_iff_ne]; omega
    go_enter Tryz.func26, Tryz.ntmps26
    go_wp2_with fail
    refine (rSub_any _ _ x y r _ HX.out HY.out HLX.out.2 HLY.out.2 HR.out.2).mono ?_
    rintro e w6 ⟨v6, rfl, hv6, hb⟩
    have HW6 := Lib.hid (HS0.out.1.trans (hb.mono (by have := HS0.out.2.1; omega)))
    obtain ⟨a6, c6, rfl⟩ := hv6.form
    rw [HL.out.2, HNR.out.2]
    clear hb hv6
    go_wp2
    go_ret
    exact ⟨rfl, HW6.out.alloc HW6.out.size _⟩

end Go.Proofs.YtdkpcjfadabkbaaGreatDoor

