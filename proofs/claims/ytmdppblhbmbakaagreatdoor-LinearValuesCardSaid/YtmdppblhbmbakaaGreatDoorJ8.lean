/- What Compare and Cmp do. -/
import Derived.Test.YtmdppblhbmbakaaGreatDoorJ3
set_option linter.unusedVariables false
set_option linter.unusedSimpArgs false
namespace Go.Proofs.YtmdppblhbmbakaaGreatDoor
open Go.RowKit _root_.Go.Proofs.YtmdppblhbmbakaaGreatDoor.Nm

theorem St2.eqN {w W W' : World} {x0 x1 y0 y1 : Value} {n : Nat} (h : St2 w W x0 x1 y0 y1) (e : W' = W.drewN n) : St2 w W' x0 x1 y0 y1 := by
  rw [e]
  exact h.next (B := W.heap.size) ⟨rfl, rfl, rfl, Nat.le_refl _, fun _ _ => rfl⟩ (Nat.le_refl _)

theorem sgn2_nn (a b : Int) (ha : isNeg a = true) (hb : isNeg b = true) : sgn b.natAbs a.natAbs = sgn2 a b := by
  unfold isNeg at ha hb; unfold sgn sgn2; simp at ha hb
  by_cases h1 : a < b
  · rw [if_pos (by omega), if_pos h1]
  · rw [if_neg (by omega), if_neg h1]
    by_cases h2 : b < a
    · rw [if_pos (by omega), if_pos h2]
    · rw [if_neg (by omega), if_neg h2]
theorem sgn2_pp (a b : Int) (ha : isNeg a = false) (hb : isNeg b = false) : sgn a.natAbs b.natAbs = sgn2 a b := by
  unfold isNeg at ha hb; unfold sgn sgn2; simp at ha hb
  by_cases h1 : a < b
  · rw [if_pos (by omega), if_pos h1]
  · rw [if_neg (by omega), if_neg h1]
    by_cases h2 : b < a
    · rw [if_pos (by omega), if_pos h2]
    · rw [if_neg (by omega), if_neg h2]
theorem sgn2_np (a b : Int) (ha : isNeg a = true) (hb : isNeg b = false) : sgn2 a b = -1 := by
  unfold isNeg at ha hb; unfold sgn2; simp at ha hb
  rw [if_pos (by omega)]
theorem sgn2_pn (a b : Int) (ha : isNeg a = false) (hb : isNeg b = true) : sgn2 a b = 1 := by
  unfold isNeg at ha hb; unfold sgn2; simp at ha hb
  rw [if_neg (by omega), if_pos (by omega)]

set_option maxRecDepth 100000 in
set_option maxHeartbeats 3200000 in
theorem Compare_nn (P : Nat → Prop) (s1 s2 : Int) (p1 p2 : Option Addr) (a b : Int) (w : World) (hP : ∀ k, w.heap.size ≤ k → P k) (ha : IsInt P w (.agg #[.int .i64 s1, .pointer p1]) a) (hb : IsInt P w (.agg #[.int .i64 s2, .pointer p2]) b)
    (hp : (p1.isNone && p2.isNone) = false) (hna : isNeg a = true) (hnb : isNeg b = true) :
    Calls Tryz.prog 123 #[.agg #[.int .i64 s1, .pointer p1], .agg #[.int .i64 s2, .pointer p2]] w fun e w' => e = .returned (.int .i64 (sgn2 a b)) ∧ Below w.heap.size w w' := by
  have HA := Lib.hid ha
  have HB := Lib.hid hb
  have HP := Lib.hid hP
  have HNA := Lib.hid hna
  have HNB := Lib.hid hnb
  have HV := Lib.hid (sgn2_nn a b hna hnb)
  obtain ⟨r, hr⟩ : ∃ r, sgn2 a b = r := ⟨_, rfl⟩
  have HRR := Lib.hid hr
  clear hr
  clear ha hb hP hna hnb
  have hS0 := St2.start w (.int .i64 s1) (.pointer p1) (.int .i64 s2) (.pointer p2) 107 107
  cases h1 : p1.isNone <;> cases h2 : p2.isNone
  case true.true => rw [h1, h2] at hp; cases hp
  all_goals
    clear hp
    go_enter Tryz.func123, Tryz.ntmps123
    go_wp2_with fail
    refine (isNegative_any P _ a _ (HA.out.kept (.all hS0.1))).mono ?_
    rintro e w1 ⟨rfl, hb⟩
    rw [HNA.out]
    have hS1 := hS0.next hb (Nat.le_refl _)
    clear hb
    obtain ⟨c0, c1, c2, c3, c4, c5, c6, c7⟩ := hS1.cells
    go_wp2_with fail
    refine (isNegative_any P _ b _ (HB.out.kept (.all hS1.1))).mono ?_
    rintro e w2 ⟨rfl, hb⟩
    rw [HNB.out]
    have hS2 := hS1.next hb (Nat.le_refl _)
    clear hb c0 c1 c2 c3 c4 c5 c6 c7
    obtain ⟨c0, c1, c2, c3, c4, c5, c6, c7⟩ := hS2.cells
    go_wp2_with fail
    clear c0 c1 c2 c3 c4 c5 c6 c7
    obtain ⟨c0, c1, c2, c3, c4, c5, c6, c7⟩ := hS2.drew.cells
    go_region_held3 (fun w' => w'.cell? ⟨w.heap.size, 0, none⟩ = some (.int .i64 s1) ∧ w'.cell? ⟨w.heap.size, 1, none⟩ = some (.pointer p1) ∧ w'.cell? ⟨w.heap.size + 1, 0, none⟩ = some (.int .i64 s2) ∧ w'.cell? ⟨w.heap.size + 1, 1, none⟩ = some (.pointer p2)) (first | ((try dsimp only); (repeat' apply And.intro); all_goals with_reducible assumption) | go_keep) (first | (go_at_call 133; have hgd := hT1; clear hgd; refine (limbs_any P _ a _ (by intro k hk; exact HP.out k (Nat.le_trans hT1.1.size hk)) (by exact HA.out.kept (.all hT1.1))).mono ?_; rintro e w9 ⟨v2, rfl, hv2, hi2, hb9⟩; have hT2 := hT1.next hb9 (Nat.le_refl _); clear d0 d1 d2 d3 d4 d5 d6 d7; obtain ⟨e0, e1, e2, e3, e4, e5, e6, e7⟩ := hT2.cells; obtain ⟨a2, m2, k2, rfl⟩ := hv2.slice) | (go_at_call 133; refine (limbs_any P _ b _ (by intro k hk; exact HP.out k (Nat.le_trans hS2.drew.1.size hk)) (by exact HB.out.kept (.all hS2.drew.1))).mono ?_; rintro e w8 ⟨v1, rfl, hv1, hi1, hb8⟩; have hT1 := hS2.drew.next hb8 (Nat.le_refl _); clear c0 c1 c2 c3 c4 c5 c6 c7; obtain ⟨d0, d1, d2, d3, d4, d5, d6, d7⟩ := hT1.cells; obtain ⟨a1, m1, k1, rfl⟩ := hv1.slice) | (go_at_call 145; refine (compare_any _ _ b.natAbs a.natAbs _ (by exact hv1.kept hi1 (.all hb9)) hv2).mono ?_; rintro e w10 ⟨rfl, nn, hw10⟩; rw [HV.out, HRR.out]; have hT3 := hT2.eqN hw10; clear hw10 e0 e1 e2 e3 e4 e5 e6 e7; obtain ⟨f0, f1, f2, f3, f4, f5, f6, f7⟩ := hT3.cells))
    go_wp2
    go_ret
    exact ⟨by rw [HRR.out]; rfl, hT3.1⟩

set_option maxRecDepth 100000 in
set_option maxHeartbeats 3200000 in
theorem Compare_np (P : Nat → Prop) (s1 s2 : Int) (p1 p2 : Option Addr) (a b : Int) (w : World) (hP : ∀ k, w.heap.size ≤ k → P k) (ha : IsInt P w (.agg #[.int .i64 s1, .pointer p1]) a) (hb : IsInt P w (.agg #[.int .i64 s2, .pointer p2]) b)
    (hp : (p1.isNone && p2.isNone) = false) (hna : isNeg a = true) (hnb : isNeg b = false) :
    Calls Tryz.prog 123 #[.agg #[.int .i64 s1, .pointer p1], .agg #[.int .i64 s2, .pointer p2]] w fun e w' => e = .returned (.int .i64 (sgn2 a b)) ∧ Below w.heap.size w w' := by
  have HA := Lib.hid ha
  have HB := Lib.hid hb
  have HP := Lib.hid hP
  have HNA := Lib.hid hna
  have HNB := Lib.hid hnb
  have HV := Lib.hid (sgn2_np a b hna hnb)
  clear ha hb hP hna hnb
  have hS0 := St2.start w (.int .i64 s1) (.pointer p1) (.int .i64 s2) (.pointer p2) 107 107
  cases h1 : p1.isNone <;> cases h2 : p2.isNone
  case true.true => rw [h1, h2] at hp; cases hp
  all_goals
    clear hp
    go_enter Tryz.func123, Tryz.ntmps123
    go_wp2_with fail
    refine (isNegative_any P _ a _ (HA.out.kept (.all hS0.1))).mono ?_
    rintro e w1 ⟨rfl, hb⟩
    rw [HNA.out]
    have hS1 := hS0.next hb (Nat.le_refl _)
    clear hb
    obtain ⟨c0, c1, c2, c3, c4, c5, c6, c7⟩ := hS1.cells
    go_wp2_with fail
    refine (isNegative_any P _ b _ (HB.out.kept (.all hS1.1))).mono ?_
    rintro e w2 ⟨rfl, hb⟩
    rw [HNB.out]
    have hS2 := hS1.next hb (Nat.le_refl _)
    clear hb c0 c1 c2 c3 c4 c5 c6 c7
    obtain ⟨c0, c1, c2, c3, c4, c5, c6, c7⟩ := hS2.cells
    go_wp2_with fail
    refine (isNegative_any P _ a _ (HA.out.kept (.all hS2.1))).mono ?_
    rintro e w3 ⟨rfl, hb⟩
    rw [HNA.out]
    have hS3 := hS2.next hb (Nat.le_refl _)
    clear hb c0 c1 c2 c3 c4 c5 c6 c7
    obtain ⟨c0, c1, c2, c3, c4, c5, c6, c7⟩ := hS3.cells
    go_wp2
    go_ret
    exact ⟨by rw [HV.out]; rfl, hS3.1⟩

set_option maxRecDepth 100000 in
set_option maxHeartbeats 3200000 in
theorem Compare_pn (P : Nat → Prop) (s1 s2 : Int) (p1 p2 : Option Addr) (a b : Int) (w : World) (hP : ∀ k, w.heap.size ≤ k → P k) (ha : IsInt P w (.agg #[.int .i64 s1, .pointer p1]) a) (hb : IsInt P w (.agg #[.int .i64 s2, .pointer p2]) b)
    (hp : (p1.isNone && p2.isNone) = false) (hna : isNeg a = false) (hnb : isNeg b = true) :
    Calls Tryz.prog 123 #[.agg #[.int .i64 s1, .pointer p1], .agg #[.int .i64 s2, .pointer p2]] w fun e w' => e = .returned (.int .i64 (sgn2 a b)) ∧ Below w.heap.size w w' := by
  have HA := Lib.hid ha
  have HB := Lib.hid hb
  have HP := Lib.hid hP
  have HNA := Lib.hid hna
  have HNB := Lib.hid hnb
  have HV := Lib.hid (sgn2_pn a b hna hnb)
  clear ha hb hP hna hnb
  have hS0 := St2.start w (.int .i64 s1) (.pointer p1) (.int .i64 s2) (.pointer p2) 107 107
  cases h1 : p1.isNone <;> cases h2 : p2.isNone
  case true.true => rw [h1, h2] at hp; cases hp
  all_goals
    clear hp
    go_enter Tryz.func123, Tryz.ntmps123
    go_wp2_with fail
    refine (isNegative_any P _ a _ (HA.out.kept (.all hS0.1))).mono ?_
    rintro e w1 ⟨rfl, hb⟩
    rw [HNA.out]
    have hS1 := hS0.next hb (Nat.le_refl _)
    clear hb
    obtain ⟨c0, c1, c2, c3, c4, c5, c6, c7⟩ := hS1.cells
    go_wp2_with fail
    refine (isNegative_any P _ a _ (HA.out.kept (.all hS1.1))).mono ?_
    rintro e w2 ⟨rfl, hb⟩
    rw [HNA.out]
    have hS2 := hS1.next hb (Nat.le_refl _)
    clear hb c0 c1 c2 c3 c4 c5 c6 c7
    obtain ⟨c0, c1, c2, c3, c4, c5, c6, c7⟩ := hS2.cells
    go_wp2_with fail
    refine (isNegative_any P _ b _ (HB.out.kept (.all hS2.1))).mono ?_
    rintro e w3 ⟨rfl, hb⟩
    rw [HNB.out]
    have hS3 := hS2.next hb (Nat.le_refl _)
    clear hb c0 c1 c2 c3 c4 c5 c6 c7
    obtain ⟨c0, c1, c2, c3, c4, c5, c6, c7⟩ := hS3.cells
    go_wp2
    go_ret
    exact ⟨by rw [HV.out]; rfl, hS3.1⟩

set_option maxRecDepth 100000 in
set_option maxHeartbeats 3200000 in
theorem Compare_pp (P : Nat → Prop) (s1 s2 : Int) (p1 p2 : Option Addr) (a b : Int) (w : World) (hP : ∀ k, w.heap.size ≤ k → P k) (ha : IsInt P w (.agg #[.int .i64 s1, .pointer p1]) a) (hb : IsInt P w (.agg #[.int .i64 s2, .pointer p2]) b)
    (hp : (p1.isNone && p2.isNone) = false) (hna : isNeg a = false) (hnb : isNeg b = false) :
    Calls Tryz.prog 123 #[.agg #[.int .i64 s1, .pointer p1], .agg #[.int .i64 s2, .pointer p2]] w fun e w' => e = .returned (.int .i64 (sgn2 a b)) ∧ Below w.heap.size w w' := by
  have HA := Lib.hid ha
  have HB := Lib.hid hb
  have HP := Lib.hid hP
  have HNA := Lib.hid hna
  have HNB := Lib.hid hnb
  have HV := Lib.hid (sgn2_pp a b hna hnb)
  obtain ⟨r, hr⟩ : ∃ r, sgn2 a b = r := ⟨_, rfl⟩
  have HRR := Lib.hid hr
  clear hr
  clear ha hb hP hna hnb
  have hS0 := St2.start w (.int .i64 s1) (.pointer p1) (.int .i64 s2) (.pointer p2) 107 107
  cases h1 : p1.isNone <;> cases h2 : p2.isNone
  case true.true => rw [h1, h2] at hp; cases hp
  all_goals
    clear hp
    go_enter Tryz.func123, Tryz.ntmps123
    go_wp2_with fail
    refine (isNegative_any P _ a _ (HA.out.kept (.all hS0.1))).mono ?_
    rintro e w1 ⟨rfl, hb⟩
    rw [HNA.out]
    have hS1 := hS0.next hb (Nat.le_refl _)
    clear hb
    obtain ⟨c0, c1, c2, c3, c4, c5, c6, c7⟩ := hS1.cells
    go_wp2_with fail
    refine (isNegative_any P _ a _ (HA.out.kept (.all hS1.1))).mono ?_
    rintro e w2 ⟨rfl, hb⟩
    rw [HNA.out]
    have hS2 := hS1.next hb (Nat.le_refl _)
    clear hb c0 c1 c2 c3 c4 c5 c6 c7
    obtain ⟨c0, c1, c2, c3, c4, c5, c6, c7⟩ := hS2.cells
    go_wp2_with fail
    refine (isNegative_any P _ b _ (HB.out.kept (.all hS2.1))).mono ?_
    rintro e w3 ⟨rfl, hb⟩
    rw [HNB.out]
    have hS3 := hS2.next hb (Nat.le_refl _)
    clear hb c0 c1 c2 c3 c4 c5 c6 c7
    obtain ⟨c0, c1, c2, c3, c4, c5, c6, c7⟩ := hS3.cells
    go_wp2_with fail
    clear c0 c1 c2 c3 c4 c5 c6 c7
    obtain ⟨c0, c1, c2, c3, c4, c5, c6, c7⟩ := hS3.drew.cells
    go_region_held3 (fun w' => w'.cell? ⟨w.heap.size, 0, none⟩ = some (.int .i64 s1) ∧ w'.cell? ⟨w.heap.size, 1, none⟩ = some (.pointer p1) ∧ w'.cell? ⟨w.heap.size + 1, 0, none⟩ = some (.int .i64 s2) ∧ w'.cell? ⟨w.heap.size + 1, 1, none⟩ = some (.pointer p2)) (first | ((try dsimp only); (repeat' apply And.intro); all_goals with_reducible assumption) | go_keep) (first | (go_at_call 133; have hgd := hT1; clear hgd; refine (limbs_any P _ b _ (by intro k hk; exact HP.out k (Nat.le_trans hT1.1.size hk)) (by exact HB.out.kept (.all hT1.1))).mono ?_; rintro e w9 ⟨v2, rfl, hv2, hi2, hb9⟩; have hT2 := hT1.next hb9 (Nat.le_refl _); clear d0 d1 d2 d3 d4 d5 d6 d7; obtain ⟨e0, e1, e2, e3, e4, e5, e6, e7⟩ := hT2.cells; obtain ⟨a2, m2, k2, rfl⟩ := hv2.slice) | (go_at_call 133; refine (limbs_any P _ a _ (by intro k hk; exact HP.out k (Nat.le_trans hS3.drew.1.size hk)) (by exact HA.out.kept (.all hS3.drew.1))).mono ?_; rintro e w8 ⟨v1, rfl, hv1, hi1, hb8⟩; have hT1 := hS3.drew.next hb8 (Nat.le_refl _); clear c0 c1 c2 c3 c4 c5 c6 c7; obtain ⟨d0, d1, d2, d3, d4, d5, d6, d7⟩ := hT1.cells; obtain ⟨a1, m1, k1, rfl⟩ := hv1.slice) | (go_at_call 145; refine (compare_any _ _ a.natAbs b.natAbs _ (by exact hv1.kept hi1 (.all hb9)) hv2).mono ?_; rintro e w10 ⟨rfl, nn, hw10⟩; rw [HV.out, HRR.out]; have hT3 := hT2.eqN hw10; clear hw10 e0 e1 e2 e3 e4 e5 e6 e7; obtain ⟨f0, f1, f2, f3, f4, f5, f6, f7⟩ := hT3.cells))
    go_wp2
    go_ret
    exact ⟨by rw [HRR.out]; rfl, hT3.1⟩

set_option maxRecDepth 100000 in
set_option maxHeartbeats 1600000 in
theorem Compare_short (a b : Int) (w : World) :
    Calls Tryz.prog 123 #[.agg #[.int .i64 a, .pointer none], .agg #[.int .i64 b, .pointer none]] w fun e w' => e = .returned (.int .i64 (sgn2 a b)) ∧ Below w.heap.size w w' := by
  go_enter Tryz.func123, Tryz.ntmps123
  go_wp2_with fail
  refine (compare64 a b _).mono ?_
  rintro e w1 ⟨rfl, rfl⟩
  obtain ⟨r, hr⟩ : ∃ r, sgn2 a b = r := ⟨_, rfl⟩
  rw [hr]
  have HR := Lib.hid hr
  clear hr
  go_wp2
  go_ret
  exact ⟨by rw [HR.out]; rfl, boxes2 _ _ _⟩

theorem Compare_any (P : Nat → Prop) (x y : Value) (a b : Int) (w : World) (hP : ∀ k, w.heap.size ≤ k → P k) (hx : IsInt P w x a) (hy : IsInt P w y b) :
    Calls Tryz.prog 123 #[x, y] w fun e w' => e = .returned (.int .i64 (sgn2 a b)) ∧ Below w.heap.size w w' := by
  obtain ⟨s1, p1, rfl⟩ := hx.form
  obtain ⟨s2, p2, rfl⟩ := hy.form
  cases hp : (p1.isNone && p2.isNone)
  · cases hna : isNeg a <;> cases hnb : isNeg b
    · exact Compare_pp P s1 s2 p1 p2 a b w hP hx hy hp hna hnb
    · exact Compare_pn P s1 s2 p1 p2 a b w hP hx hy hp hna hnb
    · exact Compare_np P s1 s2 p1 p2 a b w hP hx hy hp hna hnb
    · exact Compare_nn P s1 s2 p1 p2 a b w hP hx hy hp hna hnb
  · obtain ⟨h1, h2⟩ := Bool.and_eq_true_iff.1 hp
    rcases hx.ptr with ⟨k1, k2, k3⟩ | ⟨k1, g, k2⟩
    · rcases hy.ptr with ⟨k4, k5, k6⟩ | ⟨k4, g, k5⟩
      · subst k2 k3 k5 k6
        exact Compare_short _ _ w
      · rw [k5] at h2; cases h2
    · rw [k2] at h1; cases h1

end Go.Proofs.YtmdppblhbmbakaaGreatDoor
