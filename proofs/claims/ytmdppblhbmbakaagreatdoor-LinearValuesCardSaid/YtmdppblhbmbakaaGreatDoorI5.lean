/- What Minus and Times do. -/
import Derived.Test.YtmdppblhbmbakaaGreatDoorI4
import Derived.Test.YtmdppblhbmbakaaGreatDoorShelf
set_option linter.unusedVariables false
set_option linter.unusedSimpArgs false
namespace Go.Proofs.YtmdppblhbmbakaaGreatDoor
open Go.RowKit

theorem mul_sz (a b : Int) : sz (isNeg a != isNeg b) (a.natAbs * b.natAbs) = a * b := by
  unfold sz isNeg
  rw [Int.natCast_mul]
  by_cases h1 : a < 0 <;> by_cases h2 : b < 0
  · rw [show ((a.natAbs : Nat) : Int) = -a from by omega, show ((b.natAbs : Nat) : Int) = -b from by omega]; simp [h1, h2] <;> grind
  · rw [show ((a.natAbs : Nat) : Int) = -a from by omega, show ((b.natAbs : Nat) : Int) = b from by omega]; simp [h1, h2] <;> grind
  · rw [show ((a.natAbs : Nat) : Int) = a from by omega, show ((b.natAbs : Nat) : Int) = -b from by omega]; simp [h1, h2] <;> grind
  · rw [show ((a.natAbs : Nat) : Int) = a from by omega, show ((b.natAbs : Nat) : Int) = b from by omega]; simp [h1, h2] <;> grind
theorem mul64 (x y q r : Nat) (hx : x < 18446744073709551616) (hy : y < 18446744073709551616) (hq : Hid (x * y / 18446744073709551616 = q)) (hr : Hid (x * y % 18446744073709551616 = r)) (w : World) :
    Calls Tryz.prog 128 #[.int .u64 x, .int .u64 y] w fun e w' => e = .returned (.tuple #[.int .u64 q, .int .u64 r]) ∧ w' = w := by
  rw [← hq.out, ← hr.out]
  exact Tryz.bits_Mul64 x y hx hy w

theorem abs_u64 {s : Int} {m : Nat} (h : Hid (s.natAbs = m ∧ m < 1000000000000000000)) : m < 18446744073709551616 := by have := h.out; omega

theorem mag_q (n : Int) (m : Nat) (w : World) (h : Hid (n.natAbs = m ∧ m < 1000000000000000000)) :
    Calls Tryz.prog 129 #[.int .i64 n] w fun e w' => e = .returned (.int .u64 (m : Int)) ∧ w' = w := by
  obtain ⟨h1, h2⟩ := h.out
  subst h1
  exact (magnitude_any n (by omega) (by omega) w).mono fun e w' ⟨h1, h2⟩ => ⟨h1, h2.symm⟩

theorem small_mul (a b : Int) (h : a.natAbs * b.natAbs < 1000000000000000000) : -9223372036854775808 ≤ a * b ∧ a * b ≤ 9223372036854775807 ∧ (a * b).natAbs < 1000000000000000000 := by
  have := Int.natAbs_mul a b
  omega

theorem big_mul (x y q r : Nat) (h : ¬ x * y < 1000000000000000000) (hq : x * y / 18446744073709551616 = q) (hr : x * y % 18446744073709551616 = r) (hq0 : q = 0) : ¬ r < 1000000000000000000 := by omega

theorem little_mul (x y q r : Nat) (h : x * y < 1000000000000000000) (hq : x * y / 18446744073709551616 = q) (hr : x * y % 18446744073709551616 = r) : q = 0 ∧ r < 1000000000000000000 := by omega

set_option maxRecDepth 100000 in
set_option maxHeartbeats 12800000 in
theorem Times_int (P : Nat → Prop) (s1 s2 : Int) (p1 p2 : Option Addr) (a b : Int) (w : World) (hP : ∀ k, w.heap.size ≤ k → P k) (ha : IsInt P w (.agg #[.int .i64 s1, .pointer p1]) a) (hb : IsInt P w (.agg #[.int .i64 s2, .pointer p2]) b)
    (la : (Nm.ds 1000000000 a.natAbs).length ≤ 1000) (lb : (Nm.ds 1000000000 b.natAbs).length ≤ 1000) :
    Calls Tryz.prog 90 #[.agg #[.int .i64 s1, .pointer p1], .agg #[.int .i64 s2, .pointer p2]] w (IntPost P (a * b) w) := by
  have HA := Lib.hid ha
  have HB := Lib.hid hb
  have HP := Lib.hid hP
  clear ha hb hP
  have HV0 := mul_sz a b
  obtain ⟨na, hna⟩ : ∃ na, isNeg a = na := ⟨_, rfl⟩
  obtain ⟨nb, hnb⟩ : ∃ nb, isNeg b = nb := ⟨_, rfl⟩
  rw [hna, hnb] at HV0
  have HV := Lib.hid HV0
  have HNA := Lib.hid hna
  have HNB := Lib.hid hnb
  clear hna hnb HV0
  cases h1 : p1.isNone <;> cases h2 : p2.isNone
  case true.true =>
    have hs1 : s1 = a ∧ a.natAbs < 1000000000000000000 := by
      rcases HA.out.ptr with ⟨h1, h2, _⟩ | ⟨_, g, h⟩
      · exact ⟨h2, h1⟩
      · rw [h] at h1; cases h1
    have hs2 : s2 = b ∧ b.natAbs < 1000000000000000000 := by
      rcases HB.out.ptr with ⟨h1, h2, _⟩ | ⟨_, g, h⟩
      · exact ⟨h2, h1⟩
      · rw [h] at h2; cases h2
    obtain ⟨rfl, hs1⟩ := hs1
    obtain ⟨rfl, hs2⟩ := hs2
    obtain ⟨n1, hn1⟩ : ∃ n, s1.natAbs = n := ⟨_, rfl⟩
    obtain ⟨n2, hn2⟩ : ∃ n, s2.natAbs = n := ⟨_, rfl⟩
    obtain ⟨q, hq⟩ : ∃ q, n1 * n2 / 18446744073709551616 = q := ⟨_, rfl⟩
    obtain ⟨r, hr⟩ : ∃ r, n1 * n2 % 18446744073709551616 = r := ⟨_, rfl⟩
    have HS1 := Lib.hid (show s1.natAbs = n1 ∧ n1 < 1000000000000000000 from ⟨hn1, by omega⟩)
    have HS2 := Lib.hid (show s2.natAbs = n2 ∧ n2 < 1000000000000000000 from ⟨hn2, by omega⟩)
    clear hs1 hs2
    have HQ := Lib.hid hq
    have HR := Lib.hid hr
    by_cases hlt : n1 * n2 < 1000000000000000000
    · obtain ⟨hq0, hr0⟩ := little_mul _ _ q r hlt hq hr
      have HM := Lib.hid (small_mul s1 s2 (by rw [hn1, hn2]; exact hlt))
      clear hn1 hn2
      clear hq hr hlt
      have g1 : ((q : Int) == 0) = true := by simp [hq0]
      have g2 : decide ((r : Int) < 1000000000000000000) = true := by simp; omega
      have hwr : wrap64 (s1 * s2) = s1 * s2 := by unfold wrap64; have := HM.out; omega
      have HG2 := Lib.hid (And.intro trivial g2)
      have HG1 := Lib.hid (And.intro trivial g1)
      clear hq0 hr0 g2 g1
      go_enter Tryz.func90, Tryz.ntmps90
      go_wp2_with fail
      go_region_held3 (fun w' => w'.cell? ⟨w.heap.size, 0, none⟩ = some (.int .i64 s1) ∧ w'.cell? ⟨w.heap.size + 1, 0, none⟩ = some (.int .i64 s2)) (first | ((try dsimp only); (repeat' apply And.intro); all_goals assumption) | go_keep) (first | (go_at_call 129; refine (mag_q _ _ _ (by first | exact HS1 | exact HS2)).mono ?_; rintro e w' ⟨rfl, rfl⟩) | (go_at_call 128; refine (mul64 n1 n2 q r (abs_u64 HS1) (abs_u64 HS2) HQ HR _).mono ?_; rintro e w' ⟨rfl, rfl⟩))
      have g2 := HG2.out.2
      have g1 := HG1.out.2
      go_wp2
      clear g1 g2
      refine bodyPost_ret (v := .agg #[.int .i64 (s1 * s2), .pointer none]) (by simp [results, Tryz.results90, go_sem]) rfl ?_
      exact ⟨_, rfl, .inl ⟨HM.out.2.2, rfl⟩, (boxes3 _ _ _ _).drew⟩
    · have HBIG := Lib.hid (big_mul _ _ q r hlt hq hr)
      clear hq hr hlt hn1 hn2
      by_cases hq0 : q = 0
      · have g1 : ((q : Int) == 0) = true := by simp [hq0]
        have g2 : decide ((r : Int) < 1000000000000000000) = false := by have := HBIG.out hq0; simp; omega
        have HG2 := Lib.hid (And.intro trivial g2)
        have HG1 := Lib.hid (And.intro trivial g1)
        clear hq0 g2 g1
        go_enter Tryz.func90, Tryz.ntmps90
        go_wp2_with fail
        go_region_held3 (fun w' => w'.cell? ⟨w.heap.size, 0, none⟩ = some (.int .i64 s1) ∧ w'.cell? ⟨w.heap.size + 1, 0, none⟩ = some (.int .i64 s2)) (first | ((try dsimp only); (repeat' apply And.intro); all_goals assumption) | go_keep) (first | (go_at_call 129; refine (mag_q _ _ _ (by first | exact HS1 | exact HS2)).mono ?_; rintro e w' ⟨rfl, rfl⟩) | (go_at_call 128; refine (mul64 n1 n2 q r (abs_u64 HS1) (abs_u64 HS2) HQ HR _).mono ?_; rintro e w' ⟨rfl, rfl⟩))
        have g2 := HG2.out.2
        have g1 := HG1.out.2
        go_wp2_with fail
        clear g1 g2
        have hS0 := St.of HA.out HB.out (.int .i64 0) (.pointer none) 107 107 107
        have hS0 := hS0.drew
        have HA0 := Lib.hid (HA.out.bar3 hS0.1)
        have HB0 := Lib.hid (HB.out.bar3 hS0.1)
        go_region_held3 (fun w' => w'.cell? ⟨w.heap.size, 0, none⟩ = some (.int .i64 s1) ∧ w'.cell? ⟨w.heap.size, 1, none⟩ = some (.pointer p1) ∧ w'.cell? ⟨w.heap.size + 1, 0, none⟩ = some (.int .i64 s2) ∧ w'.cell? ⟨w.heap.size + 1, 1, none⟩ = some (.pointer p2))
          (first | ((try dsimp only); (repeat' apply And.intro); all_goals (first | assumption | (rw [cell_set2 _ _ _ _ _ _ (by omega)]; assumption))) | go_keep)
          (first | (go_at_call 131; refine (isNegative_any (Bar3 P w) _ s1 _ (by exact HA0.out.kept (.drew _ _))).mono ?_; rintro e w1 ⟨rfl, hb1⟩; rw [HNA.out]; have hS1 := hS0.drew.next hb1 (Nat.le_refl _); obtain ⟨c0, c1, c2, c3, c4, c5, c6, c7⟩ := hS1.cells) | (go_at_call 131; refine (isNegative_any (Bar3 P w) _ s2 _ (by exact HB.out.bar3 hS1.1)).mono ?_; rintro e w2 ⟨rfl, hb2⟩; rw [HNB.out]; have hS2 := hS1.next hb2 (Nat.le_refl _); obtain ⟨d0, d1, d2, d3, d4, d5, d6, d7⟩ := hS2.cells) | (go_at_call 133; refine (limbs_any (Bar3 P w) _ s1 _ (by intro k hk; exact Bar3.new HP.out k (Nat.le_trans hS2.2.1 hk)) (by exact HA.out.bar3 hS2.1)).mono ?_; rintro e w3 ⟨v1, rfl, hv1, hi1, hb3⟩; have hS3 := hS2.next hb3 (Nat.le_refl _); obtain ⟨e0, e1, e2, e3, e4, e5, e6, e7⟩ := hS3.cells; obtain ⟨a1, m1, k1, rfl⟩ := hv1.slice) | (go_at_call 133; refine (limbs_any (Bar3 P w) _ s2 _ (by intro k hk; exact Bar3.new HP.out k (Nat.le_trans hS3.2.1 hk)) (by exact HB.out.bar3 hS3.1)).mono ?_; rintro e w4 ⟨v2, rfl, hv2, hi2, hb4⟩; have hS4 := hS3.next hb4 (Nat.le_refl _); obtain ⟨f0, f1, f2, f3, f4, f5, f6, f7⟩ := hS4.cells; obtain ⟨a2, m2, k2, rfl⟩ := hv2.slice) | (go_at_call 132; refine (product_any _ _ s1.natAbs s2.natAbs _ (by exact hv1.kept hi1 (.all hb4)) hv2 la lb).mono ?_; rintro e w5 ⟨v3, rfl, hv3, hf3, hb5⟩; have hS5 := hS4.next hb5 (Nat.le_refl _); obtain ⟨g0, g1, g2, g3, g4, g5, g6, g7⟩ := hS5.cells; obtain ⟨a3, m3, k3, rfl⟩ := IsNat.slice hv3) | (go_at_call 130; refine (signed_any (Bar3 P w) (na != nb) _ _ _ (by intro k hk; exact Bar3.new HP.out k (Nat.le_trans hS5.2.1 hk)) hv3 (In.fresh hf3 (by intro k hk; exact Bar3.new HP.out k (Nat.le_trans hS4.2.1 hk)))).mono ?_; rintro e w6 ⟨v6, rfl, hv6, hb6⟩; have hS6 := hS5.next hb6 (Nat.le_refl _); obtain ⟨l0, l1, l2, l3, l4, l5, l6, l7⟩ := hS6.cells; obtain ⟨s, p, rfl⟩ := hv6.form))
        rw [HV.out] at hv6
        have HW := Lib.hid hv6
        clear hv1 hv2 hv3 hv6 hi1 hi2 hf3 hb1 hb2 hb3 hb4 hb5 hb6 c0 c1 c2 c3 c4 c5 c6 c7 d0 d1 d2 d3 d4 d5 d6 d7 e0 e1 e2 e3 e4 e5 e6 e7 f0 f1 f2 f3 f4 f5 f6 f7 g0 g1 g2 g3 g4 g5 g6 g7 l0 l1 l2 l3
        go_wp2
        refine bodyPost_ret (v := .agg #[.int .i64 s, .pointer p]) (by simp [results, Tryz.results90, go_sem, l4, l5]) rfl ?_
        exact IntPost.three hS6.1 HW.out
      · have g1 : ((q : Int) == 0) = false := by rw [beq_eq_false_iff_ne]; omega
        clear hq0
        go_enter Tryz.func90, Tryz.ntmps90
        go_wp2_with fail
        go_region_held3 (fun w' => w'.cell? ⟨w.heap.size, 0, none⟩ = some (.int .i64 s1) ∧ w'.cell? ⟨w.heap.size + 1, 0, none⟩ = some (.int .i64 s2)) (first | ((try dsimp only); (repeat' apply And.intro); all_goals assumption) | go_keep) (first | (go_at_call 129; refine (mag_q _ _ _ (by first | exact HS1 | exact HS2)).mono ?_; rintro e w' ⟨rfl, rfl⟩) | (go_at_call 128; refine (mul64 n1 n2 q r (abs_u64 HS1) (abs_u64 HS2) HQ HR _).mono ?_; rintro e w' ⟨rfl, rfl⟩))
        go_wp2_with fail
        clear g1
        have hS0 := St.of HA.out HB.out (.int .i64 0) (.pointer none) 107 107 107
        have hS0 := hS0.drew
        have HA0 := Lib.hid (HA.out.bar3 hS0.1)
        have HB0 := Lib.hid (HB.out.bar3 hS0.1)
        go_region_held3 (fun w' => w'.cell? ⟨w.heap.size, 0, none⟩ = some (.int .i64 s1) ∧ w'.cell? ⟨w.heap.size, 1, none⟩ = some (.pointer p1) ∧ w'.cell? ⟨w.heap.size + 1, 0, none⟩ = some (.int .i64 s2) ∧ w'.cell? ⟨w.heap.size + 1, 1, none⟩ = some (.pointer p2))
          (first | ((try dsimp only); (repeat' apply And.intro); all_goals (first | assumption | (rw [cell_set2 _ _ _ _ _ _ (by omega)]; assumption))) | go_keep)
          (first | (go_at_call 131; refine (isNegative_any (Bar3 P w) _ s1 _ (by exact HA0.out.kept (.drew _ _))).mono ?_; rintro e w1 ⟨rfl, hb1⟩; rw [HNA.out]; have hS1 := hS0.drew.next hb1 (Nat.le_refl _); obtain ⟨c0, c1, c2, c3, c4, c5, c6, c7⟩ := hS1.cells) | (go_at_call 131; refine (isNegative_any (Bar3 P w) _ s2 _ (by exact HB.out.bar3 hS1.1)).mono ?_; rintro e w2 ⟨rfl, hb2⟩; rw [HNB.out]; have hS2 := hS1.next hb2 (Nat.le_refl _); obtain ⟨d0, d1, d2, d3, d4, d5, d6, d7⟩ := hS2.cells) | (go_at_call 133; refine (limbs_any (Bar3 P w) _ s1 _ (by intro k hk; exact Bar3.new HP.out k (Nat.le_trans hS2.2.1 hk)) (by exact HA.out.bar3 hS2.1)).mono ?_; rintro e w3 ⟨v1, rfl, hv1, hi1, hb3⟩; have hS3 := hS2.next hb3 (Nat.le_refl _); obtain ⟨e0, e1, e2, e3, e4, e5, e6, e7⟩ := hS3.cells; obtain ⟨a1, m1, k1, rfl⟩ := hv1.slice) | (go_at_call 133; refine (limbs_any (Bar3 P w) _ s2 _ (by intro k hk; exact Bar3.new HP.out k (Nat.le_trans hS3.2.1 hk)) (by exact HB.out.bar3 hS3.1)).mono ?_; rintro e w4 ⟨v2, rfl, hv2, hi2, hb4⟩; have hS4 := hS3.next hb4 (Nat.le_refl _); obtain ⟨f0, f1, f2, f3, f4, f5, f6, f7⟩ := hS4.cells; obtain ⟨a2, m2, k2, rfl⟩ := hv2.slice) | (go_at_call 132; refine (product_any _ _ s1.natAbs s2.natAbs _ (by exact hv1.kept hi1 (.all hb4)) hv2 la lb).mono ?_; rintro e w5 ⟨v3, rfl, hv3, hf3, hb5⟩; have hS5 := hS4.next hb5 (Nat.le_refl _); obtain ⟨g0, g1, g2, g3, g4, g5, g6, g7⟩ := hS5.cells; obtain ⟨a3, m3, k3, rfl⟩ := IsNat.slice hv3) | (go_at_call 130; refine (signed_any (Bar3 P w) (na != nb) _ _ _ (by intro k hk; exact Bar3.new HP.out k (Nat.le_trans hS5.2.1 hk)) hv3 (In.fresh hf3 (by intro k hk; exact Bar3.new HP.out k (Nat.le_trans hS4.2.1 hk)))).mono ?_; rintro e w6 ⟨v6, rfl, hv6, hb6⟩; have hS6 := hS5.next hb6 (Nat.le_refl _); obtain ⟨l0, l1, l2, l3, l4, l5, l6, l7⟩ := hS6.cells; obtain ⟨s, p, rfl⟩ := hv6.form))
        rw [HV.out] at hv6
        have HW := Lib.hid hv6
        clear hv1 hv2 hv3 hv6 hi1 hi2 hf3 hb1 hb2 hb3 hb4 hb5 hb6 c0 c1 c2 c3 c4 c5 c6 c7 d0 d1 d2 d3 d4 d5 d6 d7 e0 e1 e2 e3 e4 e5 e6 e7 f0 f1 f2 f3 f4 f5 f6 f7 g0 g1 g2 g3 g4 g5 g6 g7 l0 l1 l2 l3
        go_wp2
        refine bodyPost_ret (v := .agg #[.int .i64 s, .pointer p]) (by simp [results, Tryz.results90, go_sem, l4, l5]) rfl ?_
        exact IntPost.three hS6.1 HW.out
  all_goals
    go_enter Tryz.func90, Tryz.ntmps90
    go_wp2_with fail
    have hS0 := St.of HA.out HB.out (.int .i64 0) (.pointer none) 107 107 107
    have HA0 := Lib.hid (HA.out.bar3 hS0.1)
    have HB0 := Lib.hid (HB.out.bar3 hS0.1)
    go_region_held3 (fun w' => w'.cell? ⟨w.heap.size, 0, none⟩ = some (.int .i64 s1) ∧ w'.cell? ⟨w.heap.size, 1, none⟩ = some (.pointer p1) ∧ w'.cell? ⟨w.heap.size + 1, 0, none⟩ = some (.int .i64 s2) ∧ w'.cell? ⟨w.heap.size + 1, 1, none⟩ = some (.pointer p2))
      (first | ((try dsimp only); (repeat' apply And.intro); all_goals (first | assumption | (rw [cell_set2 _ _ _ _ _ _ (by omega)]; assumption))) | go_keep)
      (first | (go_at_call 131; refine (isNegative_any (Bar3 P w) _ a _ (by exact HA0.out.kept (.drew _ _))).mono ?_; rintro e w1 ⟨rfl, hb1⟩; rw [HNA.out]; have hS1 := hS0.drew.next hb1 (Nat.le_refl _); obtain ⟨c0, c1, c2, c3, c4, c5, c6, c7⟩ := hS1.cells) | (go_at_call 131; refine (isNegative_any (Bar3 P w) _ b _ (by exact HB.out.bar3 hS1.1)).mono ?_; rintro e w2 ⟨rfl, hb2⟩; rw [HNB.out]; have hS2 := hS1.next hb2 (Nat.le_refl _); obtain ⟨d0, d1, d2, d3, d4, d5, d6, d7⟩ := hS2.cells) | (go_at_call 133; refine (limbs_any (Bar3 P w) _ a _ (by intro k hk; exact Bar3.new HP.out k (Nat.le_trans hS2.2.1 hk)) (by exact HA.out.bar3 hS2.1)).mono ?_; rintro e w3 ⟨v1, rfl, hv1, hi1, hb3⟩; have hS3 := hS2.next hb3 (Nat.le_refl _); obtain ⟨e0, e1, e2, e3, e4, e5, e6, e7⟩ := hS3.cells; obtain ⟨a1, m1, k1, rfl⟩ := hv1.slice) | (go_at_call 133; refine (limbs_any (Bar3 P w) _ b _ (by intro k hk; exact Bar3.new HP.out k (Nat.le_trans hS3.2.1 hk)) (by exact HB.out.bar3 hS3.1)).mono ?_; rintro e w4 ⟨v2, rfl, hv2, hi2, hb4⟩; have hS4 := hS3.next hb4 (Nat.le_refl _); obtain ⟨f0, f1, f2, f3, f4, f5, f6, f7⟩ := hS4.cells; obtain ⟨a2, m2, k2, rfl⟩ := hv2.slice) | (go_at_call 132; refine (product_any _ _ a.natAbs b.natAbs _ (by exact hv1.kept hi1 (.all hb4)) hv2 la lb).mono ?_; rintro e w5 ⟨v3, rfl, hv3, hf3, hb5⟩; have hS5 := hS4.next hb5 (Nat.le_refl _); obtain ⟨g0, g1, g2, g3, g4, g5, g6, g7⟩ := hS5.cells; obtain ⟨a3, m3, k3, rfl⟩ := IsNat.slice hv3) | (go_at_call 130; refine (signed_any (Bar3 P w) (na != nb) _ _ _ (by intro k hk; exact Bar3.new HP.out k (Nat.le_trans hS5.2.1 hk)) hv3 (In.fresh hf3 (by intro k hk; exact Bar3.new HP.out k (Nat.le_trans hS4.2.1 hk)))).mono ?_; rintro e w6 ⟨v6, rfl, hv6, hb6⟩; have hS6 := hS5.next hb6 (Nat.le_refl _); obtain ⟨l0, l1, l2, l3, l4, l5, l6, l7⟩ := hS6.cells; obtain ⟨s, p, rfl⟩ := hv6.form))
    rw [HV.out] at hv6
    have HW := Lib.hid hv6
    clear hv1 hv2 hv3 hv6 hi1 hi2 hf3 hb1 hb2 hb3 hb4 hb5 hb6 c0 c1 c2 c3 c4 c5 c6 c7 d0 d1 d2 d3 d4 d5 d6 d7 e0 e1 e2 e3 e4 e5 e6 e7 f0 f1 f2 f3 f4 f5 f6 f7 g0 g1 g2 g3 g4 g5 g6 g7 l0 l1 l2 l3
    go_wp2
    refine bodyPost_ret (v := .agg #[.int .i64 s, .pointer p]) (by simp [results, Tryz.results90, go_sem, l4, l5]) rfl ?_
    exact IntPost.three hS6.1 HW.out

theorem Times_any (P : Nat → Prop) (x y : Value) (a b : Int) (w : World) (hP : ∀ k, w.heap.size ≤ k → P k) (ha : IsInt P w x a) (hb : IsInt P w y b)
    (la : (Nm.ds 1000000000 a.natAbs).length ≤ 1000) (lb : (Nm.ds 1000000000 b.natAbs).length ≤ 1000) :
    Calls Tryz.prog 90 #[x, y] w (IntPost P (a * b) w) := by
  obtain ⟨s1, p1, rfl⟩ := ha.form
  obtain ⟨s2, p2, rfl⟩ := hb.form
  exact Times_int P s1 s2 p1 p2 a b w hP ha hb la lb

end Go.Proofs.YtmdppblhbmbakaaGreatDoor
