/- What Minus and Times do. -/
import Derived.Test.YtniokkoicoacoaaGreatDoorI4
import Derived.Test.YtniokkoicoacoaaGreatDoorShelf
set_option linter.unusedVariables false
set_option linter.unusedSimpArgs false
namespace Go.Proofs.YtniokkoicoacoaaGreatDoor
open Go.RowKit

set_option maxRecDepth 100000 in
set_option maxHeartbeats 1600000 in
theorem Minus_any (P : Nat → Prop) (x y : Value) (a b : Int) (w : World) (hP : ∀ k, w.heap.size ≤ k → P k) (ha : IsInt P w x a) (hb : IsInt P w y b)
    (la : (Nm.ds 1000000000 a.natAbs).length ≤ 1000) (lb : (Nm.ds 1000000000 b.natAbs).length ≤ 1000) :
    Calls Tryz.prog 30 #[x, y] w (IntPost P (a - b) w) := by
  obtain ⟨s1, p1, rfl⟩ := ha.form
  obtain ⟨s2, p2, rfl⟩ := hb.form
  have HA := Lib.hid ha
  have HB := Lib.hid hb
  have HP := Lib.hid hP
  have HLB : Hid ((Nm.ds 1000000000 (-b).natAbs).length ≤ 1000) := Lib.hid (by rwa [Int.natAbs_neg])
  clear ha hb hP
  go_enter Tryz.func30, Tryz.ntmps30
  go_wp2_with fail
  have hS0 := St.of HA.out HB.out (.int .i64 0) (.pointer none) 52 52 52
  have HBQ := Lib.hid (HB.out.bar3 hS0.1.drew)
  go_region_held3 (fun w' => w'.cell? ⟨w.heap.size, 0, none⟩ = some (.int .i64 s1) ∧ w'.cell? ⟨w.heap.size, 1, none⟩ = some (.pointer p1) ∧ w'.cell? ⟨w.heap.size + 1, 0, none⟩ = some (.int .i64 s2) ∧ w'.cell? ⟨w.heap.size + 1, 1, none⟩ = some (.pointer p2))
    (first | ((try dsimp only); (repeat' apply And.intro); all_goals (first | assumption | (rw [cell_set2 _ _ _ _ _ _ (by omega)]; assumption))) | go_keep)
    (first | (go_at_call 46; refine (Negated_any (Bar3 P w) _ b _ (by intro k hk; exact Bar3.new HP.out k (Nat.le_trans hS0.2.1 hk)) (by exact HBQ.out)).mono ?_; rintro e w1 ⟨v1, rfl, hv1, hb1⟩; have hS1 := hS0.drew.next hb1 (Nat.le_refl _); obtain ⟨c0, c1, c2, c3, c4, c5, c6, c7⟩ := hS1.cells; obtain ⟨s3, p3, rfl⟩ := hv1.form) | (go_at_call 29; refine (Plus_any (Bar3 P w) _ _ a (-b) _ (by intro k hk; exact Bar3.new HP.out k (Nat.le_trans hS1.2.1 hk)) (by exact HA.out.bar3 hS1.1) hv1 la HLB.out).mono ?_; rintro e w2 ⟨v2, rfl, hv2, hb2⟩; have hS2 := hS1.next hb2 (Nat.le_refl _); obtain ⟨d0, d1, d2, d3, d4, d5, d6, d7⟩ := hS2.cells; obtain ⟨s4, p4, rfl⟩ := hv2.form))
  have HW := Lib.hid hv2
  clear hv1 hv2 hb1 hb2 c0 c1 c2 c3 c4 c5 c6 c7 d0 d1 d2 d3
  go_wp2
  refine bodyPost_ret (v := .agg #[.int .i64 s4, .pointer p4]) (by simp [results, Tryz.results30, go_sem, d4, d5]) rfl ?_
  rw [Int.sub_eq_add_neg]
  exact IntPost.three hS2.1 HW.out

theorem mul_sz (a b : Int) : sz (isNeg a != isNeg b) (a.natAbs * b.natAbs) = a * b := by
  unfold sz isNeg
  rw [Int.natCast_mul]
  by_cases h1 : a < 0 <;> by_cases h2 : b < 0
  · rw [show ((a.natAbs : Nat) : Int) = -a from by omega, show ((b.natAbs : Nat) : Int) = -b from by omega]; simp [h1, h2] <;> grind
  · rw [show ((a.natAbs : Nat) : Int) = -a from by omega, show ((b.natAbs : Nat) : Int) = b from by omega]; simp [h1, h2] <;> grind
  · rw [show ((a.natAbs : Nat) : Int) = a from by omega, show ((b.natAbs : Nat) : Int) = -b from by omega]; simp [h1, h2] <;> grind
  · rw [show ((a.natAbs : Nat) : Int) = a from by omega, show ((b.natAbs : Nat) : Int) = b from by omega]; simp [h1, h2] <;> grind
theorem abs_u64 {s : Int} {m : Nat} (h : Hid (s.natAbs = m ∧ m < 1000000000000000000)) : m < 18446744073709551616 := by have := h.out; omega

theorem mag_q (n : Int) (m : Nat) (w : World) (h : Hid (n.natAbs = m ∧ m < 1000000000000000000)) :
    Calls Tryz.prog 61 #[.int .i64 n] w fun e w' => e = .returned (.int .u64 (m : Int)) ∧ w' = w := by
  obtain ⟨h1, h2⟩ := h.out
  subst h1
  exact (magnitude_any n (by omega) (by omega) w).mono fun e w' ⟨h1, h2⟩ => ⟨h1, h2.symm⟩

theorem small_mul (a b : Int) (h : a.natAbs * b.natAbs < 1000000000000000000) : -9223372036854775808 ≤ a * b ∧ a * b ≤ 9223372036854775807 ∧ (a * b).natAbs < 1000000000000000000 := by
  have := Int.natAbs_mul a b
  omega

theorem big_mul (x y q r : Nat) (h : ¬ x * y < 1000000000000000000) (hq : x * y / 18446744073709551616 = q) (hr : x * y % 18446744073709551616 = r) (hq0 : q = 0) : ¬ r < 1000000000000000000 := by omega

theorem little_mul (x y q r : Nat) (h : x * y < 1000000000000000000) (hq : x * y / 18446744073709551616 = q) (hr : x * y % 18446744073709551616 = r) : q = 0 ∧ r < 1000000000000000000 := by omega

end Go.Proofs.YtniokkoicoacoaaGreatDoor
