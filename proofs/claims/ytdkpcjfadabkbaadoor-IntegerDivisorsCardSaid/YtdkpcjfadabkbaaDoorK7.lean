/- What CommonDivisor does with integers of any length. -/
import Derived.Test.YtdkpcjfadabkbaaDoorK6
set_option linter.unusedVariables false
set_option linter.unusedSimpArgs false
namespace Go.Proofs.YtdkpcjfadabkbaaDoor
open Go.RowKit _root_.Go.Proofs.YtdkpcjfadabkbaaDoor.Nm

theorem gcd_sz (a b : Int) : sz false (Nat.gcd a.natAbs b.natAbs) = (Int.gcd a b : Nat) := by unfold sz; simp [Int.gcd]

set_option maxRecDepth 100000 in
set_option maxHeartbeats 6400000 in
theorem CommonDivisor_long (P : Nat → Prop) (s1 s2 : Int) (p1 p2 : Option Addr) (a b : Int) (w : World) (hP : ∀ k, w.heap.size ≤ k → P k) (ha : IsInt P w (.agg #[.int .i64 s1, .pointer p1]) a) (hb : IsInt P w (.agg #[.int .i64 s2, .pointer p2]) b)
    (hp : (p1.isNone && p2.isNone) = false) (la : (ds 1000000000 a.natAbs).length ≤ 900) (lb : (ds 1000000000 b.natAbs).length ≤ 900) :
    Calls Tryd.prog 35 #[.agg #[.int .i64 s1, .pointer p1], .agg #[.int .i64 s2, .pointer p2]] w (IntPost P (Int.gcd a b : Nat) w) := by
  have HA := Lib.hid ha
  have HB := Lib.hid hb
  have HP := Lib.hid hP
  have HG := Lib.hid (And.intro trivial (gcd_sz a b))
  clear ha hb hP
  cases h1 : p1.isNone <;> cases h2 : p2.isNone
  case true.true => rw [h1, h2] at hp; cases hp
  all_goals
    clear hp
    go_enter Tryd.func35, Tryd.ntmps35
    go_wp2_with fail
    have hS0 := St.of HA.out HB.out (.int .i64 0) (.pointer none) 47 47 47
    have HAQ := Lib.hid (HA.out.bar3 hS0.1.drew)
    obtain ⟨c0, c1, c2, c3, c4, c5, c6, c7⟩ := hS0.drew.cells
    go_region_held3 (fun w' => w'.cell? ⟨w.heap.size, 0, none⟩ = some (.int .i64 s1) ∧ w'.cell? ⟨w.heap.size, 1, none⟩ = some (.pointer p1) ∧ w'.cell? ⟨w.heap.size + 1, 0, none⟩ = some (.int .i64 s2) ∧ w'.cell? ⟨w.heap.size + 1, 1, none⟩ = some (.pointer p2)) (first | ((try dsimp only); (repeat' apply And.intro); all_goals (first | (rw [cell_set2 _ _ _ _ _ _ (by omega)]; with_reducible assumption) | with_reducible assumption)) | go_keep) (first | (go_at_call 41; refine (signed_any (Bar3 P w) false _ _ _ (by intro k hk; exact Bar3.new HP.out k (Nat.le_trans hS3.2.1 hk)) (by exact hv3) hi3).mono ?_; rintro e w4 ⟨v4, rfl, hv4, hb4⟩; have hS4 := hS3.next hb4 (Nat.le_refl _); clear f0 f1 f2 f3 f4 f5 f6 f7; obtain ⟨g0, g1, g2, g3, g4, g5, g6, g7⟩ := hS4.cells; obtain ⟨s4, p4, rfl⟩ := hv4.form) | (go_at_call 55; refine (commonDivisor_nat (Bar3 P w) _ _ _ _ _ _ a.natAbs b.natAbs _ (by intro k hk; exact Bar3.new HP.out k (Nat.le_trans hS2.2.1 hk)) (by exact hv1.kept hi1 (.all hb2)) (by exact hv2) hi1 hi2 la lb).mono ?_; rintro e w3 ⟨v3, rfl, hv3, hi3, hb3⟩; have hS3 := hS2.next hb3 (Nat.le_refl _); clear e0 e1 e2 e3 e4 e5 e6 e7; obtain ⟨f0, f1, f2, f3, f4, f5, f6, f7⟩ := hS3.cells; obtain ⟨a3, m3, k3, rfl⟩ := hv3.slice) | (go_at_call 44; have hgd := hS1; clear hgd; refine (limbs_any (Bar3 P w) _ b _ (by intro k hk; exact Bar3.new HP.out k (Nat.le_trans hS1.2.1 hk)) (by exact HB.out.bar3 hS1.1)).mono ?_; rintro e w2 ⟨v2, rfl, hv2, hi2, hb2⟩; have hS2 := hS1.next hb2 (Nat.le_refl _); clear d0 d1 d2 d3 d4 d5 d6 d7; obtain ⟨e0, e1, e2, e3, e4, e5, e6, e7⟩ := hS2.cells; obtain ⟨a2, m2, k2, rfl⟩ := hv2.slice) | (go_at_call 44; refine (limbs_any (Bar3 P w) _ a _ (by intro k hk; exact Bar3.new HP.out k (Nat.le_trans hS0.2.1 hk)) (by exact HAQ.out)).mono ?_; rintro e w1 ⟨v1, rfl, hv1, hi1, hb1⟩; have hS1 := hS0.drew.next hb1 (Nat.le_refl _); clear c0 c1 c2 c3 c4 c5 c6 c7; obtain ⟨d0, d1, d2, d3, d4, d5, d6, d7⟩ := hS1.cells; obtain ⟨a1, m1, k1, rfl⟩ := hv1.slice))
    rw [HG.out.2] at hv4
    have HV := Lib.hid hv4
    have HW := Lib.hid hS4.1
    clear hv1 hv2 hv3 hv4 hi1 hi2 hi3 hb1 hb2 hb3 hb4 hS0 hS1 hS2 hS3 HAQ
    go_wp2
    refine bodyPost_ret (v := .agg #[.int .i64 s4, .pointer p4]) (by simp [results, Tryd.results35, go_sem, g4, g5]) rfl ?_
    exact IntPost.three HW.out HV.out

/-- CommonDivisor at any length. -/
theorem gcdIs (a b : Int) (la : (ds 1000000000 a.natAbs).length ≤ 900) (lb : (ds 1000000000 b.natAbs).length ≤ 900) : GcdIs a b := by
  intro P x y w hP hx hy
  obtain ⟨s1, p1, rfl⟩ := hx.form
  obtain ⟨s2, p2, rfl⟩ := hy.form
  cases hp : (p1.isNone && p2.isNone)
  · exact CommonDivisor_long P s1 s2 p1 p2 a b w hP hx hy hp la lb
  · obtain ⟨h1, h2⟩ := Bool.and_eq_true_iff.1 hp
    rcases hx.ptr with ⟨k1, k2, k3⟩ | ⟨k1, g, k2⟩
    · rcases hy.ptr with ⟨k4, k5, k6⟩ | ⟨k4, g, k5⟩
      · subst k2 k3 k5 k6
        exact CommonDivisor_short P _ _ k1 k4 w
      · rw [k5] at h2; cases h2
    · rw [k2] at h1; cases h1

end Go.Proofs.YtdkpcjfadabkbaaDoor
