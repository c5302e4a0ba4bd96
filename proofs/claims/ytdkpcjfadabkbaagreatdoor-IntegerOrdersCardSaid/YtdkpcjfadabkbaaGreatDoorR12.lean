/- What the reference's Sub does. -/
import Derived.Test.YtdkpcjfadabkbaaGreatDoorR11
set_option linter.unusedVariables false
set_option linter.unusedSimpArgs false
namespace Go.Proofs.YtdkpcjfadabkbaaGreatDoor
open Go.RowKit _root_.Go.Proofs.YtdkpcjfadabkbaaGreatDoor.Nm

set_option maxRecDepth 100000 in
set_option maxHeartbeats 6400000 in
theorem rSub_any (v1 v2 : Value) (x y r : Int) (w : World) (h1 : Ref w v1 x) (h2 : Ref w v2 y) (lx : (dg x.natAbs).length ≤ 2000) (ly : (dg y.natAbs).length ≤ 2000) (hr : r = x - y) :
    Calls Tryz.prog 15 #[v1, v2] w (RefPost r w) := by
  obtain ⟨aa, ca, rfl⟩ := h1.form
  obtain ⟨ab, cb, rfl⟩ := h2.form
  have h1' := h1
  have h2' := h2
  obtain ⟨n1, hn1⟩ : ∃ b, isNeg x = b := ⟨_, rfl⟩
  obtain ⟨n2, hn2⟩ : ∃ b, isNeg y = b := ⟨_, rfl⟩
  obtain ⟨la, hla⟩ : ∃ l, (dg x.natAbs).length = l := ⟨_, rfl⟩
  obtain ⟨lb, hlb⟩ : ∃ l, (dg y.natAbs).length = l := ⟨_, rfl⟩
  rw [hn1, hla] at h1 ⊢
  rw [hn2, hlb] at h2 ⊢
  obtain ⟨ny, hny⟩ : ∃ ny, -y = ny := ⟨_, rfl⟩
  have HR : Hid (True ∧ x + ny = r) := Lib.hid ⟨trivial, by omega⟩
  have HNY := Lib.hid (And.intro trivial hny)
  have HLX := Lib.hid (And.intro trivial lx)
  have HLY : Hid (True ∧ (dg ny.natAbs).length ≤ 2000) := Lib.hid ⟨trivial, by rw [← hny, Int.natAbs_neg]; exact ly⟩
  have HS0 := Lib.hid (St.start w (.bool n1) (.slice aa la ca) (.bool n2) (.slice ab lb cb) (.bool false) (.slice none 0 0) 30 30 30)
  have HRX := Lib.hid (h1.keep HS0.out.1.drew (Nat.le_refl _))
  have HRY := Lib.hid (h2.keep HS0.out.1.drew (Nat.le_refl _))
  clear h1 h2 h1' h2' hn1 hn2 hla hlb hny lx ly hr
  have HS1 := HS0.out.drew
  obtain ⟨c0, c1, c2, c3, c4, c5, c6, c7⟩ := HS1.cells
  go_enter Tryz.func15, Tryz.ntmps15
  go_wp2_with fail
  go_region_held3 (fun w' => w'.cell? ⟨w.heap.size, 0, none⟩ = some (.bool n1) ∧ w'.cell? ⟨w.heap.size, 1, none⟩ = some (.slice aa la ca) ∧ w'.cell? ⟨w.heap.size + 1, 0, none⟩ = some (.bool n2) ∧ w'.cell? ⟨w.heap.size + 1, 1, none⟩ = some (.slice ab lb cb)) (first | ((try dsimp only); (repeat' apply And.intro); all_goals with_reducible assumption) | go_keep) (first | (go_at_call 14; refine (rAdd_any _ _ x ny _ (by exact HRX.out.keep hb5 (Nat.le_refl _)) (by exact hv5) HLX.out.2 HLY.out.2).mono ?_; rintro e w6 ⟨v6, rfl, hv6, hb6⟩; rw [HR.out.2] at hv6; have hT2 := hT1.next hb6 (Nat.le_refl _); clear d0 d1 d2 d3 d4 d5 d6 d7; obtain ⟨e0, e1, e2, e3, e4, e5, e6, e7⟩ := hT2.cells; obtain ⟨a6, k6, rfl⟩ := hv6.form; have t0 := (cell_set2 w6 (w.heap.size + 1 + 1) (.bool (isNeg r)) (.slice a6 (dg r.natAbs).length k6) w.heap.size 0 (by omega)).trans e0; have t1 := (cell_set2 w6 (w.heap.size + 1 + 1) (.bool (isNeg r)) (.slice a6 (dg r.natAbs).length k6) w.heap.size 1 (by omega)).trans e1; have t2 := (cell_set2 w6 (w.heap.size + 1 + 1) (.bool (isNeg r)) (.slice a6 (dg r.natAbs).length k6) (w.heap.size + 1) 0 (by omega)).trans e2; have t3 := (cell_set2 w6 (w.heap.size + 1 + 1) (.bool (isNeg r)) (.slice a6 (dg r.natAbs).length k6) (w.heap.size + 1) 1 (by omega)).trans e3) | (go_at_call 25; refine (rNeg_any _ y _ (by exact HRY.out)).mono ?_; rintro e w5 ⟨v5, rfl, hv5, hb5⟩; rw [HNY.out.2] at hv5; have hT1 := HS1.next hb5 (Nat.le_refl _); clear c0 c1 c2 c3 c4 c5 c6 c7; obtain ⟨d0, d1, d2, d3, d4, d5, d6, d7⟩ := hT1.cells; obtain ⟨a5, k5, rfl⟩ := hv5.form))
  have HS2 := Lib.hid hT2
  have HV6 := Lib.hid hv6
  clear hT1 hT2 hv6 hv5 hb5 hb6 HS1 e0 e1 e2 e3 t0 t1 t2 t3
  go_wp2
  obtain ⟨l0, l1, _, _⟩ := (HS2.out.2.2.2.2.put (.bool (isNeg r)) (.slice a6 (dg r.natAbs).length k6)).cell
  refine bodyPost_ret (v := .agg #[.bool (isNeg r), .slice a6 (dg r.natAbs).length k6]) (by simp only [results, Tryz.results15]; simp [go_sem, l0, l1]) rfl ?_
  exact RefPost.boxed HV6.out HS2.out.2.2.2.2 HS2.out.1 (by omega)

end Go.Proofs.YtdkpcjfadabkbaaGreatDoor
