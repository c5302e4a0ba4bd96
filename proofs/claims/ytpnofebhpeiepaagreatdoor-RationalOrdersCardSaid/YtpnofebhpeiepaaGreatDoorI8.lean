/- What readBoth does. -/
import Derived.Test.YtpnofebhpeiepaaGreatDoorI7
set_option linter.unusedVariables false
set_option linter.unusedSimpArgs false
namespace Go.Proofs.YtpnofebhpeiepaaGreatDoor
open Go.RowKit _root_.Go.Proofs.YtpnofebhpeiepaaGreatDoor.Nm

/-- Two integers, or two zeros and false. -/
def BothPost (P : Nat → Prop) (s t : ByteArray) (w : World) (e : Ending) (w' : World) : Prop :=
  ∃ s1 p1 s2 p2, e = .returned (.tuple #[.agg #[.int .i64 s1, .pointer p1], .agg #[.int .i64 s2, .pointer p2], .bool (canon s.data.toList && canon t.data.toList)]) ∧
    ((canon s.data.toList && canon t.data.toList) = true → IsInt P w' (.agg #[.int .i64 s1, .pointer p1]) (zv s.data.toList) ∧ IsInt P w' (.agg #[.int .i64 s2, .pointer p2]) (zv t.data.toList)) ∧ Below w.heap.size w w'

theorem pair_kept {Q : Nat → Prop} (w1 : World) (g : Nat) (x0 x1 y0 y1 : Value) (hg : ¬ Q g) (hg1 : ¬ Q (g + 1)) : Kept Q w1 ((((w1.setCell ⟨g, 0, none⟩ x0).setCell ⟨g, 1, none⟩ x1).setCell ⟨g + 1, 0, none⟩ y0).setCell ⟨g + 1, 1, none⟩ y1) :=
  (((Kept.set w1 g 0 x0 hg).trans (.set _ g 1 x1 hg)).trans (.set _ (g + 1) 0 y0 hg1)).trans (.set _ (g + 1) 1 y1 hg1)

theorem pair_below (w1 : World) (g : Nat) (x0 x1 y0 y1 : Value) : Below g w1 ((((w1.setCell ⟨g, 0, none⟩ x0).setCell ⟨g, 1, none⟩ x1).setCell ⟨g + 1, 0, none⟩ y0).setCell ⟨g + 1, 1, none⟩ y1) :=
  ((((Only.refl g w1).set 0 x0).set 1 x1).below (Nat.le_refl _)).trans ((((Only.refl (g + 1) _).set 0 y0).set 1 y1).below (Nat.le_succ _))

/-- Two boxes stand behind w's end. -/
def St2 (w W : World) (x0 x1 y0 y1 : Value) : Prop := Below w.heap.size w W ∧ w.heap.size + 2 ≤ W.heap.size ∧ Bx W w.heap.size x0 x1 ∧ Bx W (w.heap.size + 1) y0 y1
theorem St2.start (w : World) (x0 x1 y0 y1 : Value) (T1 T2 : TypeId) : St2 w ((w.alloc (.cells #[x0, x1] T1)).alloc (.cells #[y0, y1] T2)) x0 x1 y0 y1 :=
  ⟨boxes2 _ _ _, by simp, (Bx.new w x0 x1 T1).alloc _, second_box w _ y0 y1 T2 ()⟩
theorem St2.next {w W W' : World} {x0 x1 y0 y1 : Value} {B : Nat} (h : St2 w W x0 x1 y0 y1) (hb : Below B W W') (hB : W.heap.size ≤ B) : St2 w W' x0 x1 y0 y1 := by
  obtain ⟨h1, h2, h3, h4⟩ := h
  exact ⟨h1.trans (hb.mono (by omega)), Nat.le_trans h2 hb.size, h3.below hb (by have := h3.lt; omega), h4.below hb (by have := h4.lt; omega)⟩
theorem St2.drew {w W : World} {x0 x1 y0 y1 : Value} (h : St2 w W x0 x1 y0 y1) : St2 w W.drew x0 x1 y0 y1 := ⟨h.1.drew, h.2.1, h.2.2.1.drew, h.2.2.2.drew⟩
theorem St2.cells {w W : World} {x0 x1 y0 y1 : Value} (h : St2 w W x0 x1 y0 y1) :
    W.cell? ⟨w.heap.size, 0, none⟩ = some x0 ∧ W.cell? ⟨w.heap.size, 1, none⟩ = some x1 ∧ W.cell? ⟨w.heap.size + 1, 0, none⟩ = some y0 ∧ W.cell? ⟨w.heap.size + 1, 1, none⟩ = some y1 ∧
    W.frozen? ⟨w.heap.size, 0, none⟩ = false ∧ W.frozen? ⟨w.heap.size, 1, none⟩ = false ∧ W.frozen? ⟨w.heap.size + 1, 0, none⟩ = false ∧ W.frozen? ⟨w.heap.size + 1, 1, none⟩ = false := by
  obtain ⟨_, _, h3, h4⟩ := h
  exact ⟨h3.cell.1, h3.cell.2.1, h4.cell.1, h4.cell.2.1, h3.cell.2.2.1, h3.cell.2.2.2, h4.cell.2.2.1, h4.cell.2.2.2⟩
/-- P, but not the two boxes. -/
def Bar2 (P : Nat → Prop) (w : World) (k : Nat) : Prop := P k ∧ (k < w.heap.size ∨ w.heap.size + 2 ≤ k)
theorem Bar2.new {P : Nat → Prop} {w : World} (hP : ∀ k, w.heap.size ≤ k → P k) (k : Nat) (hk : w.heap.size + 2 ≤ k) : Bar2 P w k := ⟨hP k (by omega), .inr hk⟩
theorem IsInt.bar2 {P : Nat → Prop} {w W : World} {v : Value} {z : Int} (h : IsInt P w v z) (hb : Below w.heap.size w W) : IsInt (Bar2 P w) W v z :=
  (h.mono (fun k hk hp => (⟨hp, .inl hk⟩ : Bar2 P w k))).kept (.all hb)

end Go.Proofs.YtpnofebhpeiepaaGreatDoor
