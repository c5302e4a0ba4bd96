/- The memory of deepest, and isLeaf. -/
import Derived.Test.YtpeihgbkolihgaaDoorU2
import Derived.RangeFuncBox
set_option linter.unusedVariables false
set_option linter.unusedSimpArgs false
namespace Go.Proofs.YtpeihgbkolihgaaDoor
open Go.RowKit

theorem cells_set {W : World} {g i : Nat} {cur : Array Value} {t : TypeId} {fz : Nat × Nat} (u : Value) (h : W.heap[g]? = some (.cells cur t fz)) : (W.setCell ⟨g, i, none⟩ u).heap[g]? = some (.cells (cur.setIfInBounds i u) t fz) := by
  obtain ⟨hlt, hk⟩ := Array.getElem?_eq_some_iff.1 h
  show (W.heap.modify g _)[g]? = _
  rw [Array.getElem?_eq_getElem (by rw [Array.size_modify]; exact hlt), Array.getElem_modify_self, hk]
  rfl
theorem cells_frozen {W : World} {g i : Nat} {cur : Array Value} {t : TypeId} (h : W.heap[g]? = some (.cells cur t)) : W.frozen? ⟨g, i, none⟩ = false := by simp [World.frozen?, h]

set_option maxRecDepth 100000 in
set_option maxHeartbeats 1600000 in
theorem isLeaf_any (ad : Option Addr) (n cap : Nat) (root t : Int) (w : World) (r : Bool) (hr : Hid ((decide (0 ≤ t) && decide (t < (n : Int))) = r)) :
    Calls Tryd.prog 22 #[.agg #[.slice ad n cap, .int .i64 root], .int .i64 t] w fun e w' => e = .returned (.bool r) ∧ w' = w.alloc (.cells #[.slice ad n cap, .int .i64 root] 24) := by
  by_cases h0 : 0 ≤ t
  · have HR : Hid (decide (t < (n : Int)) = r) := Lib.hid (by rw [← hr.out]; simp [h0])
    have hd : decide ((0 : Int) ≤ t) = true := decide_eq_true h0
    clear hr
    go_enter Tryd.func22, Tryd.ntmps22
    go_wp2
    go_ret
    exact ⟨by rw [← HR.out] <;> rfl, rfl⟩
  · obtain rfl : r = false := by rw [← hr.out]; simp [h0]
    have hd : decide ((0 : Int) ≤ t) = false := decide_eq_false h0
    clear hr
    go_enter Tryd.func22, Tryd.ntmps22
    go_wp2
    go_ret
    exact ⟨rfl, rfl⟩

def bools (l : List Bool) : Array Value := (l.map Value.bool).toArray
theorem bools_get (l : List Bool) (i : Nat) : (bools l)[i]? = (l[i]?).map Value.bool := by simp [bools]
theorem bools_set (l : List Bool) (i : Nat) (b : Bool) : (bools l).setIfInBounds i (.bool b) = bools (l.set i b) := by
  unfold bools
  rw [List.setIfInBounds_toArray, List.map_set]

def dpCaps (B : Nat) : Array Value := #[.pointer (some ⟨B, 0, none⟩), .pointer (some ⟨B + 2, 0, none⟩), .pointer (some ⟨B + 3, 0, none⟩), .pointer (some ⟨B + 4, 0, none⟩), .pointer (some ⟨B + 5, 0, none⟩)]
def dpArgs (B : Nat) (t depth : Int) : Array Value := #[.int .i64 t, .int .i64 depth, .pointer (some ⟨B, 0, none⟩), .pointer (some ⟨B + 2, 0, none⟩), .pointer (some ⟨B + 3, 0, none⟩), .pointer (some ⟨B + 4, 0, none⟩), .pointer (some ⟨B + 5, 0, none⟩)]
/-- What lies in the variables of deepest. -/
structure DpM (B : Nat) (w : World) (tv : Value) (root : Int) (n : Nat) (W : World) (s : Sx.St) : Prop where
  below : Below B w W
  tree : W.heap[B]? = some (.cells #[tv, .int .i64 root] 24)
  row : W.heap[B + 1]? = some (.cells (bools s.marks) 4)
  box : W.heap[B + 2]? = some (.cells #[.slice (some ⟨B + 1, 0, none⟩) n n] 93)
  cnt : W.heap[B + 3]? = some (.cells #[.int .i64 (s.count : Int)] 3)
  top : W.heap[B + 4]? = some (.cells #[.int .i64 s.top] 3)
  fn : W.heap[B + 5]? = some (.cells #[.func (.func 55) #[] (dpCaps B)] 94)
theorem DpM.alloc {B : Nat} {w : World} {tv : Value} {root : Int} {n : Nat} {W : World} {s : Sx.St} (h : DpM B w tv root n W s) (o : Obj) : DpM B w tv root n (W.alloc o) s := by
  have k : ∀ {g x}, W.heap[g]? = some x → (W.alloc o).heap[g]? = some x := fun hg => (Below.heap_alloc _ _ _ (lt_of hg)).trans hg
  exact ⟨h.below.alloc (by have := lt_of h.fn; omega) o, k h.tree, k h.row, k h.box, k h.cnt, k h.top, k h.fn⟩
theorem DpM.mark {B : Nat} {w : World} {tv : Value} {root : Int} {n : Nat} {W : World} {s : Sx.St} (h : DpM B w tv root n W s) (i : Nat) (d : Int) :
    DpM B w tv root n (((W.setCell ⟨B + 1, i, none⟩ (.bool true)).setCell ⟨B + 3, 0, none⟩ (.int .i64 ((s.count : Int) + 1))).setCell ⟨B + 4, 0, none⟩ (.int .i64 d)) ⟨s.marks.set i true, s.count + 1, d⟩ := by
  have k : ∀ {V : World} {g j b : Nat} {u : Value} {x}, V.heap[g]? = some x → g ≠ b → (V.setCell ⟨b, j, none⟩ u).heap[g]? = some x := fun hg hne => (Below.heap_setCell _ _ _ _ (by exact hne)).trans hg
  refine ⟨((h.below.setCell (p := ⟨B + 1, i, none⟩) (by show B ≤ B + 1; omega) _).setCell (p := ⟨B + 3, 0, none⟩) (by show B ≤ B + 3; omega) _).setCell (p := ⟨B + 4, 0, none⟩) (by show B ≤ B + 4; omega) _, ?_, ?_, ?_, ?_, ?_, ?_⟩
  · exact k (k (k h.tree (by omega)) (by omega)) (by omega)
  · refine k (k ?_ (by omega)) (by omega)
    rw [cells_set _ h.row, bools_set]
  · exact k (k (k h.box (by omega)) (by omega)) (by omega)
  · refine k ?_ (by omega)
    rw [cells_set _ (k h.cnt (by omega))]
    rfl
  · rw [cells_set _ (k (k h.top (by omega)) (by omega))]
    rfl
  · exact k (k (k h.fn (by omega)) (by omega)) (by omega)

end Go.Proofs.YtpeihgbkolihgaaDoor
