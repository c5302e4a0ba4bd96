/- What is known of the memory while two tables are built in an order that is drawn. -/
import Derived.Test.YtphlokjhfbfogaaZEM
set_option linter.unusedVariables false
set_option linter.unusedSimpArgs false
namespace Go.Proofs.Ytphlokjhfbfogaa
open Go.RowKit Go.Shelf

/-- A row of types of the call's own, if there is one already, and blocks that lie apart from it. -/
structure Rg (B : Nat) (w0 W : World) (A : Option (Nat × List Value × Value)) (C : List (Nat × Obj)) : Prop where
  below : Below B w0 W
  base : B ≤ w0.heap.size
  row : ∀ k xs v, A = some (k, xs, v) → W.ownsRow B 37 2 v k xs
  obj : ∀ p ∈ C, W.heap[p.1]? = some p.2
  apart : ∀ k xs v, A = some (k, xs, v) → ∀ p ∈ C, v.ownBlock ≠ some p.1

theorem Rg.start (w0 : World) : Rg w0.heap.size w0 w0.drew none [] := ⟨(Below.refl _ _).drew, Nat.le_refl _, fun _ _ _ h => (by simp at h), fun _ h => (by simp at h), fun _ _ _ h => (by simp at h)⟩
theorem Rg.lt {B : Nat} {w0 W : World} {A : Option (Nat × List Value × Value)} {C : List (Nat × Obj)} (h : Rg B w0 W A C) : ∀ p ∈ C, p.1 < W.heap.size := fun p hp => (Array.getElem?_eq_some_iff.1 (h.obj p hp)).1
theorem Rg.size {B : Nat} {w0 W : World} {A : Option (Nat × List Value × Value)} {C : List (Nat × Obj)} (h : Rg B w0 W A C) : B ≤ W.heap.size := Nat.le_trans h.base h.below.size
theorem Rg.rowlt {B : Nat} {w0 W : World} {k : Nat} {xs : List Value} {v : Value} {C : List (Nat × Obj)} (h : Rg B w0 W (some (k, xs, v)) C) : ∀ g, v.ownBlock = some g → B ≤ g ∧ g < W.heap.size := fun g e => (h.row _ _ _ rfl).lt g e

theorem Rg.alloc {B : Nat} {w0 W : World} {A : Option (Nat × List Value × Value)} {C : List (Nat × Obj)} (h : Rg B w0 W A C) (o : Obj) : Rg B w0 (W.alloc o) A ((W.heap.size, o) :: C) := by
  refine ⟨h.below.alloc h.size o, h.base, fun k xs v e => (h.row k xs v e).alloc o, fun p hp => ?_, fun k xs v e p hp => ?_⟩
  · rcases List.mem_cons.1 hp with rfl | hp
    · exact heap_alloc_new W o
    · exact (Below.heap_alloc _ _ _ (h.lt p hp)).trans (h.obj p hp)
  · rcases List.mem_cons.1 hp with rfl | hp
    · intro e2
      have := ((h.row k xs v e).lt _ e2).2
      omega
    · exact h.apart k xs v e p hp
theorem Rg.drop {B : Nat} {w0 W : World} {A : Option (Nat × List Value × Value)} {q : Nat × Obj} {C : List (Nat × Obj)} (h : Rg B w0 W A (q :: C)) : Rg B w0 W A C :=
  ⟨h.below, h.base, h.row, fun p hp => h.obj p (List.mem_cons_of_mem _ hp), fun k xs v e p hp => h.apart k xs v e p (List.mem_cons_of_mem _ hp)⟩
theorem Rg.empty {B : Nat} {w0 W : World} {C : List (Nat × Obj)} (h : Rg B w0 W none C) : Rg B w0 (W.alloc (.cells #[] 37)) (some (0, [], .slice (some ⟨W.heap.size, 0, none⟩) 0 0)) C := by
  refine ⟨h.below.alloc h.size _, h.base, fun k xs v e => ?_, fun p hp => (Below.heap_alloc _ _ _ (h.lt p hp)).trans (h.obj p hp), fun k xs v e p hp => ?_⟩
  · cases e
    exact ⟨rfl, .inr ⟨_, 0, #[], rfl, h.size, heap_alloc_new W _, Nat.le_refl _, Nat.zero_le _, rfl, rfl⟩⟩
  · cases e
    have := h.lt p hp
    intro e2
    have e3 : W.heap.size = p.1 := by simpa [Value.ownBlock] using e2
    omega
theorem Rg.append {B : Nat} {w0 W W' : World} {k k' : Nat} {xs xs' : List Value} {v v' : Value} {C : List (Nat × Obj)} (h : Rg B w0 W (some (k, xs, v)) C) (hown : W'.ownsRow B 37 2 v' k' xs') (hgrow : W.grownBy W' v.ownBlock)
    (hloc : v'.ownBlock = v.ownBlock ∨ v'.ownBlock = some W.heap.size) : Rg B w0 W' (some (k', xs', v')) C := by
  refine ⟨h.below.grown hgrow h.size (fun g e => (h.rowlt g e).1), h.base, fun k xs v e => by cases e; exact hown, fun p hp => ?_, fun k2 xs2 v2 e p hp => ?_⟩
  · exact (hgrow.block p.1 (h.lt p hp) (fun e => h.apart _ _ _ rfl p hp e.symm)).trans (h.obj p hp)
  · cases e
    rcases hloc with e | e
    · rw [e]; exact h.apart _ _ _ rfl p hp
    · rw [e]
      have := h.lt p hp
      intro e2
      injection e2 with e2
      omega

/-- What is left of both at the end: a table with one type more. -/
theorem Rg.table {B : Nat} {w w0 W : World} {b off n cap : Nat} {d : List DataM} {nm : ByteArray} {vc v : Value} {cs : List ConM} {C : List (Nat × Obj)} (hv : DsAt w (.slice (some ⟨b, off, none⟩) n cap) d) (hn : d.length = n) (hw : Below w.heap.size w w0) (hB : w.heap.size ≤ B)
    (h : Rg B w0 W (some (n + 1, tabN w b off n ++ [.string nm, vc], v)) C) (hc : CsAt W vc cs) : DsAt W v (d ++ [⟨nm, cs⟩]) ∧ ∃ a c, v = .slice a (n + 1) c := by
  have hr := h.row _ _ _ rfl
  rcases hr.2 with ⟨_, h0⟩ | ⟨g, cp, cur, e, _⟩
  · omega
  · subst e
    exact ⟨tab_row hv hn (hw.trans (h.below.mono hB)) hc hr, _, _, rfl⟩

end Go.Proofs.Ytphlokjhfbfogaa
