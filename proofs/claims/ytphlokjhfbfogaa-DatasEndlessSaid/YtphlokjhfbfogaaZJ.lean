/- The function literal of Reach at a type that is new: its steps up to the loops. -/
import Derived.Test.YtphlokjhfbfogaaZI
set_option linter.unusedVariables false
set_option linter.unusedSimpArgs false
namespace Go.Proofs.Ytphlokjhfbfogaa
open Go.RowKit Go.Shelf Go.Maps
attribute [local go_sem] Oper.semAt_some

theorem RowIn.slice {A : Ad} {W : World} {b : Nat} {v : Value} {l : List Int} (h : RowIn A W b v l) : ∃ ad cap, v = .slice ad l.length cap := by
  rcases h.2.2 with ⟨hv, h0⟩ | ⟨g, cap, cur, hv, _⟩
  · exact ⟨none, 0, by rw [hv, h0]⟩
  · exact ⟨_, cap, hv⟩

theorem Sv.met {A : Ad} (hA : A.Good) {w : World} {dv : Value} {W w1 w2 : World} {o l : List Int} {vo vl vo' : Value} {t : Int} {tmp : Obj} (hbase : A.base ≤ W.heap.size) (h : Sv A w dv W o l vo vl)
    (hm : MapSet w1 27 A.mb (o.length + 1) (Dt.keyI (o ++ [t]))) (hg : W.grownBy w1 (some A.mb)) :
    (Boxed w1 A.bo 32 vo ∧ w1.ownsRow (A.bc + 1) 27 1 vo o.length (ints o) ∧ A.bc + 1 ≤ w1.heap.size) ∧
    (w2.ownsRow (A.bc + 1) 27 1 vo' (o.length + 1) (ints o ++ [.int .i64 t]) → (w1.alloc tmp).grownBy w2 vo.ownBlock → (vo'.ownBlock = vo.ownBlock ∨ vo'.ownBlock = some (w1.alloc tmp).heap.size) →
      Boxed w2 A.bo 32 vo ∧ Sv A w dv (w2.setCell ⟨A.bo, 0, none⟩ vo') (o ++ [t]) l vo' vl ∧ KeepsFrom (A.bc + 1) W (w2.setCell ⟨A.bo, 0, none⟩ vo')) := by
  have g3 := hA.h3; have g4 := hA.h4; have g5 := hA.h5; have g6 := hA.h6; have g1 := hA.h1; have g2 := hA.h2
  have b1 := h.bd.lt
  have b2 := h.bm.lt
  have b3 := h.bc.lt
  have b4 := h.out.1.lt
  have b5 := h.map.lt
  have b6 := h.left.1.lt
  have k1 : ∀ k, k < W.heap.size → k ≠ A.mb → w1.heap[k]? = W.heap[k]? := fun k a b => hg.block k a (fun e => b (by cases e; rfl))
  have rO : RowIn A w1 A.bo vo o := h.out.keep (k1 _ b4 (by omega)) (fun g hgv => k1 g (h.out.block hgv).2 (by have := (h.out.block hgv).1; omega))
  have rL : RowIn A w1 A.bl vl l := h.left.keep (k1 _ b6 (by omega)) (fun g hgv => k1 g (h.left.block hgv).2 (by have := (h.left.block hgv).1; omega))
  refine ⟨⟨rO.1, rO.2, by have := hg.size; omega⟩, fun hown hgrow hloc => ?_⟩
  have hsz := hg.size
  have k2 : ∀ k, k < w1.heap.size → k ≠ A.bo → some k ≠ vo.ownBlock → (w2.setCell ⟨A.bo, 0, none⟩ vo').heap[k]? = w1.heap[k]? := fun k a b c => by
    rw [Below.heap_setCell _ _ _ k b, hgrow.block k (by simp; omega) c, Below.heap_alloc _ _ _ a]
  have hob : some A.bo ≠ vo.ownBlock := fun e => by have := (h.out.block e.symm).1; omega
  have hb2 : Boxed w2 A.bo 32 vo := (rO.1.alloc tmp).kept hgrow hob
  have far : ∀ k, k ≤ A.bc → k ≠ A.bo → k < w1.heap.size → (w2.setCell ⟨A.bo, 0, none⟩ vo').heap[k]? = w1.heap[k]? := fun k a b c => k2 k c b (fun e => by have := (h.out.block e.symm).1; omega)
  have hvs : ∀ g, vo'.ownBlock = some g → g ≠ A.bo := fun g e => by have := (hown.lt g e).1; omega
  have hrow : (w2.setCell ⟨A.bo, 0, none⟩ vo').ownsRow (A.bc + 1) 27 1 vo' (o.length + 1) (ints o ++ [.int .i64 t]) := hown.kept (grownBy_setCell' w2 A.bo vo') (.inr (fun e => hvs A.bo e rfl))
  refine ⟨hb2, ⟨?_, ?_, ?_, ?_, ?_, ⟨hb2.set vo', ?_⟩, ?_, ?_⟩, ?_⟩
  · refine (h.below.grown hg hbase (fun k e => by cases e; omega)).trans ((((Below.refl A.base w1).alloc (by omega) tmp).grown hgrow (by simp; omega) fun k e => ?_).setCell (p := ⟨A.bo, 0, none⟩) (by show A.base ≤ A.bo; omega) vo')
    have := (h.out.block e).1
    omega
  · exact (far _ (by omega) (by omega) (by omega)).trans ((k1 _ b1 (by omega)).trans h.bd)
  · exact (far _ (by omega) (by omega) (by omega)).trans ((k1 _ b2 (by omega)).trans h.bm)
  · exact (far _ (by omega) (by omega) (by omega)).trans ((k1 _ b3 (by omega)).trans h.bc)
  · rw [List.length_append]
    exact hm.keep (far _ (by omega) (by omega) (by omega))
  · rw [ints_snoc, List.length_append]; exact hrow
  · exact rL.keep (far _ (by omega) (by omega) (by omega)) (fun g hgv => k2 g (rL.block hgv).2 (by have := (h.left.block hgv).1; omega) (fun e => h.apart g e.symm hgv))
  · intro g e hgl
    have hlt := (rL.block hgl).2
    rcases hloc with e2 | e2
    · exact h.apart g (e2.symm.trans e) hgl
    · rw [e2] at e
      cases e
      simp at hlt
      omega
  · have f1 : KeepsFrom (A.bc + 1) W w1 := KeepsFrom.of_grownBy hg (fun j e => by cases e; omega)
    refine f1.trans (KeepsOthers.from ?_ _)
    refine ((KeepsOthers.alloc w1 tmp).trans (KeepsOthers.of_grownBy hgrow fun j ob ej hj => ?_)).trans (KeepsOthers.setCell _ _ _)
    rcases (rO.2.alloc tmp).2 with ⟨hv, _⟩ | ⟨g, cap, cur, hv, _, hgb, _⟩
    · rw [hv] at ej; cases ej
    · rw [hv] at ej
      cases ej
      rw [hgb] at hj; cases hj; rfl

end Go.Proofs.Ytphlokjhfbfogaa
