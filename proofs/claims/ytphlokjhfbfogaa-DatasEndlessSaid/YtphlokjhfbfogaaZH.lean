/- The state of Reach's function literal. -/
import Derived.Test.YtphlokjhfbfogaaZG
import Derived.Test.YtphlokjhfbfogaaZ3
set_option linter.unusedVariables false
set_option linter.unusedSimpArgs false
namespace Go.Proofs.Ytphlokjhfbfogaa
open Go.RowKit Go.Shelf Go.Maps

/-- What lies in the variables of Reach: the types met, and those left. -/
structure Sv (A : Ad) (w : World) (dv : Value) (W : World) (o l : List Int) (vo vl : Value) : Prop where
  below : Below A.base w W
  bd : Boxed W A.bd 22 dv
  bm : Boxed W A.bm 46 (.map (some A.mb))
  bc : Boxed W A.bc 47 (.func (.func 23) #[] A.caps)
  map : MapSet W 27 A.mb o.length (Dt.keyI o)
  out : RowIn A W A.bo vo o
  left : RowIn A W A.bl vl l
  apart : ∀ g, vo.ownBlock = some g → vl.ownBlock ≠ some g
def St (A : Ad) (w : World) (dv : Value) (W : World) (o l : List Int) : Prop := ∃ vo vl, Sv A w dv W o l vo vl

theorem Sv.after {A : Ad} (hA : A.Good) {w : World} {dv : Value} {W0 W : World} {o l l1 : List Int} {vo vl : Value} (h : Sv A w dv W0 o l vo vl) (hl : LfR A W0 vl W l1) : St A w dv W o l1 := by
  obtain ⟨v, r1, r2, r3, r4⟩ := hl
  have g3 := hA.h3; have g4 := hA.h4; have g5 := hA.h5; have g6 := hA.h6; have g1 := hA.h1; have g2 := hA.h2
  have far : ∀ k, k ≤ A.bc → k ≠ A.bl → k < W0.heap.size → W.heap[k]? = W0.heap[k]? := fun k a b c => r3.2 k c b (fun e => by have := (h.left.block e.symm).1; omega)
  have e1 := h.bd.lt
  have e2 := h.bm.lt
  have e3 := h.bc.lt
  have e4 := h.out.1.lt
  have e5 := h.map.lt
  refine ⟨vo, v, h.below.trans r4, (far _ (by omega) (by omega) e1).trans h.bd, (far _ (by omega) (by omega) e2).trans h.bm, (far _ (by omega) (by omega) e3).trans h.bc, h.map.keep (far _ (by omega) (by omega) e5), h.out.keep (far _ (by omega) (by omega) e4) (fun g hg => r3.2 g (h.out.block hg).2 (fun e => by have := (h.out.block hg).1; omega) (fun e => h.apart g hg e.symm)), r1, fun g hg e => ?_⟩
  rcases r2 with r2 | ⟨g', r2, hg'⟩
  · exact h.apart g hg (r2.symm.trans e)
  · rw [r2] at e
    cases e
    have := (h.out.block hg).2
    omega

/-- Behind a turn of a block that none of the state lies in. -/
theorem Sv.turn {A : Ad} {w : World} {dv : Value} {W W' : World} {o l : List Int} {vo vl : Value} (h : Sv A w dv W o l vo vl) (hb : Below A.base W W') (hk : ∀ k, k < W.heap.size → (∀ ob, W.heap[k]? = some ob → ob.isCells = true ∨ k = A.mb) → W'.heap[k]? = W.heap[k]?) : Sv A w dv W' o l vo vl := by
  have cells : ∀ {k t v}, Boxed W k t v → W'.heap[k]? = W.heap[k]? := fun {k t v} hx => hk k hx.lt (fun ob ho => by
    rw [show W.heap[k]? = _ from hx] at ho; cases ho; exact .inl rfl)
  have row : ∀ {b v l}, RowIn A W b v l → ∀ g, v.ownBlock = some g → W'.heap[g]? = W.heap[g]? := fun {b v l} hx g hg => hk g (hx.block hg).2 (fun ob ho => by
    rcases hx.2.2 with ⟨hv, _⟩ | ⟨g', cap, cur, hv, _, hgb, _⟩
    · rw [hv] at hg; cases hg
    · rw [hv] at hg
      cases hg
      rw [hgb] at ho; cases ho; exact .inl rfl)
  exact ⟨h.below.trans hb, (cells h.bd).trans h.bd, (cells h.bm).trans h.bm, (cells h.bc).trans h.bc, h.map.keep (hk A.mb h.map.lt (fun _ _ => .inr rfl)), h.out.keep (cells h.out.1) (row h.out), h.left.keep (cells h.left.1) (row h.left), h.apart⟩

namespace Dt
theorem fieldsOf_length {d : List DataM} (hd : Sm d) (t : Int) : (fieldsOf d t).length ≤ 10000 := by
  unfold fieldsOf
  have h1 := consOf_length hd t
  have h2 : ∀ c ∈ consOf d t, c.fields.length ≤ 100 := fun c hc => by
    obtain ⟨x, hx, hcx⟩ := consOf_mem hc
    exact ((hd.2 x hx).2.2 c hcx).2.1
  have key : ∀ l : List ConM, (∀ c ∈ l, c.fields.length ≤ 100) → (l.flatMap (·.fields)).length ≤ 100 * l.length := by
    intro l
    induction l with
    | nil => intro _; simp
    | cons c l ih =>
      intro h
      have h1 := h c (by simp)
      have h2 := ih (fun c hc => h c (by simp [hc]))
      rw [List.flatMap_cons, List.length_append, List.length_cons]
      omega
  have := key _ h2
  omega
theorem fieldsOf_in {d : List DataM} (hd : Sm d) (t : Int) : ∀ f ∈ fieldsOf d t, In64 f := by
  intro f hf
  unfold fieldsOf at hf
  obtain ⟨c, hc, hfc⟩ := List.mem_flatMap.1 hf
  obtain ⟨x, hx, hcx⟩ := consOf_mem hc
  exact ((hd.2 x hx).2.2 c hcx).2.2 f hfc
theorem fold_bound {d : List DataM} {k : Nat} (h : ∀ t l, (reachF d k t l).length + unmet d (reachF d k t l) ≤ l.length + unmet d l) : ∀ (fs : List Int) (l : List Int), (fs.foldl (fun l f => reachF d k f l) l).length + unmet d (fs.foldl (fun l f => reachF d k f l) l) ≤ l.length + unmet d l
  | [], l => Nat.le_refl _
  | f :: fs, l => Nat.le_trans (fold_bound h fs (reachF d k f l)) (h f l)
theorem reach_bound (d : List DataM) : ∀ (k : Nat) (t : Int) (l : List Int), (reachF d k t l).length + unmet d (reachF d k t l) ≤ l.length + unmet d l
  | 0, t, l => Nat.le_refl _
  | k + 1, t, l => by
    rw [reachF]
    split
    next h =>
      have h1 := fold_bound (reach_bound d k) (fieldsOf d t) (l ++ [t])
      have h2 := unmet_snoc d h.1 h.2
      rw [List.length_append, List.length_singleton] at h1
      omega
    next h => exact Nat.le_refl _
end Dt

end Go.Proofs.Ytphlokjhfbfogaa
