/- What the function literal of Reach keeps: its variables, and what a loop that appends to one of them leaves. -/
import Derived.Test.YtphlokjhfbfogaaZF
import Derived.Test.YtphlokjhfbfogaaZA
import Derived.Maps.AppendAt
import Derived.RangeFuncBox
set_option linter.unusedVariables false
set_option linter.unusedSimpArgs false
namespace Go.Proofs.Ytphlokjhfbfogaa
open Go.RowKit Go.Shelf Go.Maps
attribute [local go_sem] Oper.semAt_some

theorem infoType : (Try.prog.info? 27).map (fun i => (i.zero, i.size, i.bytes)) = some (some (.int .i64 0), 1, 8) := by kernel_rfl

/-- The blocks of Reach's variables. -/
structure Ad where
  base : Nat
  bd : Nat
  bo : Nat
  bl : Nat
  mb : Nat
  bm : Nat
  bc : Nat
structure Ad.Good (A : Ad) : Prop where
  h1 : A.base ≤ A.bd
  h2 : A.bd < A.bo
  h3 : A.bo < A.bl
  h4 : A.bl < A.mb
  h5 : A.mb < A.bm
  h6 : A.bm < A.bc
def Ad.caps (A : Ad) : Array Value := #[.pointer (some ⟨A.bm, 0, none⟩), .pointer (some ⟨A.bd, 0, none⟩), .pointer (some ⟨A.bo, 0, none⟩), .pointer (some ⟨A.bl, 0, none⟩), .pointer (some ⟨A.bc, 0, none⟩)]

def ints (l : List Int) : List Value := l.map (Value.int .i64)
theorem ints_length (l : List Int) : (ints l).length = l.length * 1 := by simp [ints]
theorem ints_snoc (l : List Int) (x : Int) : ints (l ++ [x]) = ints l ++ [.int .i64 x] := by simp [ints]

/-- A box holds a row of types of the call's own. -/
def RowIn (A : Ad) (W : World) (b : Nat) (v : Value) (l : List Int) : Prop := Boxed W b 32 v ∧ W.ownsRow (A.bc + 1) 27 1 v l.length (ints l)

theorem RowIn.block {A : Ad} {W : World} {b : Nat} {v : Value} {l : List Int} (h : RowIn A W b v l) {g : Nat} (hg : v.ownBlock = some g) : A.bc + 1 ≤ g ∧ g < W.heap.size := h.2.lt g hg
theorem RowIn.keep {A : Ad} {W W' : World} {b : Nat} {v : Value} {l : List Int} (h : RowIn A W b v l) (hb : W'.heap[b]? = W.heap[b]?) (hr : ∀ g, v.ownBlock = some g → W'.heap[g]? = W.heap[g]?) : RowIn A W' b v l := by
  refine ⟨hb.trans h.1, h.2.1, ?_⟩
  rcases h.2.2 with h1 | ⟨g, cap, cur, h3, h4, h5, rest⟩
  · exact .inl h1
  · exact .inr ⟨g, cap, cur, h3, h4, (hr g (by rw [h3]; rfl)).trans h5, rest⟩

/-- What lies as it lay: all but one box and one row. -/
def KeepsBut (K0 bl : Nat) (gl : Option Nat) (X Y : World) : Prop := X.heap.size ≤ Y.heap.size ∧ ∀ k, k < K0 → k ≠ bl → some k ≠ gl → Y.heap[k]? = X.heap[k]?
theorem KeepsBut.refl (K0 bl : Nat) (gl : Option Nat) (X : World) : KeepsBut K0 bl gl X X := ⟨Nat.le_refl _, fun _ _ _ _ => rfl⟩
theorem KeepsBut.trans {K0 bl : Nat} {gl : Option Nat} {X Y Z : World} (h : KeepsBut K0 bl gl X Y) (k : KeepsBut K0 bl gl Y Z) : KeepsBut K0 bl gl X Z :=
  ⟨Nat.le_trans h.1 k.1, fun i a b c => (k.2 i a b c).trans (h.2 i a b c)⟩
theorem KeepsBut.putObj {K0 bl : Nat} {gl : Option Nat} (W : World) (l : Nat) (o' : Obj) (hl : K0 ≤ l) : KeepsBut K0 bl gl W (W.putObj l o') :=
  ⟨by simp, fun k hk _ _ => World.putObj_heap_other (by omega)⟩

/-- What a loop that appends to the variable in bl has left since W0, where the variable held vl. -/
def LfR (A : Ad) (W0 : World) (vl : Value) (W : World) (l : List Int) : Prop :=
  ∃ v, RowIn A W A.bl v l ∧ (v.ownBlock = vl.ownBlock ∨ ∃ g, v.ownBlock = some g ∧ W0.heap.size ≤ g) ∧ KeepsBut W0.heap.size A.bl vl.ownBlock W0 W ∧ Below A.base W0 W

theorem LfR.start {A : Ad} {W : World} {v : Value} {l : List Int} (h : RowIn A W A.bl v l) : LfR A W v W l := ⟨v, h, .inl rfl, KeepsBut.refl _ _ _ _, Below.refl _ _⟩

theorem LfR.own {β : Type} {A : Ad} (hA : A.Good) {W0 : World} {vl : Value} (f : β → List Int) (hbl : A.bl < W0.heap.size) (hbase : A.base ≤ W0.heap.size) : OwnFrom W0.heap.size (fun s W => LfR A W0 vl W (f s)) := by
  rintro s X Y row ⟨v, h1, h2, h3, h4⟩ hg hr
  have hrow : ∀ r, row = some r → W0.heap.size ≤ r := fun r e => (hr r e).1
  have hbl2 : some A.bl ≠ row := fun e => by have := hrow _ e.symm; omega
  refine ⟨v, h1.keep (hg.block _ h1.1.lt hbl2) (fun g hgv => hg.block _ (h1.block hgv).2 (fun e => ?_)), h2, ⟨Nat.le_trans h3.1 hg.size, fun k a b c => ?_⟩, h4.grown hg (Nat.le_trans hbase h3.1) (fun k e => Nat.le_trans hbase (hrow k e))⟩
  · obtain ⟨o, ho, hc⟩ := (hr g e.symm).2
    rcases h1.2.2 with ⟨hv, _⟩ | ⟨g', cap, cur, h3', h4', h5', _⟩
    · rw [hv] at hgv; cases hgv
    · rw [h3'] at hgv
      cases hgv
      rw [h5'] at ho
      cases ho
      cases hc
  · exact (hg.block k (Nat.lt_of_lt_of_le a h3.1) (fun e => by have := hrow _ e.symm; omega)).trans (h3.2 k a b c)

/-- One element is appended to the variable in bl. -/
theorem LfR.step {A : Ad} (hA : A.Good) {W0 W w1 : World} {vl v v' : Value} {l : List Int} {x : Int} {tmp : Obj} (hbase : A.base ≤ W0.heap.size)
    (h1 : RowIn A W A.bl v l) (h2 : v.ownBlock = vl.ownBlock ∨ ∃ g, v.ownBlock = some g ∧ W0.heap.size ≤ g) (h3 : KeepsBut W0.heap.size A.bl vl.ownBlock W0 W) (h4 : Below A.base W0 W)
    (hown : w1.ownsRow (A.bc + 1) 27 1 v' (l.length + 1) (ints l ++ [.int .i64 x])) (hgrow : (W.alloc tmp).grownBy w1 v.ownBlock) (hloc : v'.ownBlock = v.ownBlock ∨ v'.ownBlock = some (W.alloc tmp).heap.size) :
    Boxed w1 A.bl 32 v ∧ LfR A W0 vl (w1.setCell ⟨A.bl, 0, none⟩ v') (l ++ [x]) ∧ KeepsOthers W (w1.setCell ⟨A.bl, 0, none⟩ v') ∧ KeepsBut W.heap.size A.bl v.ownBlock W (w1.setCell ⟨A.bl, 0, none⟩ v') := by
  have g3 := hA.h3; have g4 := hA.h4; have g5 := hA.h5; have g6 := hA.h6; have g1 := hA.h1; have g2 := hA.h2
  have hvb : some A.bl ≠ v.ownBlock := fun e => by have := (h1.block e.symm).1; omega
  have hb1 : Boxed w1 A.bl 32 v := (h1.1.alloc tmp).kept hgrow hvb
  have hk1 : KeepsBut W.heap.size A.bl v.ownBlock W (w1.setCell ⟨A.bl, 0, none⟩ v') := by
    refine ⟨?_, fun k a b c => ?_⟩
    · have := hgrow.size
      simp [World.setCell] at this ⊢
      omega
    · rw [Below.heap_setCell _ _ _ k b, hgrow.block k (by simp; omega) c, Below.heap_alloc _ _ _ a]
  have hvs : ∀ g, v'.ownBlock = some g → g ≠ A.bl := fun g e => by have := (hown.lt g e).1; omega
  have hrow : (w1.setCell ⟨A.bl, 0, none⟩ v').ownsRow (A.bc + 1) 27 1 v' (l.length + 1) (ints l ++ [.int .i64 x]) := hown.kept (grownBy_setCell' w1 A.bl v') (.inr (fun e => hvs A.bl e rfl))
  refine ⟨hb1, ⟨v', ⟨hb1.set v', ?_⟩, ?_, ?_, ?_⟩, ?_, hk1⟩
  · rw [ints_snoc, List.length_append]; exact hrow
  · rcases hloc with e | e
    · rw [e]; exact h2
    · refine .inr ⟨_, e, ?_⟩
      have := h3.1
      simp
      omega
  · refine ⟨Nat.le_trans h3.1 hk1.1, fun k a b c => ?_⟩
    refine (hk1.2 k (Nat.lt_of_lt_of_le a h3.1) b (fun e => ?_)).trans (h3.2 k a b c)
    rcases h2 with e2 | ⟨g, e2, hg⟩
    · exact c (e.trans e2)
    · rw [e2] at e
      cases e
      omega
  · refine h4.trans (((((Below.refl A.base W).alloc (Nat.le_trans hbase h3.1) tmp).grown hgrow (by simp; have := h3.1; omega) fun k e => ?_)).setCell (p := ⟨A.bl, 0, none⟩) (by show A.base ≤ A.bl; omega) v')
    have := (h1.block e).1
    omega
  · refine ((KeepsOthers.alloc W tmp).trans (KeepsOthers.of_grownBy hgrow fun j o ej hj => ?_)).trans (KeepsOthers.setCell _ _ _)
    rcases (h1.2.alloc tmp).2 with ⟨hv, _⟩ | ⟨g, cap, cur, hv, _, hgb, _⟩
    · rw [hv] at ej; cases ej
    · rw [hv] at ej
      cases ej
      rw [hgb] at hj; cases hj; rfl

set_option maxHeartbeats 1600000 in
theorem backC_make (n : Nat) (v : Value) (w : World) (ad : Option Addr) (m cap : Nat) (hv : v = .slice ad m cap) : CallsIn Fence.wide n Try.prog 25 #[v] w fun e w' => e = .returned (.func (.func 47) #[] #[.pointer (some ⟨w.heap.size, 0, none⟩)]) ∧ w' = w.alloc (.cells #[v] 35) := by
  subst hv
  refine callsIn_wide.2 ?_
  go_enter Try.func25, Try.ntmps25
  go_wp2
  go_ret
  exact ⟨rfl, rfl⟩
set_option maxHeartbeats 1600000 in
theorem backF_make (n : Nat) (v : Value) (w : World) (ad : Option Addr) (m cap : Nat) (hv : v = .slice ad m cap) : CallsIn Fence.wide n Try.prog 27 #[v] w fun e w' => e = .returned (.func (.func 48) #[] #[.pointer (some ⟨w.heap.size, 0, none⟩)]) ∧ w' = w.alloc (.cells #[v] 32) := by
  subst hv
  refine callsIn_wide.2 ?_
  go_enter Try.func27, Try.ntmps27
  go_wp2
  go_ret
  exact ⟨rfl, rfl⟩

end Go.Proofs.Ytphlokjhfbfogaa
