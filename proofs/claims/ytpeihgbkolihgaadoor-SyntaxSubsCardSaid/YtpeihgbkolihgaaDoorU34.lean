/- The memory of below. -/
import Derived.Test.YtpeihgbkolihgaaDoorU31
import Derived.Test.YtpeihgbkolihgaaDoorU33
set_option linter.unusedVariables false
set_option linter.unusedSimpArgs false
namespace Go.Proofs.YtpeihgbkolihgaaDoor
open Go.RowKit

def bwFn (A : Nat) : Obj := .cells #[.func (.func 43) #[] #[.pointer (some ⟨A, 0, none⟩), .pointer (some ⟨A + 2, 0, none⟩), .pointer (some ⟨A + 3, 0, none⟩)]] 83
/-- What lies in the variables of below. -/
structure BwM (A : Nat) (w0 : World) (tv : Value) (root : Int) (v : Value) (P : List Ent) (W : World) : Prop where
  below : Below A w0 W
  tree : W.heap[A]? = some (treeO tv root)
  out : W.heap[A + 2]? = some (treeO v 0)
  fn : W.heap[A + 3]? = some (bwFn A)
  row : RowL A (A + 2) W v P
/-- The blocks that a call leaves as they are. -/
structure Fr (A : Nat) (W : World) (v : Value) (W' : World) (v' : Value) : Prop where
  nx : Nx W v W' v'
  same : ∀ j, j < W.heap.size → j ≠ A + 2 → v.ownBlock ≠ some j → W'.heap[j]? = W.heap[j]?
theorem Fr.refl (A : Nat) (W : World) (v : Value) : Fr A W v W v := ⟨Nx.refl _ _, fun _ _ _ _ => rfl⟩
theorem Fr.trans {A : Nat} {W W' W'' : World} {v v' v'' : Value} (h : Fr A W v W' v') (k : Fr A W' v' W'' v'') : Fr A W v W'' v'' :=
  ⟨h.nx.trans k.nx, fun j hj hne hv => (k.same j (Nat.lt_of_lt_of_le hj h.nx.size) hne (h.nx.off hj hv)).trans (h.same j hj hne hv)⟩
theorem Fr.trans' {A : Nat} {W W' W'' : World} {v v' : Value} (h : Fr A W v W' v') (hs : W'.heap.size ≤ W''.heap.size) (hk : ∀ j, j < W.heap.size → j ≠ A + 2 → v.ownBlock ≠ some j → W''.heap[j]? = W'.heap[j]?) : Fr A W v W'' v' :=
  ⟨⟨Nat.le_trans h.nx.size hs, h.nx.own⟩, fun j hj hne hv => (hk j hj hne hv).trans (h.same j hj hne hv)⟩
theorem Fr.of_below {A : Nat} {W W' : World} {v : Value} (h : Below W.heap.size W W') : Fr A W v W' v := ⟨⟨h.size, .inl rfl⟩, fun j hj _ _ => h.block j hj⟩
theorem Fr.drew {A : Nat} {W W' : World} {v v' : Value} (h : Fr A W v W' v') : Fr A W v W'.drew v' := ⟨⟨h.nx.size, h.nx.own⟩, h.same⟩
theorem RowL.not {B X : Nat} {W : World} {v : Value} {P : List Ent} (h : RowL B X W v P) {j : Nat} {cs : Array Value} {t : TypeId} (hj : W.heap[j]? = some (.cells cs t)) (ht : t ≠ 38) : v.ownBlock ≠ some j := by
  intro e
  obtain ⟨cur, h1, _⟩ := own_type h.own e
  rw [h1] at hj
  cases hj
  exact ht rfl
theorem BwM.keep {A : Nat} {w0 W W' : World} {tv : Value} {root : Int} {v : Value} {P : List Ent} (h : BwM A w0 tv root v P W) (hb : Below W.heap.size W W') : BwM A w0 tv root v P W' :=
  ⟨h.below.trans (hb.mono (by have := lt_of h.tree; omega)), (hb.block _ (lt_of h.tree)).trans h.tree, (hb.block _ (lt_of h.out)).trans h.out, (hb.block _ (lt_of h.fn)).trans h.fn, h.row.keep hb⟩
/-- Another block of one's own is written. -/
theorem IsAt.far {W : World} {g o : Nat} {u q : Value} {l : List Int} (h : IsAt W q l) (hg : ∀ ad n cap, q = .slice (some ad) n cap → n ≠ 0 → ad.block ≠ g) : IsAt (W.setCell ⟨g, o, none⟩ u) q l :=
  h.blocks (by simp [World.setCell]) fun ad n c e hn hb => Below.heap_setCell _ _ _ _ (hg ad n c e hn)
/-- Rows that do not lie in a block; rows that are new. -/
def OffK (u : Value) (K : Nat) : Prop := ∀ ad n cap, u = .slice (some ad) n cap → n ≠ 0 → ad.block ≠ K
def Fresh (S : Nat) (Q : List Ent) : Prop := ∀ p ∈ Q, ∀ ad n cap, p.2 = .slice (some ad) n cap → n ≠ 0 → S ≤ ad.block
theorem Fresh.mono {S S' : Nat} {Q : List Ent} (h : Fresh S' Q) (hs : S ≤ S') : Fresh S Q := fun p hp ad n cap e hn => Nat.le_trans hs (h p hp ad n cap e hn)
theorem IsAt.lt {W : World} {q : Value} {l : List Int} (h : IsAt W q l) : ∀ ad n cap, q = .slice (some ad) n cap → n ≠ 0 → ad.block < W.heap.size := by
  intro ad n cap e hn
  obtain ⟨ad', n', cap', e2, _, hc⟩ := h
  rw [e] at e2
  cases e2
  rcases hc with hc | ⟨b, off, e3, hb, _⟩
  · exact absurd hc hn
  · cases e3; exact hb
theorem RowL.far {B X : Nat} {W : World} {v : Value} {P : List Ent} (h : RowL B X W v P) {K : Nat} (o : Nat) (u : Value) (hK : v.ownBlock ≠ some K) (hP : ∀ p ∈ P, OffK p.2 K) : RowL B X (W.setCell ⟨K, o, none⟩ u) v P :=
  ⟨own_same h.own fun g hg => Below.heap_setCell _ _ _ _ (fun e => hK (by rw [hg, e])), h.ne, fun p hp => ⟨(h.kids p hp).1.far (hP p hp), (h.kids p hp).2⟩⟩
/-- A block of one's own is written that is none of these. -/
theorem BwM.far {A : Nat} {w0 W : World} {tv : Value} {root : Int} {v : Value} {P : List Ent} (h : BwM A w0 tv root v P W) {K : Nat} (o : Nat) (u : Value) (hA : A ≤ K) (h0 : A ≠ K) (h2 : A + 2 ≠ K) (h3 : A + 3 ≠ K) (hK : v.ownBlock ≠ some K) (hP : ∀ p ∈ P, OffK p.2 K) : BwM A w0 tv root v P (W.setCell ⟨K, o, none⟩ u) :=
  ⟨h.below.setCell (p := ⟨K, o, none⟩) hA u, (Below.heap_setCell _ _ _ _ h0).trans h.tree, (Below.heap_setCell _ _ _ _ h2).trans h.out, (Below.heap_setCell _ _ _ _ h3).trans h.fn, h.row.far o u hK hP⟩
def zerosA (n : Nat) : Array Value := (List.replicate n (Value.int .i64 0)).toArray
theorem made_ints (n : Nat) : madeCells (Value.int .i64 0).cells (n * 1) = zerosA n := by
  unfold zerosA
  rw [Nat.mul_one]
  apply Array.ext_getElem?
  intro i
  by_cases hi : i < n
  · rw [madeCells_at _ _ _ hi, List.getElem?_toArray, List.getElem?_replicate, if_pos hi]
    show some (#[Value.int .i64 0][i % 1]!) = _
    rw [Nat.mod_one]
    rfl
  · rw [Array.getElem?_eq_none (by rw [size_madeCells]; omega), List.getElem?_toArray, List.getElem?_replicate, if_neg hi]
/-- The places of the kids so far, zeros behind them. -/
def kidA (sz : Int → Nat) (ks : List Int) (b c : Nat) : List Value := (Sx.posK sz (ks.take c) b).map (Value.int .i64 ·) ++ List.replicate (ks.length - c) (.int .i64 0)
theorem kidA_go (sz : Int → Nat) (ks : List Int) (b c : Nat) (h : c < ks.length) : (kidA sz ks b c).toArray.setIfInBounds c (.int .i64 ((b + Sx.szL sz (ks.take c) : Nat) : Int)) = (kidA sz ks b (c + 1)).toArray := by
  rw [List.setIfInBounds_toArray]
  congr 1
  unfold kidA
  have hl : ((Sx.posK sz (ks.take c) b).map (Value.int .i64 ·)).length = c := by rw [List.length_map, Sx.posK_len, List.length_take]; omega
  obtain ⟨q, hq⟩ : ∃ q, ks.length - c = q + 1 := ⟨ks.length - c - 1, by omega⟩
  rw [List.set_append_right _ _ (by omega), hl, Nat.sub_self, hq, List.replicate_succ, List.set_cons_zero, show ks.length - (c + 1) = q by omega, Sx.posK_go sz h, List.map_append, List.append_assoc]
  rfl
theorem kidA_len (sz : Int → Nat) (ks : List Int) (b c : Nat) (h : c ≤ ks.length) : (kidA sz ks b c).length = ks.length := by
  unfold kidA
  rw [List.length_append, List.length_map, Sx.posK_len, List.length_take, List.length_replicate]
  omega

end Go.Proofs.YtpeihgbkolihgaaDoor
