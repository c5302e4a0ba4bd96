/- A row of leaves of one's own. -/
import Derived.Test.YtpeihgbkolihgaaDoorU29
import Derived.Test.YtpeihgbkolihgaaDoorU30
set_option linter.unusedVariables false
set_option linter.unusedSimpArgs false
namespace Go.Proofs.YtpeihgbkolihgaaDoor
open Go.RowKit

/-- A row that lies neither in the block of another nor in that of a box. -/
def Off (u v : Value) (X : Nat) : Prop := ∀ ad n cap, u = .slice (some ad) n cap → n ≠ 0 → v.ownBlock ≠ some ad.block ∧ ad.block ≠ X
theorem Off.nil (v : Value) (X : Nat) : Off (.slice none 0 0) v X := fun ad n cap e => by cases e
abbrev Ent := LeafM × Value
def entC (P : List Ent) : List Value := P.flatMap (fun p => leafCs p.1 p.2)
theorem entC_len : ∀ P : List Ent, (entC P).length = P.length * 6
  | [] => rfl
  | p :: P => by
    have ih := entC_len P
    unfold entC at ih ⊢
    rw [List.flatMap_cons, List.length_append, ih, List.length_cons]
    show 6 + _ = _
    omega
theorem entC_at : ∀ (P : List Ent) (i : Nat) (h : i < P.length) (j : Nat), j < 6 → (entC P)[i * 6 + j]? = (leafCs P[i].1 P[i].2)[j]?
  | [], i, h, _, _ => absurd h (Nat.not_lt_zero _)
  | p :: P, 0, h, j, hj => by
    show (leafCs p.1 p.2 ++ entC P)[0 * 6 + j]? = _
    rw [Nat.zero_mul, Nat.zero_add, List.getElem?_append_left (by exact hj)]
    rfl
  | p :: P, i + 1, h, j, hj => by
    show (leafCs p.1 p.2 ++ entC P)[(i + 1) * 6 + j]? = _
    rw [List.getElem?_append_right (by show 6 ≤ _; omega), show (i + 1) * 6 + j - (leafCs p.1 p.2).length = i * 6 + j by show (i + 1) * 6 + j - 6 = _; omega, entC_at P i (by simpa using h) j hj]
    rfl
theorem entC_app (P : List Ent) (x : LeafM) (v : Value) : entC (P ++ [(x, v)]) = entC P ++ leafCs x v := by simp [entC]
theorem entC_set : ∀ (P : List Ent) (i : Nat) (h : i < P.length) (ks : List Int) (u : Value), (entC P).set (i * 6 + 3) u = entC (P.set i ({ P[i].1 with kids := ks }, u))
  | [], i, h, _, _ => absurd h (Nat.not_lt_zero _)
  | p :: P, 0, h, ks, u => by
    show (leafCs p.1 p.2 ++ entC P).set 3 u = leafCs _ u ++ entC P
    rfl
  | p :: P, i + 1, h, ks, u => by
    show (leafCs p.1 p.2 ++ entC P).set ((i + 1) * 6 + 3) u = leafCs p.1 p.2 ++ entC (P.set i _)
    rw [List.set_append_right _ _ (by show 6 ≤ _; omega), show (i + 1) * 6 + 3 - (leafCs p.1 p.2).length = i * 6 + 3 by show (i + 1) * 6 + 3 - 6 = _; omega, entC_set P i (by simpa using h) ks u]
    rfl

/-- .. its leaves, each with the row of its kids. -/
structure RowL (B X : Nat) (W : World) (v : Value) (P : List Ent) : Prop where
  own : W.ownsRow B 38 6 v P.length (entC P)
  ne : v.ownBlock ≠ some X
  kids : ∀ p ∈ P, IsAt W p.2 p.1.kids ∧ Off p.2 v X
theorem RowL.nil (B X : Nat) (W : World) : RowL B X W (.slice none 0 0) [] := ⟨World.ownsRow_nil _ _ _ _, (fun h => by cases h), fun p hp => by cases hp⟩
theorem IsAt.blocks {W W' : World} {v : Value} {l : List Int} (h : IsAt W v l) (hs : W.heap.size ≤ W'.heap.size) (hk : ∀ ad n cap, v = .slice (some ad) n cap → n ≠ 0 → ad.block < W.heap.size → W'.heap[ad.block]? = W.heap[ad.block]?) : IsAt W' v l := by
  obtain ⟨ad, n, cap, rfl, hn, h⟩ := h
  refine ⟨ad, n, cap, rfl, hn, ?_⟩
  rcases h with h | ⟨b, off, rfl, h1, h2⟩
  · exact .inl h
  · by_cases h0 : n = 0
    · exact .inl h0
    · refine .inr ⟨b, off, rfl, Nat.lt_of_lt_of_le h1 hs, fun i hi => ?_⟩
      exact (World.cell?_of_block (a := ⟨b, off + i, none⟩) (hk ⟨b, off, none⟩ n cap rfl h0 h1)).trans (h2 i hi)
theorem RowL.keep {B X : Nat} {W W' : World} {v : Value} {P : List Ent} (h : RowL B X W v P) (hb : Below W.heap.size W W') : RowL B X W' v P :=
  ⟨own_same h.own fun g hg => hb.block g (own_type h.own hg).choose_spec.2.2, h.ne, fun p hp => ⟨(h.kids p hp).1.keep hb (Nat.le_refl _), (h.kids p hp).2⟩⟩
theorem RowL.lt {B X : Nat} {W : World} {v : Value} {P : List Ent} (h : RowL B X W v P) (g : Nat) (hg : v.ownBlock = some g) : B ≤ g ∧ g < W.heap.size := (own_type h.own hg).choose_spec.2
/-- It reads as a row of leaves. -/
theorem RowL.ls {B X : Nat} {W : World} {v : Value} {P : List Ent} (h : RowL B X W v P) : LsAt W v (P.map (·.1)) := by
  obtain ⟨hlen, hv⟩ := h.own
  rcases hv with ⟨rfl, h0⟩ | ⟨g, cap, cur, rfl, h1, h2, h3, h4, h5, h6⟩
  · have : P = [] := List.eq_nil_of_length_eq_zero h0
    subst this
    exact LsAt.nil W
  · refine ⟨_, _, _, rfl, by simp, .inr ⟨g, 0, rfl, lt_of h2, fun i hi => ?_⟩⟩
    have hi2 : i < P.length := by simpa using hi
    have hc : ∀ j, j < 6 → W.cell? ⟨g, 0 + i * 6 + j, none⟩ = (leafCs P[i].1 P[i].2)[j]? := by
      intro j hj
      have e1 := entC_at P i hi2 j hj
      rw [← h6, List.getElem?_take, if_pos (by have : i * 6 + 6 ≤ P.length * 6 := by omega
                                               omega)] at e1
      rw [← e1, Nat.zero_add]
      simp [World.cell?, h2]
    rw [List.getElem_map]
    exact ⟨hc 0 (by decide), hc 1 (by decide), hc 2 (by decide), ⟨_, hc 3 (by decide), (h.kids _ (List.getElem_mem _)).1⟩, hc 4 (by decide), hc 5 (by decide)⟩

/-- What an append leaves of the blocks: all but the row's own. -/
structure Nx (W : World) (v : Value) (W' : World) (v' : Value) : Prop where
  size : W.heap.size ≤ W'.heap.size
  own : v'.ownBlock = v.ownBlock ∨ ∃ g, v'.ownBlock = some g ∧ W.heap.size ≤ g
theorem Nx.refl (W : World) (v : Value) : Nx W v W v := ⟨Nat.le_refl _, .inl rfl⟩
theorem Nx.trans {W W' W'' : World} {v v' v'' : Value} (h : Nx W v W' v') (k : Nx W' v' W'' v'') : Nx W v W'' v'' :=
  ⟨Nat.le_trans h.size k.size, by
    rcases k.own with e | ⟨g, e, hg⟩
    · rw [e]; exact h.own
    · exact .inr ⟨g, e, Nat.le_trans h.size hg⟩⟩
theorem Nx.off {W W' : World} {v v' : Value} (h : Nx W v W' v') {g : Nat} (hg : g < W.heap.size) (hne : v.ownBlock ≠ some g) : v'.ownBlock ≠ some g := by
  rcases h.own with e | ⟨k, e, hk⟩
  · rw [e]; exact hne
  · rw [e]; intro e2; cases e2; omega
/-- A leaf is appended. -/
theorem RowL.app {B X : Nat} {W W' : World} {v v' : Value} {P : List Ent} {x : LeafM} {u : Value} (h : RowL B X W v P) (hX : X < W.heap.size) (ho : W'.ownsRow B 38 6 v' (P.length + 1) (entC P ++ leafCs x u)) (hg : W.grownBy W' v.ownBlock) (hl : v'.ownBlock = v.ownBlock ∨ v'.ownBlock = some W.heap.size)
    (hu : IsAt W u x.kids) (hoff : Off u v X) : RowL B X W' v' (P ++ [(x, u)]) ∧ Nx W v W' v' := by
  have hnx : Nx W v W' v' := ⟨hg.size, hl.imp id (fun e => ⟨_, e, Nat.le_refl _⟩)⟩
  have hone : ∀ q : Value, ∀ l, IsAt W q l → Off q v X → IsAt W' q l ∧ Off q v' X := by
    intro q l hq ho
    have hlt : ∀ ad n cap, q = .slice (some ad) n cap → n ≠ 0 → ad.block < W.heap.size := by
      intro ad n cap e hn
      obtain ⟨ad', n', cap', e2, _, hc⟩ := hq
      rw [e] at e2
      cases e2
      rcases hc with hc | ⟨b, off, e3, hb, _⟩
      · exact absurd hc hn
      · cases e3; exact hb
    exact ⟨hq.blocks hg.size fun ad n cap e hn hb => hg.block _ hb (fun e2 => (ho ad n cap e hn).1 e2.symm), fun ad n cap e hn => ⟨hnx.off (hlt ad n cap e hn) (ho ad n cap e hn).1, (ho ad n cap e hn).2⟩⟩
  refine ⟨⟨by rw [entC_app, List.length_append]; exact ho, hnx.off hX h.ne, fun p hp => ?_⟩, hnx⟩
  rcases List.mem_append.1 hp with hp | hp
  · exact hone _ _ (h.kids p hp).1 (h.kids p hp).2
  · rw [List.mem_singleton] at hp
    subst hp
    exact hone _ _ hu hoff
/-- The kids of a leaf are set. -/
theorem RowL.put {B X : Nat} {W : World} {g cap : Nat} {P : List Ent} (h : RowL B X W (.slice (some ⟨g, 0, none⟩) P.length cap) P) (i : Nat) (hi : i < P.length) (ks : List Int) (u : Value) (hu : IsAt W u ks) (hoff : Off u (.slice (some ⟨g, 0, none⟩) P.length cap) X) :
    RowL B X (W.setCell ⟨g, i * 6 + 3, none⟩ u) (.slice (some ⟨g, 0, none⟩) P.length cap) (P.set i ({ P[i].1 with kids := ks }, u)) := by
  have hk : ∀ q l, IsAt W q l → Off q (.slice (some ⟨g, 0, none⟩) P.length cap) X → IsAt (W.setCell ⟨g, i * 6 + 3, none⟩ u) q l := by
    intro q l hq ho
    refine hq.blocks (by simp [World.setCell]) fun ad n c e hn hb => Below.heap_setCell _ _ _ _ ?_
    intro e2
    exact (ho ad n c e hn).1 (by rw [e2]; rfl)
  refine ⟨?_, h.ne, fun p hp => ?_⟩
  · obtain ⟨hlen, hv⟩ := h.own
    refine ⟨by rw [entC_len], .inr ?_⟩
    rcases hv with ⟨e, _⟩ | ⟨g', cap', cur, e, h1, h2, h3, h4, h5, h6⟩
    · cases e
    · cases e
      refine ⟨g, cap, cur.setIfInBounds (i * 6 + 3) u, by rw [List.length_set], h1, cells_set _ h2, by rw [List.length_set]; exact h3, h4, by rw [Array.size_setIfInBounds]; exact h5, ?_⟩
      rw [List.length_set, ← entC_set P i hi ks u, Array.toList_setIfInBounds, List.take_set, h6]
  · rcases List.mem_or_eq_of_mem_set hp with hp | rfl
    · exact ⟨hk _ _ (h.kids p hp).1 (h.kids p hp).2, (h.kids p hp).2⟩
    · exact ⟨hk _ _ hu hoff, hoff⟩

/-- Its box is written. -/
theorem RowL.box {B X : Nat} {W : World} {v : Value} {P : List Ent} (h : RowL B X W v P) (o : Nat) (u : Value) : RowL B X (W.setCell ⟨X, o, none⟩ u) v P := by
  refine ⟨own_same h.own fun g hg => Below.heap_setCell _ _ _ _ (fun e => h.ne (by rw [hg, e])), h.ne, fun p hp => ⟨(h.kids p hp).1.blocks (by simp [World.setCell]) fun ad n c e hn hb => Below.heap_setCell _ _ _ _ ((h.kids p hp).2 ad n c e hn).2, (h.kids p hp).2⟩⟩

theorem infoLeaf : (Tryd.prog.info? 38).map (fun i => (i.zero, i.size, i.bytes)) = some (some (.agg #[.int .i64 0, .string ⟨#[]⟩, .int .i64 0, .slice none 0 0, .int .i64 0, .int .i64 0]), 6, 72) := by kernel_rfl

theorem wpList_append_at {P : Program} (w : World) {ops : Array Oper} {rest : List Oper} {o : Oper} {a : Act} {Q : Exit → Act → World → Prop} (hgd : o.guard = none) (s x : Operand) (t : TypeId)
    (ho : o.op = .call { callee := .builtin .append, args := #[s, x], argTypes := #[t, t] })
    (base : Nat) (e : TypeId) (i : TypeInfo) (z : Value) (size bytes : Nat) (ht : P.underlying t = some (.slice e)) (hi : P.info? e = some i) (hz : i.zero = some z)
    (hsize : i.size = size) (hby : i.bytes = bytes) (hzs : z.cells.size = size) (hsz : 0 < size)
    (v : Value) (n : Nat) (xs : List Value) (hs : a.eval s = v) (hown : w.ownsRow base e size v n xs)
    (ad : Addr) (m c : Nat) (news : List Value) (hx : a.eval x = .slice (some ad) m c) (hl : news.length = m * size) (hnews : ∀ j u, news[j]? = some u → w.cell? (ad.add j) = some u) (h1 : ∀ u ∈ news, u.oneCell' = true)
    (h63 : n + m ≤ maxLen) (hbytes : (n + m) * bytes ≤ 140737488355328) (hbase : base ≤ w.heap.size)
    (h : ∀ v' w', w'.ownsRow base e size v' (n + m) (xs ++ news) → w.grownBy w' v.ownBlock → (v'.ownBlock = v.ownBlock ∨ v'.ownBlock = some w.heap.size) → wpList P ops Q rest (a.put o.dst v') w') : wpList P ops Q (o :: rest) a w := by
  obtain ⟨v', w', hr, h2, h3, _, h5⟩ := run_append_own_at (P := P) w base t o.type e i z size bytes ht hi hz hsize hby hzs hsz v n xs hown ad m c news hl hnews h1 h63 hbytes hbase
  exact wpList_plain hgd fun _ hK => Lib.wp_append_run w s x t t ho _ _ hs hx _ _ hr (hK _ _ (h v' w' h2 h3 h5))
/-- What a make of leaves lays. -/
def zeroE : Ent := (⟨0, ⟨#[]⟩, 0, [], 0, 0⟩, .slice none 0 0)
theorem madeCells_at (z : Array Value) (n i : Nat) (h : i < n) : (madeCells z n)[i]? = some (z[i % z.size]!) := by simp [madeCells, h]
def zeroCs : Array Value := #[.int .i64 0, .string ⟨#[]⟩, .int .i64 0, .slice none 0 0, .int .i64 0, .int .i64 0]
theorem made_leaves (n : Nat) : madeCells (Value.agg #[.int .i64 0, .string ⟨#[]⟩, .int .i64 0, .slice none 0 0, .int .i64 0, .int .i64 0]).cells (n * 6) = (entC (List.replicate n zeroE)).toArray := by
  show madeCells zeroCs (n * 6) = _
  apply Array.ext_getElem?
  intro i
  by_cases hi : i < n * 6
  · have hj : i % 6 < 6 := Nat.mod_lt _ (by decide)
    have hq : i / 6 < n := by omega
    have e1 := entC_at (List.replicate n zeroE) (i / 6) (by simpa using hq) (i % 6) hj
    rw [show i / 6 * 6 + i % 6 = i by omega, List.getElem_replicate] at e1
    rw [madeCells_at _ _ _ hi, List.getElem?_toArray, e1, show zeroCs.size = 6 from rfl]
    have : i % 6 = 0 ∨ i % 6 = 1 ∨ i % 6 = 2 ∨ i % 6 = 3 ∨ i % 6 = 4 ∨ i % 6 = 5 := by omega
    rcases this with h | h | h | h | h | h <;> rw [h] <;> rfl
  · rw [Array.getElem?_eq_none (by rw [size_madeCells]; omega), Array.getElem?_eq_none (by rw [List.size_toArray, entC_len, List.length_replicate]; omega)]
theorem new_cells (W : World) (cs : List Value) (t : TypeId) : ∀ (j : Nat) (u : Value), cs[j]? = some u → (W.alloc (.cells cs.toArray t)).cell? ((⟨W.heap.size, 0, none⟩ : Addr).add j) = some u := by
  intro j u h
  have e : (⟨W.heap.size, 0, none⟩ : Addr).add j = ⟨W.heap.size, j, none⟩ := by
    unfold Addr.add
    split
    · rename_i h0; subst h0; rfl
    · simp
  rw [e, World.cell?_alloc_new]
  simpa using h
theorem leafCs_one (x : LeafM) (ad : Option Addr) (n cap : Nat) : ∀ u ∈ leafCs x (.slice ad n cap), u.oneCell' = true := by
  intro u hu
  unfold leafCs at hu
  simp only [List.mem_cons, List.not_mem_nil, or_false] at hu
  rcases hu with rfl | rfl | rfl | rfl | rfl | rfl <;> rfl

end Go.Proofs.YtpeihgbkolihgaaDoor
