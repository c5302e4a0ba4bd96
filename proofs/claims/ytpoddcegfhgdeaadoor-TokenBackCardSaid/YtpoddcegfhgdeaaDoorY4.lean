/- The scanner's state in memory; a token is added. -/
import Derived.Test.YtpoddcegfhgdeaaDoorY3
import Derived.Test.YtpoddcegfhgdeaaDoorYX
set_option linter.unusedVariables false
set_option linter.unusedSimpArgs false
namespace Go.Proofs.YtpoddcegfhgdeaaDoor
open Go.RowKit

/-- The cells of tokens and of comments. -/
def tokCells (s : ByteArray) (t : Tk.Tok) : List Value := [.int .i64 t.1, .string (s.extract t.2.1 t.2.2), .int .i64 t.2.1, .int .i64 t.2.2]
def flatTok (s : ByteArray) (ts : List Tk.Tok) : List Value := ts.flatMap (tokCells s)
def noteCells (n : Nat × Nat) : List Value := [.int .i64 n.1, .int .i64 n.2]
def flatNote (ns : List (Nat × Nat)) : List Value := ns.flatMap noteCells
theorem flatTok_snoc (s : ByteArray) (ts : List Tk.Tok) (t : Tk.Tok) : flatTok s (ts ++ [t]) = flatTok s ts ++ tokCells s t := by simp [flatTok]
theorem flatNote_snoc (ns : List (Nat × Nat)) (n : Nat × Nat) : flatNote (ns ++ [n]) = flatNote ns ++ noteCells n := by simp [flatNote]

def TokRow (B : Nat) (W : World) (v : Value) (s : ByteArray) (ts : List Tk.Tok) : Prop := W.ownsRow B 37 4 v ts.length (flatTok s ts)
def NoteRow (B : Nat) (W : World) (v : Value) (ns : List (Nat × Nat)) : Prop := W.ownsRow B 33 2 v ns.length (flatNote ns)

theorem infoTok : (Tryd.prog.info? 37).map (fun i => (i.zero, i.size, i.bytes)) = some (some (.agg #[.int .i64 0, .string ⟨#[]⟩, .int .i64 0, .int .i64 0]), 4, 40) := by kernel_rfl
theorem infoSpan : (Tryd.prog.info? 33).map (fun i => (i.zero, i.size, i.bytes)) = some (some (.agg #[.int .i64 0, .int .i64 0]), 2, 16) := by kernel_rfl

/-- What a row's block is. -/
theorem own_type {W : World} {B n k : Nat} {e : TypeId} {v : Value} {xs : List Value} (h : W.ownsRow B e k v n xs) {g : Nat} (hg : v.ownBlock = some g) : ∃ cur, W.heap[g]? = some (.cells cur e (0, 0)) ∧ B ≤ g ∧ g < W.heap.size := by
  rcases h.2 with ⟨rfl, _⟩ | ⟨g', cap, cur, rfl, h1, h2, _⟩
  · cases hg
  · obtain rfl : g' = g := by simpa [Value.ownBlock] using hg
    exact ⟨cur, h2, h1, (Array.getElem?_eq_some_iff.1 h2).1⟩
/-- Rows of different types lie in different blocks. -/
theorem own_apart {W : World} {B B' n n' k k' : Nat} {e e' : TypeId} {v v' : Value} {xs xs' : List Value} (h : W.ownsRow B e k v n xs) (h' : W.ownsRow B' e' k' v' n' xs') (hne : e ≠ e') {g : Nat} (hg : v.ownBlock = some g) : v'.ownBlock ≠ some g := by
  intro hg'
  obtain ⟨c1, h1, _⟩ := own_type h hg
  obtain ⟨c2, h2, _⟩ := own_type h' hg'
  rw [h1] at h2
  cases h2
  exact hne rfl
theorem own_same {W W' : World} {B n k : Nat} {e : TypeId} {v : Value} {xs : List Value} (h : W.ownsRow B e k v n xs) (hk : ∀ g, v.ownBlock = some g → W'.heap[g]? = W.heap[g]?) : W'.ownsRow B e k v n xs := by
  refine ⟨h.1, ?_⟩
  rcases h.2 with h1 | ⟨g, cap, cur, rfl, h1, h2, h3⟩
  · exact .inl h1
  · exact .inr ⟨g, cap, cur, rfl, h1, (hk g rfl).trans h2, h3⟩

/-- The scanner: its box, and what it has found. -/
structure Sb (W : World) (G : Nat) (s : ByteArray) (ts : List Tk.Tok) (ns : List (Nat × Nat)) (tv nv : Value) : Prop where
  box : Sc W G s tv nv
  toks : TokRow (G + 1) W tv s ts
  notes : NoteRow (G + 1) W nv ns
def SS (W : World) (G : Nat) (s : ByteArray) (ts : List Tk.Tok) (ns : List (Nat × Nat)) : Prop := ∃ tv nv, Sb W G s ts ns tv nv

theorem Sb.keep {W W' : World} {G : Nat} {s : ByteArray} {ts : List Tk.Tok} {ns : List (Nat × Nat)} {tv nv : Value} (h : Sb W G s ts ns tv nv) (hb : Below W.heap.size W W') : Sb W' G s ts ns tv nv :=
  ⟨h.box.keep hb, own_same h.toks fun g hg => hb.block g (own_type h.toks hg).choose_spec.2.2, own_same h.notes fun g hg => hb.block g (own_type h.notes hg).choose_spec.2.2⟩
theorem SS.keep {W W' : World} {G : Nat} {s : ByteArray} {ts : List Tk.Tok} {ns : List (Nat × Nat)} (h : SS W G s ts ns) (hb : Below W.heap.size W W') : SS W' G s ts ns := by
  obtain ⟨tv, nv, h⟩ := h
  exact ⟨tv, nv, h.keep hb⟩
theorem SS.lt {W : World} {G : Nat} {s : ByteArray} {ts : List Tk.Tok} {ns : List (Nat × Nat)} (h : SS W G s ts ns) : G < W.heap.size := by
  obtain ⟨tv, nv, h⟩ := h
  exact h.box.lt

theorem set_heap (W : World) (g o : Nat) (cur : Array Value) (T : TypeId) (v : Value) (h : W.heap[g]? = some (.cells cur T (0, 0))) : (W.setCell ⟨g, o, none⟩ v).heap[g]? = some (.cells (cur.setIfInBounds o v) T (0, 0)) := by
  have hlt := (Array.getElem?_eq_some_iff.1 h).1
  have hv := (Array.getElem?_eq_some_iff.1 h).2
  simp only [World.setCell]
  rw [Array.getElem?_modify]
  simp [h]
theorem Sc.setT {W : World} {G : Nat} {s : ByteArray} {tv nv : Value} (h : Sc W G s tv nv) (v : Value) : Sc (W.setCell ⟨G, 257, none⟩ v) G s v nv := by
  obtain ⟨cur, T, h0, h1, h2, h3, h4⟩ := h
  have hsz : 258 < cur.size := (Array.getElem?_eq_some_iff.1 h4).1
  refine ⟨_, T, set_heap W G 257 cur T v h0, ?_, fun b => ?_, ?_, ?_⟩
  · rw [Array.getElem?_setIfInBounds_ne (by omega)]; exact h1
  · rw [Array.getElem?_setIfInBounds_ne (by have := b.toNat_lt; omega)]; exact h2 b
  · rw [Array.getElem?_setIfInBounds_self_of_lt (by omega)]
  · rw [Array.getElem?_setIfInBounds_ne (by omega)]; exact h4
theorem Sc.setN {W : World} {G : Nat} {s : ByteArray} {tv nv : Value} (h : Sc W G s tv nv) (v : Value) : Sc (W.setCell ⟨G, 258, none⟩ v) G s tv v := by
  obtain ⟨cur, T, h0, h1, h2, h3, h4⟩ := h
  have hsz : 258 < cur.size := (Array.getElem?_eq_some_iff.1 h4).1
  refine ⟨_, T, set_heap W G 258 cur T v h0, ?_, fun b => ?_, ?_, ?_⟩
  · rw [Array.getElem?_setIfInBounds_ne (by omega)]; exact h1
  · rw [Array.getElem?_setIfInBounds_ne (by have := b.toNat_lt; omega)]; exact h2 b
  · rw [Array.getElem?_setIfInBounds_ne (by omega)]; exact h3
  · rw [Array.getElem?_setIfInBounds_self_of_lt (by omega)]

/-- A row grew, and its slice was stored. -/
theorem Sb.pushT {W W' : World} {G : Nat} {s : ByteArray} {ts : List Tk.Tok} {ns : List (Nat × Nat)} {tv nv v : Value} {t : Tk.Tok} (h : Sb W G s ts ns tv nv) (hg : W.grownBy W' tv.ownBlock) (ho : TokRow (G + 1) W' v s (ts ++ [t])) :
    Sb (W'.setCell ⟨G, 257, none⟩ v) G s (ts ++ [t]) ns v nv := by
  have hG : tv.ownBlock ≠ some G := fun e => by have := (own_type h.toks e).choose_spec.2.1; omega
  have h1 : Sc W' G s tv nv := h.box.same (hg.block G h.box.lt (fun e => hG e.symm))
  have h2 : NoteRow (G + 1) W' nv ns := own_same h.notes fun g hgn => hg.block g (own_type h.notes hgn).choose_spec.2.2 (fun e => own_apart h.notes h.toks (by decide) hgn e.symm)
  refine ⟨h1.setT v, own_same ho fun g hgv => ?_, own_same h2 fun g hgv => ?_⟩
  · exact Below.heap_setCell W' ⟨G, 257, none⟩ v g (by have := (own_type ho hgv).choose_spec.2.1; dsimp only; omega)
  · exact Below.heap_setCell W' ⟨G, 257, none⟩ v g (by have := (own_type h2 hgv).choose_spec.2.1; dsimp only; omega)
theorem Sb.pushN {W W' : World} {G : Nat} {s : ByteArray} {ts : List Tk.Tok} {ns : List (Nat × Nat)} {tv nv v : Value} {n : Nat × Nat} (h : Sb W G s ts ns tv nv) (hg : W.grownBy W' nv.ownBlock) (ho : NoteRow (G + 1) W' v (ns ++ [n])) :
    Sb (W'.setCell ⟨G, 258, none⟩ v) G s ts (ns ++ [n]) tv v := by
  have hG : nv.ownBlock ≠ some G := fun e => by have := (own_type h.notes e).choose_spec.2.1; omega
  have h1 : Sc W' G s tv nv := h.box.same (hg.block G h.box.lt (fun e => hG e.symm))
  have h2 : TokRow (G + 1) W' tv s ts := own_same h.toks fun g hgn => hg.block g (own_type h.toks hgn).choose_spec.2.2 (fun e => own_apart h.toks h.notes (by decide) hgn e.symm)
  refine ⟨h1.setN v, own_same h2 fun g hgv => ?_, own_same ho fun g hgv => ?_⟩
  · exact Below.heap_setCell W' ⟨G, 258, none⟩ v g (by have := (own_type h2 hgv).choose_spec.2.1; dsimp only; omega)
  · exact Below.heap_setCell W' ⟨G, 258, none⟩ v g (by have := (own_type ho hgv).choose_spec.2.1; dsimp only; omega)

/-- Everything below the scanner is as it was, and above it all but its own rows. -/
structure Far (G : Nat) (W W' : World) : Prop where
  low : Below G W W'
  high : ∀ j, j < W.heap.size → j ≠ G → (∀ cur fz, W.heap[j]? ≠ some (.cells cur 37 fz)) → (∀ cur fz, W.heap[j]? ≠ some (.cells cur 33 fz)) → W'.heap[j]? = W.heap[j]?
theorem Far.of_below {G : Nat} {W W' : World} (hG : G ≤ W.heap.size) (h : Below W.heap.size W W') : Far G W W' := ⟨h.mono hG, fun j hj _ _ _ => h.block j hj⟩
theorem Far.trans {G : Nat} {W W' W'' : World} (h : Far G W W') (h' : Far G W' W'') : Far G W W'' :=
  ⟨h.low.trans h'.low, fun j hj hne h1 h2 => by
    have e := h.high j hj hne h1 h2
    rw [← e]
    exact h'.high j (Nat.lt_of_lt_of_le hj h.low.size) hne (by rw [e]; exact h1) (by rw [e]; exact h2)⟩
theorem Far.push {G o : Nat} {W W' : World} {v : Value} {row : Option Nat} (hGs : G < W.heap.size) (hg : W.grownBy W' row) (hr : ∀ g, row = some g → G < g ∧ ((∃ cur fz, W.heap[g]? = some (.cells cur 37 fz)) ∨ ∃ cur fz, W.heap[g]? = some (.cells cur 33 fz))) : Far G W (W'.setCell ⟨G, o, none⟩ v) := by
  refine ⟨?_, fun j hj hne h1 h2 => ?_⟩
  · exact (((Below.refl G W).grown hg (by omega) (fun g e => by have := (hr g e).1; omega)).setCell (p := ⟨G, o, none⟩) (Nat.le_refl _) v)
  · have hj2 : (W'.setCell ⟨G, o, none⟩ v).heap[j]? = W'.heap[j]? := by
      simp only [World.setCell]
      rw [Array.getElem?_modify, if_neg (fun e => hne e.symm)]
    rw [hj2]
    refine hg.block j hj (fun e => ?_)
    rcases (hr j e.symm).2 with ⟨c, f, h⟩ | ⟨c, f, h⟩
    · exact h1 c f h
    · exact h2 c f h

theorem clone_any (s : ByteArray) (w : World) (hs : s.size ≤ 70000) : Calls Tryd.prog 61 #[.string s] w fun e w' => e = .returned (.string s) ∧ Below w.heap.size w w' := by
  go_enter Tryd.func61, Tryd.ntmps61
  go_wp2_with fail
  refine (Tryd.stringslite_Clone s _ (by omega)).mono ?_
  rintro e w1 ⟨rfl, hw⟩
  have HW := Lib.hid hw
  clear hw
  go_wp2
  go_ret
  exact ⟨rfl, HW.out⟩

theorem four_cells (w : World) (x y z u : Value) (T : TypeId) : ∀ j t, [x, y, z, u][j]? = some t → (w.alloc (.cells #[x, y, z, u] T)).cell? ((⟨w.heap.size, 0, none⟩ : Addr).add j) = some t :=
  World.news_of_block (cs := #[x, y, z, u]) (heap_alloc_new _ _)
theorem two_cells (w : World) (x y : Value) (T : TypeId) : ∀ j t, [x, y][j]? = some t → (w.alloc (.cells #[x, y] T)).cell? ((⟨w.heap.size, 0, none⟩ : Addr).add j) = some t :=
  World.news_of_block (cs := #[x, y]) (heap_alloc_new _ _)

set_option maxRecDepth 100000 in
set_option maxHeartbeats 12800000 in
theorem add_any (G k a b : Nat) (s : ByteArray) (ts : List Tk.Tok) (ns : List (Nat × Nat)) (w : World) (h : SS w G s ts ns) (hab : a ≤ b) (hbs : b ≤ s.size) (hs : s.size ≤ 70000) (hk : k ≤ 6) (hl : ts.length ≤ 70000) :
    Calls Tryd.prog 42 #[.pointer (some ⟨G, 0, none⟩), .int .i64 k, .int .i64 a, .int .i64 b] w fun e w' => e = .returned (.int .i64 b) ∧ SS w' G s (ts ++ [(k, a, b)]) ns ∧ Far G w w' := by
  obtain ⟨tv, nv, h⟩ := h
  have HSB := Lib.hid h
  have HL := Lib.hid (And.intro hl hs)
  have c1' : w.drew.cell? ⟨G, 257, none⟩ = some tv ∧ w.drew.cell? ⟨G, 0, none⟩ = some (.string s) := ⟨h.box.cell.2.1, h.box.cell.1⟩
  have h1 : (a : Int) ≤ b := by omega
  have h2 : (b : Int) ≤ s.size := by omega
  have hx : (s.extract a b).size ≤ 70000 := by
    rw [ByteArray.size_extract]; omega
  have HX := Lib.hid hx
  clear h hl hs hx
  go_enter Tryd.func42, Tryd.ntmps42
  go_wp2_with fail
  refine region_plainX (S := fun W' => W'.cell? ⟨G, 257, none⟩ = some tv ∧ W'.cell? ⟨G, 0, none⟩ = some (.string s)) (m := 22) (by kernel_rfl) ?_
  refine x_take (i := 0) (v := (.pointer (some ⟨G, 0, none⟩))) rfl rfl (by kernel_rfl) (by kernel_rfl) (by kernel_rfl) (by kernel_rfl) (fun _ _ _ h => h) (.inl ⟨by rfl, ?_⟩) c1' ?_
  · intro w hSw; (try dsimp only at hSw); obtain ⟨hs1, hs2⟩ := hSw; go_simp
  simp only [Act.put, List.setIfInBounds_toArray, List.set_cons_zero, List.set_cons_succ]
  refine x_take (i := 1) (v := (.pointer (some ⟨G, 0, none⟩))) rfl rfl (by kernel_rfl) (by kernel_rfl) (by kernel_rfl) (by kernel_rfl) (fun _ _ _ h => h) (.inl ⟨by rfl, ?_⟩) c1' ?_
  · intro w hSw; (try dsimp only at hSw); obtain ⟨hs1, hs2⟩ := hSw; go_simp
  simp only [Act.put, List.setIfInBounds_toArray, List.set_cons_zero, List.set_cons_succ]
  refine x_take (i := 2) (v := (.pointer (some ⟨G, 0, none⟩))) rfl rfl (by kernel_rfl) (by kernel_rfl) (by kernel_rfl) (by kernel_rfl) (fun _ _ _ h => h) (.inl ⟨by rfl, ?_⟩) c1' ?_
  · intro w hSw; (try dsimp only at hSw); obtain ⟨hs1, hs2⟩ := hSw; go_simp
  simp only [Act.put, List.setIfInBounds_toArray, List.set_cons_zero, List.set_cons_succ]
  refine x_take (i := 3) (v := (.pointer (some ⟨G, 257, none⟩))) rfl rfl (by kernel_rfl) (by kernel_rfl) (by kernel_rfl) (by kernel_rfl) (fun _ _ _ h => h) (.inl ⟨by rfl, ?_⟩) c1' ?_
  · intro w hSw; (try dsimp only at hSw); obtain ⟨hs1, hs2⟩ := hSw; go_simp
  simp only [Act.put, List.setIfInBounds_toArray, List.set_cons_zero, List.set_cons_succ]
  refine x_take (i := 4) (v := tv) rfl rfl (by kernel_rfl) (by kernel_rfl) (by kernel_rfl) (by kernel_rfl) (fun _ _ _ h => h) (.inl ⟨by rfl, ?_⟩) c1' ?_
  · intro w hSw; (try dsimp only at hSw); obtain ⟨hs1, hs2⟩ := hSw; go_simp
  simp only [Act.put, List.setIfInBounds_toArray, List.set_cons_zero, List.set_cons_succ]
  refine x_take (i := 5) (v := .int .i64 k) rfl rfl (by kernel_rfl) (by kernel_rfl) (by kernel_rfl) (by kernel_rfl) (fun _ _ _ h => h) (.inl ⟨by rfl, ?_⟩) c1' ?_
  · intro w hSw; (try dsimp only at hSw); obtain ⟨hs1, hs2⟩ := hSw; go_simp
  simp only [Act.put, List.setIfInBounds_toArray, List.set_cons_zero, List.set_cons_succ]
  refine x_take (i := 6) (v := (.pointer (some ⟨G, 0, none⟩))) rfl rfl (by kernel_rfl) (by kernel_rfl) (by kernel_rfl) (by kernel_rfl) (fun _ _ _ h => h) (.inl ⟨by rfl, ?_⟩) c1' ?_
  · intro w hSw; (try dsimp only at hSw); obtain ⟨hs1, hs2⟩ := hSw; go_simp
  simp only [Act.put, List.setIfInBounds_toArray, List.set_cons_zero, List.set_cons_succ]
  refine x_take (i := 7) (v := (.pointer (some ⟨G, 0, none⟩))) rfl rfl (by kernel_rfl) (by kernel_rfl) (by kernel_rfl) (by kernel_rfl) (fun _ _ _ h => h) (.inl ⟨by rfl, ?_⟩) c1' ?_
  · intro w hSw; (try dsimp only at hSw); obtain ⟨hs1, hs2⟩ := hSw; go_simp
  simp only [Act.put, List.setIfInBounds_toArray, List.set_cons_zero, List.set_cons_succ]
  refine x_take (i := 8) (v := (.pointer (some ⟨G, 0, none⟩))) rfl rfl (by kernel_rfl) (by kernel_rfl) (by kernel_rfl) (by kernel_rfl) (fun _ _ _ h => h) (.inl ⟨by rfl, ?_⟩) c1' ?_
  · intro w hSw; (try dsimp only at hSw); obtain ⟨hs1, hs2⟩ := hSw; go_simp
  simp only [Act.put, List.setIfInBounds_toArray, List.set_cons_zero, List.set_cons_succ]
  refine x_take (i := 9) (v := .string s) rfl rfl (by kernel_rfl) (by kernel_rfl) (by kernel_rfl) (by kernel_rfl) (fun _ _ _ h => h) (.inl ⟨by rfl, ?_⟩) c1' ?_
  · intro w hSw; (try dsimp only at hSw); obtain ⟨hs1, hs2⟩ := hSw; go_simp
  simp only [Act.put, List.setIfInBounds_toArray, List.set_cons_zero, List.set_cons_succ]
  refine x_take (i := 10) (v := .int .i64 a) rfl rfl (by kernel_rfl) (by kernel_rfl) (by kernel_rfl) (by kernel_rfl) (fun _ _ _ h => h) (.inl ⟨by rfl, ?_⟩) c1' ?_
  · intro w hSw; (try dsimp only at hSw); obtain ⟨hs1, hs2⟩ := hSw; go_simp
  simp only [Act.put, List.setIfInBounds_toArray, List.set_cons_zero, List.set_cons_succ]
  refine x_take (i := 11) (v := .int .i64 b) rfl rfl (by kernel_rfl) (by kernel_rfl) (by kernel_rfl) (by kernel_rfl) (fun _ _ _ h => h) (.inl ⟨by rfl, ?_⟩) c1' ?_
  · intro w hSw; (try dsimp only at hSw); obtain ⟨hs1, hs2⟩ := hSw; go_simp
  simp only [Act.put, List.setIfInBounds_toArray, List.set_cons_zero, List.set_cons_succ]
  refine x_take (i := 12) (v := .string (s.extract a b)) rfl rfl (by kernel_rfl) (by kernel_rfl) (by kernel_rfl) (by kernel_rfl) (fun _ _ _ h => h) (.inl ⟨by rfl, ?_⟩) c1' ?_
  · intro w hSw; (try dsimp only at hSw); obtain ⟨hs1, hs2⟩ := hSw; go_simp
  simp only [Act.put, List.setIfInBounds_toArray, List.set_cons_zero, List.set_cons_succ]
  refine x_take (i := 14) (v := .int .i64 a) rfl rfl (by kernel_rfl) (by kernel_rfl) (by kernel_rfl) (by kernel_rfl) (fun _ _ _ h => h) (.inl ⟨by rfl, ?_⟩) c1' ?_
  · intro w hSw; (try dsimp only at hSw); obtain ⟨hs1, hs2⟩ := hSw; go_simp
  simp only [Act.put, List.setIfInBounds_toArray, List.set_cons_zero, List.set_cons_succ]
  refine x_take (i := 15) (v := .int .i64 b) rfl rfl (by kernel_rfl) (by kernel_rfl) (by kernel_rfl) (by kernel_rfl) (fun _ _ _ h => h) (.inl ⟨by rfl, ?_⟩) c1' ?_
  · intro w hSw; (try dsimp only at hSw); obtain ⟨hs1, hs2⟩ := hSw; go_simp
  simp only [Act.put, List.setIfInBounds_toArray, List.set_cons_zero, List.set_cons_succ]
  refine x_take (i := 16) (v := .agg #[.int .i64 a, .int .i64 b]) rfl rfl (by kernel_rfl) (by kernel_rfl) (by kernel_rfl) (by kernel_rfl) (fun _ _ _ h => h) (.inl ⟨by rfl, ?_⟩) c1' ?_
  · intro w hSw; (try dsimp only at hSw); obtain ⟨hs1, hs2⟩ := hSw; go_simp
  simp only [Act.put, List.setIfInBounds_toArray, List.set_cons_zero, List.set_cons_succ]
  refine x_one (i := 13) (by kernel_rfl) rfl (fun K' hK' => ?_)
  go_simp
  refine (clone_any _ _ HX.out).mono ?_
  rintro e w1 ⟨rfl, hb⟩
  have hb1 : Below w.heap.size w w1 := (Below.refl _ w).drew.trans hb
  have hS1 := HSB.out.keep hb1
  dsimp only
  refine hK'.out _ _ (fun _ => ⟨hS1.box.cell.2.1, hS1.box.cell.1⟩) ?_
  clear hK' K'
  refine x_one (i := 17) (by kernel_rfl) rfl (fun K' hK' => ?_)
  go_simp
  refine hK'.out _ _ (fun _ => ⟨hS1.box.cell.2.1, hS1.box.cell.1⟩) ?_
  clear hK' K'
  refine x_one (i := 18) (by kernel_rfl) rfl (fun K' hK' => ?_)
  go_simp
  have hA2 : Below w1.heap.size w1 (w1.alloc (.cells #[.int .i64 k, .string (s.extract a b), .int .i64 a, .int .i64 b] 37)) := (Below.refl _ w1).alloc (Nat.le_refl _) _
  have hbA := hb1.trans (hA2.mono hb1.size)
  have hS2 := HSB.out.keep hbA
  have hgl := hS2.box.lt
  obtain ⟨i0, hi, hz0, hz1, hz2⟩ := info_parts infoTok
  refine hK'.out _ _ (fun _ => ⟨hS2.box.cell.2.1, hS2.box.cell.1⟩) ?_
  clear hK' K'
  refine x_one (i := 19) (by kernel_rfl) rfl (fun K' hK' => ?_)
  refine step_append_lies _ (by rfl) _ _ _ (by rfl) (G + 1) 37 i0 (.agg #[.int .i64 0, .string ⟨#[]⟩, .int .i64 0, .int .i64 0]) 4 40 Tryd.underlying23 hi hz0 hz1 hz2 rfl (by decide) tv ts.length (flatTok s ts) rfl hS2.toks _ 1 1 (tokCells s (k, a, b)) rfl rfl (four_cells _ _ _ _ _ _) (by simp [tokCells, Value.oneCell']) (by decide) (by have := HL.out.1; unfold maxLen; omega) (by have := HL.out.1; omega) hgl _ rfl ?_
  intro g cap w4 hown hgrow _ _
  have hrow : TokRow (G + 1) w4 (.slice (some ⟨g, 0, none⟩) (ts.length + 1) cap) s (ts ++ [(k, a, b)]) := by
    unfold TokRow; rw [flatTok_snoc, List.length_append]; exact hown
  have hne : tv.ownBlock ≠ some G := fun e => by have := (own_type hS2.toks e).choose_spec.2.1; omega
  have hB4 := hS2.box.same (hgrow.block _ hS2.box.lt (fun e => hne e.symm))
  have HP := Lib.hid (hS2.pushT hgrow hrow)
  have HW5 := Lib.hid ((Far.of_below (by have := HSB.out.box.lt; omega) hbA).trans (Far.push (o := 257) (v := .slice (some ⟨g, 0, none⟩) (ts.length + 1) cap) hS2.box.lt hgrow (fun j e => by obtain ⟨c, h1, h2, _⟩ := own_type hS2.toks e; exact ⟨by omega, .inl ⟨c, _, h1⟩⟩)))
  obtain ⟨d0, d1, _⟩ := hB4.cell
  have f1 := hB4.froz 257
  refine hK'.out _ _ (fun _ => ⟨d1, d0⟩) ?_
  clear hK' K' hrow hne hB4 hgrow hown hS2 hbA hA2 hS1 hb1 hb c1'
  simp only [Act.put, List.setIfInBounds_toArray, List.set_cons_zero, List.set_cons_succ]
  refine x_one (i := 20) (by kernel_rfl) rfl (fun K' hK' => ?_)
  go_simp
  refine hK'.out _ _ (fun _ => ⟨d1, d0⟩) ?_
  clear hK' K'
  refine x_one (i := 21) (by kernel_rfl) rfl (fun K' hK' => ?_)
  go_simp
  refine hK'.out _ _ (fun _ => ⟨d1, d0⟩) ?_
  clear hK' K'
  refine x_one (i := 22) (by kernel_rfl) rfl (fun K' hK' => ?_)
  go_simp
  refine hK'.out _ _ (fun h => absurd rfl h) ?_
  clear hK' K' d0 d1 f1
  refine x_done (by kernel_rfl) ?_ _
  go_wp2
  go_ret
  exact ⟨rfl, ⟨_, _, HP.out⟩, HW5.out⟩

end Go.Proofs.YtpoddcegfhgdeaaDoor
