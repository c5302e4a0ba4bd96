/- How lists of numbers lie in memory: a block of the call's own (Own), a slice that reads as a list (Rd), a change of one block alone (Only). -/
import Derived.WalkKit
import Derived.Deep.QuietTactic
import Derived.BigQuiet
import Derived.Test.YtmdppblhbmbakaaGreatDoorNum
set_option linter.unusedVariables false
namespace Go.Proofs.YtmdppblhbmbakaaGreatDoor
open Go.RowKit

/-- Block g holds the numbers cs, and nothing of it is frozen. -/
def Own (k : IntKind) (t : TypeId) (w : World) (g : Nat) (cs : List Nat) : Prop :=
  w.heap[g]? = some (.cells (cs.map (fun x => Value.int k (x : Nat))).toArray t (0, 0))

theorem Own.cell {k : IntKind} {t : TypeId} {w : World} {g : Nat} {cs : List Nat} (h : Own k t w g cs) (i : Nat) (hi : i < cs.length) : w.cell? ⟨g, i, none⟩ = some (.int k (cs[i] : Nat)) := by
  unfold Own at h
  simp [World.cell?, h, hi]

theorem Own.free {k : IntKind} {t : TypeId} {w : World} {g : Nat} {cs : List Nat} (h : Own k t w g cs) (i : Nat) : w.frozen? ⟨g, i, none⟩ = false := by
  unfold Own at h
  simp [World.frozen?, h]

theorem Own.lt {k : IntKind} {t : TypeId} {w : World} {g : Nat} {cs : List Nat} (h : Own k t w g cs) : g < w.heap.size := by
  rcases Nat.lt_or_ge g w.heap.size with h' | h'
  · exact h'
  · unfold Own at h; simp [Array.getElem?_eq_none h'] at h

theorem Own.set {k : IntKind} {t : TypeId} {w : World} {g : Nat} {cs : List Nat} (h : Own k t w g cs) (i v : Nat) : Own k t (w.setCell ⟨g, i, none⟩ (.int k (v : Nat))) g (cs.set i v) := by
  have hlt := h.lt
  unfold Own at h ⊢
  have h' : w.heap[g] = .cells (cs.map (fun x => Value.int k (x : Nat))).toArray t (0, 0) := by simpa [Array.getElem?_eq_getElem hlt] using h
  show (w.heap.modify g _)[g]? = _
  rw [Array.getElem?_eq_getElem (by simpa using hlt), Array.getElem_modify_self, h']
  simp [List.map_set]

/-- Only block g has changed. -/
structure Only (g : Nat) (w w' : World) : Prop where
  os : w'.os = w.os
  tape : w'.tape = w.tape
  output : w'.output = w.output
  size : w'.heap.size = w.heap.size
  block : ∀ k, k ≠ g → w'.heap[k]? = w.heap[k]?

theorem Only.refl (g : Nat) (w : World) : Only g w w := ⟨rfl, rfl, rfl, rfl, fun _ _ => rfl⟩
theorem Only.trans {g : Nat} {a b c : World} (h : Only g a b) (k : Only g b c) : Only g a c :=
  ⟨k.os.trans h.os, k.tape.trans h.tape, k.output.trans h.output, k.size.trans h.size, fun i hi => (k.block i hi).trans (h.block i hi)⟩
theorem Only.drew {g : Nat} {a w : World} (h : Only g a w) : Only g a w.drew := ⟨h.os, h.tape, h.output, h.size, h.block⟩
theorem Only.drewN {g : Nat} {a w : World} (h : Only g a w) (n : Nat) : Only g a (w.drewN n) := ⟨h.os, h.tape, h.output, h.size, h.block⟩
theorem Only.set {g : Nat} {a w : World} (h : Only g a w) (i : Nat) (u : Value) : Only g a (w.setCell ⟨g, i, none⟩ u) :=
  h.trans ⟨rfl, rfl, rfl, by simp [World.setCell], fun k hk => Below.heap_setCell _ _ _ _ hk⟩
theorem Only.below {g B : Nat} {w w' : World} (h : Only g w w') (hB : B ≤ g) : Below B w w' :=
  ⟨h.os, h.tape, h.output, by rw [h.size]; exact Nat.le_refl _, fun k hk => h.block k (by omega)⟩
theorem Only.cell {g : Nat} {w w' : World} (h : Only g w w') (b i : Nat) (hb : b ≠ g) : w'.cell? ⟨b, i, none⟩ = w.cell? ⟨b, i, none⟩ := World.cell?_of_block (w := w) (h.block b hb)

/-- The cells from off on in block g are xs. -/
def Row (k : IntKind) (w : World) (g off : Nat) (xs : List Nat) : Prop := ∀ (i : Nat) (h : i < xs.length), w.cell? ⟨g, off + i, none⟩ = some (.int k (xs[i] : Nat))

/-- The sizes of a slice that is read as a number. -/
def Cap (n c : Nat) : Prop := n ≤ 60000 ∧ c ≤ maxLen
theorem Cap.of {n c : Nat} (h : n ≤ c) (h2 : c ≤ 60000) : Cap n c := ⟨by omega, by unfold maxLen; omega⟩
theorem Cap.less {n m c : Nat} (h : Cap n c) (h2 : m ≤ n) : Cap m c := ⟨by have := h.1; omega, h.2⟩

/-- A slice value reads as xs. -/
def Rd (k : IntKind) (w : World) (v : Value) (xs : List Nat) : Prop :=
  ∃ (a : Option Addr) (c : Nat), v = .slice a xs.length c ∧ xs.length ≤ c ∧ Cap xs.length c ∧ (xs ≠ [] → ∃ g off, a = some ⟨g, off, none⟩ ∧ g < w.heap.size ∧ Row k w g off xs)

theorem Rd.cases {k : IntKind} {w : World} {v : Value} {xs : List Nat} (h : Rd k w v xs) :
    (xs = [] ∧ ∃ a c, v = .slice a 0 c ∧ Cap 0 c) ∨ (0 < xs.length ∧ ∃ g off c, v = .slice (some ⟨g, off, none⟩) xs.length c ∧ xs.length ≤ c ∧ Cap xs.length c ∧ g < w.heap.size ∧ Row k w g off xs) := by
  obtain ⟨a, c, rfl, h1, h2, h3⟩ := h
  by_cases hx : xs = []
  · left; subst hx; exact ⟨rfl, a, c, rfl, h2⟩
  · right
    obtain ⟨g, off, rfl, h4, h5⟩ := h3 hx
    exact ⟨List.length_pos_iff.2 hx, g, off, c, rfl, h1, h2, h4, h5⟩

theorem Rd.nil (k : IntKind) (w : World) (a : Option Addr) (c : Nat) (hc : Cap 0 c) : Rd k w (.slice a 0 c) [] := ⟨a, c, rfl, by simp, hc, fun h => absurd rfl h⟩

theorem Rd.mk {k : IntKind} {w : World} {g off c : Nat} {xs : List Nat} (h1 : xs.length ≤ c) (h2 : Cap xs.length c) (h3 : g < w.heap.size) (h4 : Row k w g off xs) : Rd k w (.slice (some ⟨g, off, none⟩) xs.length c) xs :=
  ⟨_, c, rfl, h1, h2, fun _ => ⟨g, off, rfl, h3, h4⟩⟩

theorem Row.keep {k : IntKind} {w w' : World} {g off B : Nat} {xs : List Nat} (h : Row k w g off xs) (hb : Below B w w') (hg : g < B) : Row k w' g off xs :=
  fun i hi => (hb.cell (p := ⟨g, off + i, none⟩) hg).trans (h i hi)

theorem Row.only {k : IntKind} {w w' : World} {g b off : Nat} {xs : List Nat} (h : Row k w g off xs) (hb : Only b w w') (hg : g ≠ b) : Row k w' g off xs :=
  fun i hi => (hb.cell g (off + i) hg).trans (h i hi)

theorem Rd.keep {k : IntKind} {w w' : World} {v : Value} {xs : List Nat} {B : Nat} (h : Rd k w v xs) (hb : Below B w w') (hB : w.heap.size ≤ B) : Rd k w' v xs := by
  obtain ⟨a, c, rfl, h1, h2, h3⟩ := h
  refine ⟨a, c, rfl, h1, h2, fun hx => ?_⟩
  obtain ⟨g, off, rfl, h4, h5⟩ := h3 hx
  exact ⟨g, off, rfl, by have := hb.size; omega, h5.keep hb (by omega)⟩

theorem Rd.length {k : IntKind} {w : World} {v : Value} {xs : List Nat} (h : Rd k w v xs) : xs.length ≤ 60000 := by
  obtain ⟨a, c, _, h1, h2, _⟩ := h; exact h2.1

theorem Own.row {k : IntKind} {t : TypeId} {w : World} {g : Nat} {cs : List Nat} (h : Own k t w g cs) (off n : Nat) (hn : off + n ≤ cs.length) : Row k w g off ((cs.drop off).take n) := by
  intro i hi
  rw [List.length_take, List.length_drop] at hi
  rw [h.cell (off + i) (by omega)]
  simp

theorem Own.rd {k : IntKind} {t : TypeId} {w : World} {g : Nat} {cs : List Nat} (h : Own k t w g cs) (n c : Nat) (hn : n ≤ cs.length) (h1 : n ≤ c) (h2 : c ≤ 60000) : Rd k w (.slice (some ⟨g, 0, none⟩) n c) (cs.take n) := by
  have hl : (cs.take n).length = n := by rw [List.length_take]; omega
  have hr := h.row 0 n (by omega)
  rw [List.drop_zero] at hr
  have := Rd.mk (k := k) (w := w) (g := g) (off := 0) (c := c) (xs := cs.take n) (by omega) (Cap.of (by omega) h2) h.lt hr
  rwa [hl] at this

theorem Own.of_below {k : IntKind} {t : TypeId} {w w' : World} {g B : Nat} {cs : List Nat} (h : Own k t w g cs) (hb : Below B w w') (hg : g < B) : Own k t w' g cs := by
  unfold Own at h ⊢; rw [hb.block g hg]; exact h

theorem Own.of_only {k : IntKind} {t : TypeId} {w w' : World} {g b : Nat} {cs : List Nat} (h : Own k t w g cs) (hb : Only b w w') (hg : g ≠ b) : Own k t w' g cs := by
  unfold Own at h ⊢; rw [hb.block g hg]; exact h

/-- A new block of zeros. -/
theorem Own.zeros (k : IntKind) (t : TypeId) (w : World) (n : Nat) : Own k t (w.alloc (.cells (madeCells (Value.int k 0).cells n) t)) w.heap.size (List.replicate n 0) := by
  unfold Own
  rw [heap_alloc_new]
  congr 1
  congr 1
  apply Array.ext
  · simp [madeCells]
  · intro i h1 h2
    simp [madeCells, Value.cells] at h1 ⊢
    rw [Nat.mod_one]
    rfl

/-- A slice value lies in block B or behind it, if it has an element. -/
def Fr (B : Nat) (v : Value) : Prop := ∀ (ad : Addr) (n c : Nat), v = .slice (some ad) n c → 0 < n → B ≤ ad.block

/-- v' begins where v begins. -/
def Same (v v' : Value) : Prop := ∀ (ad : Addr) (n c : Nat), v' = .slice (some ad) n c → ∃ n0 c0, v = .slice (some ad) n0 c0

theorem Fr.mono {B B' : Nat} {v : Value} (h : Fr B v) (hB : B' ≤ B) : Fr B' v := fun ad n c e hn => Nat.le_trans hB (h ad n c e hn)

theorem Fr.of_same {B g n c : Nat} {v : Value} (h : Same (.slice (some ⟨g, 0, none⟩) n c) v) (hB : B ≤ g) : Fr B v := by
  intro ad n' c' e _
  obtain ⟨n0, c0, e2⟩ := h ad n' c' e
  simp only [Value.slice.injEq, Option.some.injEq] at e2
  rw [← e2.1]
  exact hB

/-- A slice is not touched by a change of a block that it does not lie in. -/
theorem Rd.only {k : IntKind} {w w' : World} {v : Value} {xs : List Nat} {b : Nat} (h : Rd k w v xs) (hb : Only b w w') (hv : ∀ (ad : Addr) (n c : Nat), v = .slice (some ad) n c → 0 < n → ad.block ≠ b) : Rd k w' v xs := by
  obtain ⟨a, c, rfl, h1, h2, h3⟩ := h
  refine ⟨a, c, rfl, h1, h2, fun hx => ?_⟩
  obtain ⟨g, off, rfl, h4, h5⟩ := h3 hx
  exact ⟨g, off, rfl, by rw [hb.size]; exact h4, h5.only hb (hv _ _ _ rfl (List.length_pos_iff.2 hx))⟩

end Go.Proofs.YtmdppblhbmbakaaGreatDoor
