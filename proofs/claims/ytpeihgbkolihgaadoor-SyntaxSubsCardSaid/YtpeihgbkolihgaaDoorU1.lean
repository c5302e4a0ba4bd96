/- Syntax trees: what they are, and how they lie in memory. -/
import Derived.Test.YtpeihgbkolihgaaDoorZ1
import Derived.WalkKit
import Derived.OwnWalk
import Derived.Below
import Derived.Lib.Hide
import Derived.Deep.LoopGhost
import Derived.Deep.RegionHeld
import Derived.LoopTactic
set_option linter.unusedVariables false
namespace Go.Proofs.YtpeihgbkolihgaaDoor
open Go.RowKit

structure LeafM where
  kind : Int
  text : ByteArray
  num : Int
  kids : List Int
  frm : Int
  to : Int
instance : Inhabited LeafM := ⟨⟨0, ⟨#[]⟩, 0, [], 0, 0⟩⟩

/-- A small leaf, a small table of leaves. -/
def SmL (x : LeafM) : Prop := x.text.size ≤ 100000 ∧ x.kids.length ≤ 100000 ∧ In64 x.kind ∧ In64 x.num ∧ In64 x.frm ∧ In64 x.to ∧ ∀ t ∈ x.kids, In64 t
def SmT (L : List LeafM) : Prop := L.length ≤ 100000 ∧ ∀ x ∈ L, SmL x

/-- A row of numbers; a leaf; a row of leaves. -/
def IsAt (w : World) (v : Value) (l : List Int) : Prop :=
  ∃ ad n cap, v = .slice ad n cap ∧ n = l.length ∧ (n = 0 ∨ ∃ b off, ad = some ⟨b, off, none⟩ ∧ b < w.heap.size ∧ ∀ (i : Nat) (h : i < l.length), w.cell? ⟨b, off + i, none⟩ = some (.int .i64 l[i]))
def LfAt (w : World) (b o : Nat) (x : LeafM) : Prop :=
  w.cell? ⟨b, o, none⟩ = some (.int .i64 x.kind) ∧ w.cell? ⟨b, o + 1, none⟩ = some (.string x.text) ∧ w.cell? ⟨b, o + 2, none⟩ = some (.int .i64 x.num) ∧
  (∃ vk, w.cell? ⟨b, o + 3, none⟩ = some vk ∧ IsAt w vk x.kids) ∧ w.cell? ⟨b, o + 4, none⟩ = some (.int .i64 x.frm) ∧ w.cell? ⟨b, o + 5, none⟩ = some (.int .i64 x.to)
def LsAt (w : World) (v : Value) (l : List LeafM) : Prop :=
  ∃ ad n cap, v = .slice ad n cap ∧ n = l.length ∧ (n = 0 ∨ ∃ b off, ad = some ⟨b, off, none⟩ ∧ b < w.heap.size ∧ ∀ (i : Nat) (h : i < l.length), LfAt w b (off + i * 6) l[i])

theorem IsAt.keep {w w' : World} {v : Value} {l : List Int} {B : Nat} (h : IsAt w v l) (hb : Below B w w') (hB : w.heap.size ≤ B) : IsAt w' v l := by
  obtain ⟨ad, n, cap, rfl, hn, h⟩ := h
  refine ⟨ad, n, cap, rfl, hn, ?_⟩
  rcases h with h | ⟨b, off, rfl, h1, h2⟩
  · exact .inl h
  · exact .inr ⟨b, off, rfl, Nat.lt_of_lt_of_le h1 hb.size, fun i hi => (hb.cell (p := ⟨b, off + i, none⟩) (Nat.lt_of_lt_of_le h1 hB)).trans (h2 i hi)⟩
theorem LfAt.keep {w w' : World} {b o : Nat} {x : LeafM} {B : Nat} (h : LfAt w b o x) (hb : Below B w w') (hB : w.heap.size ≤ B) (hlt : b < w.heap.size) : LfAt w' b o x := by
  obtain ⟨h0, h1, h2, ⟨vk, h3, h4⟩, h5, h6⟩ := h
  have hl : b < B := Nat.lt_of_lt_of_le hlt hB
  exact ⟨(hb.cell (p := ⟨b, o, none⟩) hl).trans h0, (hb.cell (p := ⟨b, o + 1, none⟩) hl).trans h1, (hb.cell (p := ⟨b, o + 2, none⟩) hl).trans h2, ⟨vk, (hb.cell (p := ⟨b, o + 3, none⟩) hl).trans h3, h4.keep hb hB⟩, (hb.cell (p := ⟨b, o + 4, none⟩) hl).trans h5, (hb.cell (p := ⟨b, o + 5, none⟩) hl).trans h6⟩
theorem LsAt.keep {w w' : World} {v : Value} {l : List LeafM} {B : Nat} (h : LsAt w v l) (hb : Below B w w') (hB : w.heap.size ≤ B) : LsAt w' v l := by
  obtain ⟨ad, n, cap, rfl, hn, h⟩ := h
  refine ⟨ad, n, cap, rfl, hn, ?_⟩
  rcases h with h | ⟨b, off, rfl, h1, h2⟩
  · exact .inl h
  · exact .inr ⟨b, off, rfl, Nat.lt_of_lt_of_le h1 hb.size, fun i hi => (h2 i hi).keep hb hB h1⟩

theorem IsAt.slice {w : World} {v : Value} {l : List Int} (h : IsAt w v l) : ∃ ad cap, v = .slice ad l.length cap := by
  obtain ⟨ad, n, cap, rfl, rfl, _⟩ := h; exact ⟨ad, cap, rfl⟩
theorem LsAt.slice {w : World} {v : Value} {l : List LeafM} (h : LsAt w v l) : ∃ ad cap, v = .slice ad l.length cap := by
  obtain ⟨ad, n, cap, rfl, rfl, _⟩ := h; exact ⟨ad, cap, rfl⟩
theorem IsAt.nil (w : World) : IsAt w (.slice none 0 0) [] := ⟨_, _, _, rfl, rfl, .inl rfl⟩
theorem LsAt.nil (w : World) : LsAt w (.slice none 0 0) [] := ⟨_, _, _, rfl, rfl, .inl rfl⟩

/-- What lies at a place of a row. -/
theorem IsAt.at {w : World} {ad : Option Addr} {n cap : Nat} {l : List Int} (h : IsAt w (.slice ad n cap) l) (i : Nat) (hi : i < l.length) : ∃ b off, ad = some ⟨b, off, none⟩ ∧ b < w.heap.size ∧ w.cell? ⟨b, off + i, none⟩ = some (.int .i64 l[i]) := by
  obtain ⟨ad', n', cap', e, hn, h⟩ := h
  cases e
  rcases h with h | ⟨b, off, rfl, h1, h2⟩
  · omega
  · exact ⟨b, off, rfl, h1, h2 i hi⟩
theorem LsAt.at {w : World} {ad : Option Addr} {n cap : Nat} {l : List LeafM} (h : LsAt w (.slice ad n cap) l) (i : Nat) (hi : i < l.length) : ∃ b off fa fc, ad = some ⟨b, off, none⟩ ∧ b < w.heap.size ∧
    (w.cell? ⟨b, off + i * 6, none⟩ = some (.int .i64 l[i].kind) ∧ w.cell? ⟨b, off + i * 6 + 1, none⟩ = some (.string l[i].text) ∧ w.cell? ⟨b, off + i * 6 + 2, none⟩ = some (.int .i64 l[i].num) ∧
     w.cell? ⟨b, off + i * 6 + 3, none⟩ = some (.slice fa l[i].kids.length fc) ∧ w.cell? ⟨b, off + i * 6 + 4, none⟩ = some (.int .i64 l[i].frm) ∧ w.cell? ⟨b, off + i * 6 + 5, none⟩ = some (.int .i64 l[i].to)) ∧
    IsAt w (.slice fa l[i].kids.length fc) l[i].kids := by
  obtain ⟨ad', n', cap', e, hn, h⟩ := h
  cases e
  rcases h with h | ⟨b, off, rfl, h1, h2⟩
  · omega
  · obtain ⟨h0, h1', h2', ⟨vk, h3, h4⟩, h5, h6⟩ := h2 i hi
    obtain ⟨fa, fc, rfl⟩ := h4.slice
    exact ⟨b, off, fa, fc, rfl, h1, ⟨h0, h1', h2', h3, h5, h6⟩, h4⟩

theorem wrap_k (k : Nat) (h : k < 9223372036854775807) : wrap64 (k : Int) = k := IntWalk.wrap64_in _ (by omega)
theorem wrap_k' (k : Nat) (h : k < 9223372036854775807) : IntKind.i64.wrap (k : Int) = k := IntWalk.i64_in _ (by omega)
theorem wrap_one (k : Nat) (h : k < 9223372036854775807) : wrap64 ((k : Int) + 1) = (k : Int) + 1 := IntWalk.wrap64_in _ (by omega)
theorem wrap_one' (k : Nat) (h : k < 9223372036854775807) : IntKind.i64.wrap ((k : Int) + 1) = (k : Int) + 1 := IntWalk.i64_in _ (by omega)

theorem cell_at {W : World} {g i : Nat} {cur : Array Value} {t : TypeId} {u : Value} (h : W.heap[g]? = some (.cells cur t)) (hu : cur[i]? = some u) : W.cell? ⟨g, i, none⟩ = some u := by
  simp only [World.cell?, h]
  simpa using hu
theorem lt_of {W : World} {g : Nat} {o : Obj} (h : W.heap[g]? = some o) : g < W.heap.size := (Array.getElem?_eq_some_iff.1 h).1

end Go.Proofs.YtpeihgbkolihgaaDoor
