/- Tables of data types: what they are, and how they lie in memory. -/
import Derived.Test.YtpeihgbkolihgaaDoorProg
import Derived.WalkKit
import Derived.OwnWalk
import Derived.Below
import Derived.Lib.Hide
import Derived.Deep.LoopGhost
import Derived.Deep.RegionHeld
import Derived.LoopTactic
set_option linter.unusedVariables false
namespace Go.Proofs.YtpeihgbkolihgaaDoor
open Go.RowKit

structure ConM where
  name : ByteArray
  fields : List Int
structure DataM where
  name : ByteArray
  cons : List ConM
instance : Inhabited ConM := ⟨⟨⟨#[]⟩, []⟩⟩
instance : Inhabited DataM := ⟨⟨⟨#[]⟩, []⟩⟩

/-- A number of 64 bits. -/
def In64 (t : Int) : Prop := -9223372036854775808 ≤ t ∧ t ≤ 9223372036854775807
/-- A small constructor, a small type, a small table. -/
def SmC (c : ConM) : Prop := c.name.size ≤ 200 ∧ c.fields.length ≤ 100 ∧ ∀ t ∈ c.fields, In64 t
def SmD (x : DataM) : Prop := x.name.size ≤ 200 ∧ x.cons.length ≤ 100 ∧ ∀ c ∈ x.cons, SmC c
def Sm (d : List DataM) : Prop := d.length ≤ 100 ∧ ∀ x ∈ d, SmD x

namespace Dt
def seq (x y : ByteArray) : Bool := x.toList == y.toList
def ok (d : List DataM) (t : Int) : Bool := decide (0 ≤ t) && decide (t ≤ (d.length : Int))
def consOf (d : List DataM) (t : Int) : List ConM := if t = 0 ∨ ok d t = false then [] else ((d[(t - 1).toNat]?).map (·.cons)).getD []
def hasF (c : ConM) : Bool := decide (0 < c.fields.length)
def flat (d : List DataM) (t : Int) : Bool := ok d t && !(consOf d t).any hasF
def cellsL (l : List ConM) (con : Int) : Int := if con < 0 ∨ ((l.length : Int) ≤ con) then 0 else match l[con.toNat]? with
  | some c => if hasF c then 1 else 0
  | none => 0
def cells (d : List DataM) (t con : Int) : Int := cellsL (consOf d t) con
/-- The first place at which a property holds, or -1. -/
def fidx {α : Type} (p : α → Bool) (l : List α) : Int := match l.findIdx? p with
  | some i => i
  | none => -1
theorem fidx_nil {α : Type} (p : α → Bool) : fidx p [] = -1 := rfl
theorem fidx_any {α : Type} (p : α → Bool) (l : List α) : decide (0 ≤ fidx p l) = l.any p := by
  unfold fidx
  cases h : l.findIdx? p with
  | none =>
    have := List.findIdx?_eq_none_iff.1 h
    have h2 : l.any p = false := by rw [List.any_eq_false]; intro x hx; simp [this x hx]
    rw [h2]; rfl
  | some i =>
    have h2 : l.any p = true := by
      rw [List.any_eq_true]
      obtain ⟨hl, hp, _⟩ := List.findIdx?_eq_some_iff_getElem.1 h
      exact ⟨l[i], List.getElem_mem hl, hp⟩
    rw [h2]
    simp
theorem fidx_hit {α : Type} (p : α → Bool) (l : List α) (k : Nat) (hk : k < l.length) (hp : p l[k] = true) (hb : ∀ j (h : j < k), p (l[j]'(by omega)) = false) : fidx p l = k := by
  unfold fidx
  have : l.findIdx? p = some k := List.findIdx?_eq_some_iff_getElem.2 ⟨hk, hp, fun j h => by simp [hb j h]⟩
  rw [this]
theorem fidx_miss {α : Type} (p : α → Bool) (l : List α) (hb : ∀ j (h : j < l.length), p l[j] = false) : fidx p l = -1 := by
  unfold fidx
  have : l.findIdx? p = none := List.findIdx?_eq_none_iff.2 fun x hx => by
    obtain ⟨j, hj, rfl⟩ := List.getElem_of_mem hx
    exact hb j hj
  rw [this]
end Dt

/-- A row of fields, of constructors, of types. -/
def FsAt (w : World) (v : Value) (l : List Int) : Prop :=
  ∃ ad n cap, v = .slice ad n cap ∧ n = l.length ∧ (n = 0 ∨ ∃ b off, ad = some ⟨b, off, none⟩ ∧ b < w.heap.size ∧ ∀ (i : Nat) (h : i < l.length), w.cell? ⟨b, off + i, none⟩ = some (.int .i64 l[i]))
def CsAt (w : World) (v : Value) (l : List ConM) : Prop :=
  ∃ ad n cap, v = .slice ad n cap ∧ n = l.length ∧ (n = 0 ∨ ∃ b off, ad = some ⟨b, off, none⟩ ∧ b < w.heap.size ∧ ∀ (i : Nat) (h : i < l.length), w.cell? ⟨b, off + i * 2, none⟩ = some (.string l[i].name) ∧ ∃ vf, w.cell? ⟨b, off + i * 2 + 1, none⟩ = some vf ∧ FsAt w vf l[i].fields)
def DsAt (w : World) (v : Value) (l : List DataM) : Prop :=
  ∃ ad n cap, v = .slice ad n cap ∧ n = l.length ∧ (n = 0 ∨ ∃ b off, ad = some ⟨b, off, none⟩ ∧ b < w.heap.size ∧ ∀ (i : Nat) (h : i < l.length), w.cell? ⟨b, off + i * 2, none⟩ = some (.string l[i].name) ∧ ∃ vc, w.cell? ⟨b, off + i * 2 + 1, none⟩ = some vc ∧ CsAt w vc l[i].cons)

theorem FsAt.keep {w w' : World} {v : Value} {l : List Int} {B : Nat} (h : FsAt w v l) (hb : Below B w w') (hB : w.heap.size ≤ B) : FsAt w' v l := by
  obtain ⟨ad, n, cap, rfl, hn, h⟩ := h
  refine ⟨ad, n, cap, rfl, hn, ?_⟩
  rcases h with h | ⟨b, off, rfl, h1, h2⟩
  · exact .inl h
  · exact .inr ⟨b, off, rfl, Nat.lt_of_lt_of_le h1 hb.size, fun i hi => (hb.cell (p := ⟨b, off + i, none⟩) (Nat.lt_of_lt_of_le h1 hB)).trans (h2 i hi)⟩
theorem CsAt.keep {w w' : World} {v : Value} {l : List ConM} {B : Nat} (h : CsAt w v l) (hb : Below B w w') (hB : w.heap.size ≤ B) : CsAt w' v l := by
  obtain ⟨ad, n, cap, rfl, hn, h⟩ := h
  refine ⟨ad, n, cap, rfl, hn, ?_⟩
  rcases h with h | ⟨b, off, rfl, h1, h2⟩
  · exact .inl h
  · refine .inr ⟨b, off, rfl, Nat.lt_of_lt_of_le h1 hb.size, fun i hi => ?_⟩
    obtain ⟨e1, vf, e2, e3⟩ := h2 i hi
    exact ⟨(hb.cell (p := ⟨b, off + i * 2, none⟩) (Nat.lt_of_lt_of_le h1 hB)).trans e1, vf, (hb.cell (p := ⟨b, off + i * 2 + 1, none⟩) (Nat.lt_of_lt_of_le h1 hB)).trans e2, e3.keep hb hB⟩
theorem DsAt.keep {w w' : World} {v : Value} {l : List DataM} {B : Nat} (h : DsAt w v l) (hb : Below B w w') (hB : w.heap.size ≤ B) : DsAt w' v l := by
  obtain ⟨ad, n, cap, rfl, hn, h⟩ := h
  refine ⟨ad, n, cap, rfl, hn, ?_⟩
  rcases h with h | ⟨b, off, rfl, h1, h2⟩
  · exact .inl h
  · refine .inr ⟨b, off, rfl, Nat.lt_of_lt_of_le h1 hb.size, fun i hi => ?_⟩
    obtain ⟨e1, vf, e2, e3⟩ := h2 i hi
    exact ⟨(hb.cell (p := ⟨b, off + i * 2, none⟩) (Nat.lt_of_lt_of_le h1 hB)).trans e1, vf, (hb.cell (p := ⟨b, off + i * 2 + 1, none⟩) (Nat.lt_of_lt_of_le h1 hB)).trans e2, e3.keep hb hB⟩

theorem FsAt.slice {w : World} {v : Value} {l : List Int} (h : FsAt w v l) : ∃ ad cap, v = .slice ad l.length cap := by
  obtain ⟨ad, n, cap, rfl, rfl, _⟩ := h; exact ⟨ad, cap, rfl⟩
theorem CsAt.slice {w : World} {v : Value} {l : List ConM} (h : CsAt w v l) : ∃ ad cap, v = .slice ad l.length cap := by
  obtain ⟨ad, n, cap, rfl, rfl, _⟩ := h; exact ⟨ad, cap, rfl⟩
theorem DsAt.slice {w : World} {v : Value} {l : List DataM} (h : DsAt w v l) : ∃ ad cap, v = .slice ad l.length cap := by
  obtain ⟨ad, n, cap, rfl, rfl, _⟩ := h; exact ⟨ad, cap, rfl⟩
theorem FsAt.nil (w : World) : FsAt w (.slice none 0 0) [] := ⟨_, _, _, rfl, rfl, .inl rfl⟩
theorem CsAt.nil (w : World) : CsAt w (.slice none 0 0) [] := ⟨_, _, _, rfl, rfl, .inl rfl⟩

/-- What lies at a place of a row. -/
theorem FsAt.at {w : World} {ad : Option Addr} {n cap : Nat} {l : List Int} (h : FsAt w (.slice ad n cap) l) (i : Nat) (hi : i < l.length) : ∃ b off, ad = some ⟨b, off, none⟩ ∧ b < w.heap.size ∧ w.cell? ⟨b, off + i, none⟩ = some (.int .i64 l[i]) := by
  obtain ⟨ad', n', cap', e, hn, h⟩ := h
  cases e
  rcases h with h | ⟨b, off, rfl, h1, h2⟩
  · omega
  · exact ⟨b, off, rfl, h1, h2 i hi⟩
theorem CsAt.at {w : World} {ad : Option Addr} {n cap : Nat} {l : List ConM} (h : CsAt w (.slice ad n cap) l) (i : Nat) (hi : i < l.length) : ∃ b off fa fc, ad = some ⟨b, off, none⟩ ∧ b < w.heap.size ∧ w.cell? ⟨b, off + i * 2, none⟩ = some (.string l[i].name) ∧ w.cell? ⟨b, off + i * 2 + 1, none⟩ = some (.slice fa l[i].fields.length fc) ∧ FsAt w (.slice fa l[i].fields.length fc) l[i].fields := by
  obtain ⟨ad', n', cap', e, hn, h⟩ := h
  cases e
  rcases h with h | ⟨b, off, rfl, h1, h2⟩
  · omega
  · obtain ⟨e1, vf, e2, e3⟩ := h2 i hi
    obtain ⟨fa, fc, rfl⟩ := e3.slice
    exact ⟨b, off, fa, fc, rfl, h1, e1, e2, e3⟩
theorem DsAt.at {w : World} {ad : Option Addr} {n cap : Nat} {l : List DataM} (h : DsAt w (.slice ad n cap) l) (i : Nat) (hi : i < l.length) : ∃ b off fa fc, ad = some ⟨b, off, none⟩ ∧ b < w.heap.size ∧ w.cell? ⟨b, off + i * 2, none⟩ = some (.string l[i].name) ∧ w.cell? ⟨b, off + i * 2 + 1, none⟩ = some (.slice fa l[i].cons.length fc) ∧ CsAt w (.slice fa l[i].cons.length fc) l[i].cons := by
  obtain ⟨ad', n', cap', e, hn, h⟩ := h
  cases e
  rcases h with h | ⟨b, off, rfl, h1, h2⟩
  · omega
  · obtain ⟨e1, vf, e2, e3⟩ := h2 i hi
    obtain ⟨fa, fc, rfl⟩ := e3.slice
    exact ⟨b, off, fa, fc, rfl, h1, e1, e2, e3⟩

/-- Where a walk is to stop. -/
def Stop (p : Prop) : Prop := p
theorem hold {p : Prop} (h : Stop p) : p := h
theorem go_on {p : Prop} (h : p) : Stop p := h

def intOf : Value → Int
  | .int _ n => n
  | _ => 0

end Go.Proofs.YtpeihgbkolihgaaDoor
