/- What Type, Con and Name do. -/
import Derived.Test.YteidhlfiofiocabZ3
set_option linter.unusedVariables false
set_option linter.unusedSimpArgs false
namespace Go.Proofs.Yteidhlfiofiocab
open Go.RowKit Go.Shelf



namespace Dt
def intN : ByteArray := ⟨#[73, 110, 116]⟩
def typeOf (d : List DataM) (name : ByteArray) : Int × Bool := if seq name intN then (0, true) else (fidx (fun x => seq x.name name) d + 1, decide (0 ≤ fidx (fun x => seq x.name name) d))
def conFrom (name : ByteArray) : List DataM → Int → Int × Int × Bool
  | [], _ => (0, 0, false)
  | x :: l, i => if 0 ≤ fidx (fun c => seq c.name name) x.cons then (i + 1, fidx (fun c => seq c.name name) x.cons, true) else conFrom name l (i + 1)
def conOf (d : List DataM) (name : ByteArray) : Int × Int × Bool := conFrom name d 0
def nameOf (d : List DataM) (t : Int) : ByteArray := if t = 0 then intN else if ok d t then ((d[(t - 1).toNat]?).map (·.name)).getD ⟨#[]⟩ else ⟨#[]⟩
theorem fidx_lt {α : Type} (p : α → Bool) (l : List α) : -1 ≤ fidx p l ∧ fidx p l < l.length := by
  unfold fidx
  cases h : l.findIdx? p with
  | none => exact ⟨by show (-1 : Int) ≤ -1; omega, by show (-1 : Int) < _; omega⟩
  | some i =>
    obtain ⟨hl, _, _⟩ := List.findIdx?_eq_some_iff_getElem.1 h
    exact ⟨by show (-1 : Int) ≤ (i : Int); omega, by show (i : Int) < _; omega⟩
end Dt








end Go.Proofs.Yteidhlfiofiocab
