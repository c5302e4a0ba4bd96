/- Few. -/
import Derived.Test.YteidhlfiofiocabZ4
set_option linter.unusedVariables false
set_option linter.unusedSimpArgs false
namespace Go.Proofs.Yteidhlfiofiocab
open Go.RowKit Go.Shelf

namespace Dt
def fewC (c : ConM) : Bool := decide (c.name.size ≤ 100) && decide (c.fields.length ≤ 20)
def fewD (x : DataM) : Bool := decide (x.name.size ≤ 100) && decide (x.cons.length ≤ 30) && x.cons.all fewC
def sumF (l : List ConM) : Nat := (l.map (fun c => c.fields.length)).sum
def partsD (x : DataM) : Nat := 1 + x.cons.length + sumF x.cons
def parts (d : List DataM) : Nat := (d.map partsD).sum
def few (d : List DataM) : Bool := decide (d.length ≤ 80) && d.all fewD && decide (parts d ≤ 400)
theorem sumF_snoc (l : List ConM) (c : ConM) : sumF (l ++ [c]) = sumF l + c.fields.length := by simp [sumF]
theorem parts_snoc (l : List DataM) (x : DataM) : parts (l ++ [x]) = parts l + partsD x := by simp [parts]
theorem sumF_le (l : List ConM) (h : ∀ c ∈ l, fewC c = true) : sumF l ≤ 20 * l.length := by
  induction l with
  | nil => simp [sumF]
  | cons c l ih =>
    have h1 := h c (by simp)
    have h2 := ih (fun c hc => h c (by simp [hc]))
    simp [fewC] at h1
    simp [sumF] at h2 ⊢
    omega
theorem parts_le (d : List DataM) (h : ∀ x ∈ d, fewD x = true) : parts d ≤ 631 * d.length := by
  induction d with
  | nil => simp [parts]
  | cons x d ih =>
    have h1 := h x (by simp)
    have h2 := ih (fun c hc => h c (by simp [hc]))
    simp [fewD] at h1
    have h3 := sumF_le x.cons h1.2
    simp [parts, partsD] at h2 ⊢
    omega
theorem few_sm {d : List DataM} (h : few d = true) (h64 : ∀ x ∈ d, ∀ c ∈ x.cons, ∀ f ∈ c.fields, In64 f) : Sm d := by
  simp [few, fewD, fewC] at h
  obtain ⟨⟨h1, h2⟩, _⟩ := h
  refine ⟨by omega, fun x hx => ?_⟩
  obtain ⟨⟨a, b⟩, c⟩ := h2 x hx
  refine ⟨by omega, by omega, fun y hy => ?_⟩
  obtain ⟨p, q⟩ := c y hy
  exact ⟨by omega, by omega, h64 x hx y hy⟩
end Dt

theorem wrap_one (q : Nat) (h : q ≤ 100000) : wrap64 ((q : Int) + 1) = (q : Int) + 1 := IntWalk.wrap64_in _ (by omega)
theorem wrap_one' (q : Nat) (h : q ≤ 100000) : IntKind.i64.wrap ((q : Int) + 1) = (q : Int) + 1 := IntWalk.i64_in _ (by omega)
theorem wrap_sum (a b c : Nat) (h : a ≤ 100000) (h2 : b ≤ 100000) (e : a + b = c) : wrap64 ((a : Int) + b) = c := by subst e; rw [IntWalk.wrap64_in _ (by omega)]; omega
theorem wrap_sum' (a b c : Nat) (h : a ≤ 100000) (h2 : b ≤ 100000) (e : a + b = c) : IntKind.i64.wrap ((a : Int) + b) = c := by subst e; rw [IntWalk.i64_in _ (by omega)]; omega
theorem wrap_two (a b c : Nat) (h : a ≤ 100000) (h2 : b ≤ 100000) (e : a + 1 + b = c) : wrap64 ((a : Int) + 1 + b) = c := by subst e; rw [IntWalk.wrap64_in _ (by omega)]; omega
theorem wrap_two' (a b c : Nat) (h : a ≤ 100000) (h2 : b ≤ 100000) (e : a + 1 + b = c) : IntKind.i64.wrap ((a : Int) + 1 + b) = c := by subst e; rw [IntWalk.i64_in _ (by omega)]; omega


end Go.Proofs.Yteidhlfiofiocab
