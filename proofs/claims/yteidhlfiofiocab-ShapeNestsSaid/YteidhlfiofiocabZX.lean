/- The reference's many and typed. -/
import Derived.Test.YteidhlfiofiocabZU
set_option linter.unusedVariables false
set_option linter.unusedSimpArgs false
namespace Go.Proofs.Yteidhlfiofiocab
open Go.RowKit Go.Shelf

theorem any_false_of {α : Type} {p : α → Bool} {l : List α} {n : Nat} (hn : l.length = n) (h : ∀ j (h : j < n) (h2 : j < l.length), p (l[j]'h2) = false) : l.any p = false := by
  rw [List.any_eq_false]
  intro x hx
  obtain ⟨j, hj, rfl⟩ := List.getElem_of_mem hx
  rw [h j (by omega) hj]; simp
theorem any_true_of {α : Type} {p : α → Bool} {l : List α} {x : α} (hx : x ∈ l) (h : p x = true) : l.any p = true := by
  rw [List.any_eq_true]; exact ⟨x, hx, h⟩



end Go.Proofs.Yteidhlfiofiocab
