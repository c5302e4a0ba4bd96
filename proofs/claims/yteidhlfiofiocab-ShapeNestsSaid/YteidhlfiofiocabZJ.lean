/- The function literal of Reach at a type that is new: its steps up to the loops. -/
import Derived.Test.YteidhlfiofiocabZI
set_option linter.unusedVariables false
set_option linter.unusedSimpArgs false
namespace Go.Proofs.Yteidhlfiofiocab
open Go.RowKit Go.Shelf Go.Maps
attribute [local go_sem] Oper.semAt_some

theorem RowIn.slice {A : Ad} {W : World} {b : Nat} {v : Value} {l : List Int} (h : RowIn A W b v l) : ∃ ad cap, v = .slice ad l.length cap := by
  rcases h.2.2 with ⟨hv, h0⟩ | ⟨g, cap, cur, hv, _⟩
  · exact ⟨none, 0, by rw [hv, h0]⟩
  · exact ⟨_, cap, hv⟩


end Go.Proofs.Yteidhlfiofiocab
