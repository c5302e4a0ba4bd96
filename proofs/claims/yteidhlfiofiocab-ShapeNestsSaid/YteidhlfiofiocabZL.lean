/- What Reach does. -/
import Derived.Test.YteidhlfiofiocabZK
set_option linter.unusedVariables false
set_option linter.unusedSimpArgs false
namespace Go.Proofs.Yteidhlfiofiocab
open Go.RowKit Go.Shelf Go.Maps


theorem row_types {A : Ad} {W : World} {b : Nat} {v : Value} {l : List Int} (h : RowIn A W b v l) : FsAt W v l := by
  rcases h.2.2 with ⟨hv, h0⟩ | ⟨g, cap, cur, hv, hg, hgb, hnc, hcm, hcs, htk⟩
  · obtain rfl := List.length_eq_zero_iff.1 h0
    rw [hv]; exact FsAt.nil W
  · refine ⟨_, _, _, hv, rfl, .inr ⟨g, 0, rfl, (Array.getElem?_eq_some_iff.1 hgb).1, fun i hi => ?_⟩⟩
    have h1 := congrArg (fun l => l[i]?) htk
    rw [List.getElem?_take_of_lt (by omega)] at h1
    simp only [World.cell?, hgb, Nat.zero_add]
    simpa [ints, hi] using h1

/-- A slice whose length is within its room. -/
def Fits (u : Value) : Prop := ∃ a n c, u = .slice a n c ∧ n ≤ c
theorem row_fits {A : Ad} {W : World} {b : Nat} {v : Value} {l : List Int} (h : RowIn A W b v l) : Fits v := by
  rcases h.2.2 with ⟨hv, h0⟩ | ⟨g, cap, cur, hv, hg, hgb, hnc, hcm, hcs, htk⟩
  · exact ⟨_, _, _, hv, Nat.le_refl _⟩
  · exact ⟨_, _, _, hv, hnc⟩

/-- The types that a type reaches. -/
def Dt.reach (d : List DataM) (t : Int) : List Int := Dt.reachF d 150 t []



theorem In64_zero : In64 0 := by unfold In64; omega

end Go.Proofs.Yteidhlfiofiocab
