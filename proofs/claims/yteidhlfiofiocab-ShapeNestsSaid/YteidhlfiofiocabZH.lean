/- The state of Reach's function literal. -/
import Derived.Test.YteidhlfiofiocabZG
import Derived.Test.YteidhlfiofiocabZ3
set_option linter.unusedVariables false
set_option linter.unusedSimpArgs false
namespace Go.Proofs.Yteidhlfiofiocab
open Go.RowKit Go.Shelf Go.Maps





namespace Dt
theorem fieldsOf_length {d : List DataM} (hd : Sm d) (t : Int) : (fieldsOf d t).length ≤ 10000 := by
  unfold fieldsOf
  have h1 := consOf_length hd t
  have h2 : ∀ c ∈ consOf d t, c.fields.length ≤ 100 := fun c hc => by
    obtain ⟨x, hx, hcx⟩ := consOf_mem hc
    exact ((hd.2 x hx).2.2 c hcx).2.1
  have key : ∀ l : List ConM, (∀ c ∈ l, c.fields.length ≤ 100) → (l.flatMap (·.fields)).length ≤ 100 * l.length := by
    intro l
    induction l with
    | nil => intro _; simp
    | cons c l ih =>
      intro h
      have h1 := h c (by simp)
      have h2 := ih (fun c hc => h c (by simp [hc]))
      rw [List.flatMap_cons, List.length_append, List.length_cons]
      omega
  have := key _ h2
  omega
theorem fieldsOf_in {d : List DataM} (hd : Sm d) (t : Int) : ∀ f ∈ fieldsOf d t, In64 f := by
  intro f hf
  unfold fieldsOf at hf
  obtain ⟨c, hc, hfc⟩ := List.mem_flatMap.1 hf
  obtain ⟨x, hx, hcx⟩ := consOf_mem hc
  exact ((hd.2 x hx).2.2 c hcx).2.2 f hfc
theorem fold_bound {d : List DataM} {k : Nat} (h : ∀ t l, (reachF d k t l).length + unmet d (reachF d k t l) ≤ l.length + unmet d l) : ∀ (fs : List Int) (l : List Int), (fs.foldl (fun l f => reachF d k f l) l).length + unmet d (fs.foldl (fun l f => reachF d k f l) l) ≤ l.length + unmet d l
  | [], l => Nat.le_refl _
  | f :: fs, l => Nat.le_trans (fold_bound h fs (reachF d k f l)) (h f l)
theorem reach_bound (d : List DataM) : ∀ (k : Nat) (t : Int) (l : List Int), (reachF d k t l).length + unmet d (reachF d k t l) ≤ l.length + unmet d l
  | 0, t, l => Nat.le_refl _
  | k + 1, t, l => by
    rw [reachF]
    split
    next h =>
      have h1 := fold_bound (reach_bound d k) (fieldsOf d t) (l ++ [t])
      have h2 := unmet_snoc d h.1 h.2
      rw [List.length_append, List.length_singleton] at h1
      omega
    next h => exact Nat.le_refl _
end Dt

end Go.Proofs.Yteidhlfiofiocab
