/- The laws' has; the law DatasCloses. -/
import Derived.Test.YtphlokjhfbfogaaZT
import Derived.Deep.QuietTactic
import Derived.BigQuiet
set_option linter.unusedVariables false
set_option linter.unusedSimpArgs false
namespace Go.Proofs.Ytphlokjhfbfogaa
open Go.RowKit Go.Shelf

theorem FsAt.take {w : World} {ad : Option Addr} {n cap : Nat} {l : List Int} (h : FsAt w (.slice ad n cap) l) (i cap' : Nat) (hi : i ≤ n) : FsAt w (.slice ad i cap') (l.take i) := by
  obtain ⟨ad', n', cap2, e, hn, h⟩ := h
  cases e
  refine ⟨ad, i, cap', rfl, by rw [List.length_take]; omega, ?_⟩
  rcases h with h | ⟨b, off, rfl, h1, h2⟩
  · exact .inl (by omega)
  · refine .inr ⟨b, off, rfl, h1, fun j hj => ?_⟩
    rw [List.length_take] at hj
    rw [List.getElem_take]
    exact h2 j (by omega)


namespace Dt
theorem typed_of_check {d : List DataM} (h : check d = 0) : typed d = true := by
  unfold check at h
  split at h
  · omega
  · split at h
    · omega
    · split at h
      · omega
      · split at h
        · omega
        · next h4 => simpa using h4
theorem typed_field {d : List DataM} (h : typed d = true) {t f : Int} (hf : f ∈ fieldsOf d t) : ok d f = true := by
  unfold fieldsOf at hf
  obtain ⟨c, hc, hfc⟩ := List.mem_flatMap.1 hf
  unfold consOf at hc
  split at hc
  · simp at hc
  · cases hx : d[(t - 1).toNat]? with
    | none => rw [hx] at hc; simp at hc
    | some x =>
      rw [hx] at hc
      simp at hc
      have hxm : x ∈ d := List.mem_of_getElem? hx
      have h1 : d.any (offD d) = false := by simpa [typed] using h
      rw [List.any_eq_false] at h1
      have h2 := h1 x hxm
      simp only [offD, Bool.not_eq_true] at h2
      rw [List.any_eq_false] at h2
      have h3 := h2 c hc
      simp only [offC, Bool.not_eq_true] at h3
      rw [List.any_eq_false] at h3
      have h4 := h3 f hfc
      simpa [offT] using h4
theorem reach_none {d : List DataM} {t : Int} (h : ok d t = false) : reach d t = [] := by
  unfold reach
  rw [reachF]
  simp [h]
theorem reach_head {d : List DataM} {t : Int} (h : ok d t = true) : ∃ l, reach d t = t :: l := by
  unfold reach
  rw [reachF, if_pos ⟨h, by simp⟩]
  have hp : ([] ++ [t]) <+: (fieldsOf d t).foldl (fun l f => reachF d 149 f l) ([] ++ [t]) := foldl_prefix (fun l x => reach_prefix d 149 x l) _ _
  obtain ⟨s, hs⟩ := hp
  exact ⟨s, by rw [← hs]; rfl⟩
theorem reach_oks {d : List DataM} (t : Int) : (∀ x ∈ reach d t, ok d x = true) ∧ (reach d t).Nodup := reach_good d 150 t [] (by simp) (by simp)
theorem reach_has {d : List DataM} (hd : Sm d) (ht : typed d = true) (t x f : Int) (hx : x ∈ reach d t) (hf : f ∈ fieldsOf d x) : f ∈ reach d t := by
  have h1 := unmet_le d []
  have h2 := hd.1
  rcases (reach_closed d 150 t [] (by omega)).2 x hx with h | h
  · simp at h
  · exact h f hf (typed_field ht hf)
theorem nodup_take {l : List Int} (h : l.Nodup) (i : Nat) (hi : i < l.length) : hasT l[i] (l.take i) = false := by
  rw [hasT, List.any_eq_false]
  intro x hx
  obtain ⟨j, hj, rfl⟩ := List.getElem_of_mem hx
  rw [List.length_take] at hj
  rw [List.getElem_take]
  simp only [beq_iff_eq]
  intro e
  have := (List.getElem_inj h).1 e
  omega
end Dt


end Go.Proofs.Ytphlokjhfbfogaa
