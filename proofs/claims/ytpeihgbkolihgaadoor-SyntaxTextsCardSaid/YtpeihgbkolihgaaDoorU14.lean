/- The mathematics of Check: where every leaf is reached, all kids are leaves. -/
import Derived.Test.YtpeihgbkolihgaaDoorU9
set_option linter.unusedVariables false
set_option linter.unusedSimpArgs false
namespace Go.Proofs.YtpeihgbkolihgaaDoor
open Go.RowKit

namespace Sx
theorem isLeaf_iff (L : List LeafM) (t : Int) : isLeaf L t = true ↔ 0 ≤ t ∧ t < (L.length : Int) := by
  unfold isLeaf
  rw [Bool.and_eq_true, decide_eq_true_eq, decide_eq_true_eq]
/-- What a reaching that ends well leaves: kids of what is newly marked are leaves. -/
def Fine (L : List LeafM) (s s' : St) : Prop := ∀ (i : Nat) (h : i < L.length), s'.marks[i]? = some true → s.marks[i]? = some true ∨ inside L L[i].kids
theorem Fine.refl (L : List LeafM) (s : St) : Fine L s s := fun _ _ h => .inl h
theorem Fine.trans {L : List LeafM} {a b c : St} (h : Fine L a b) (k : Fine L b c) : Fine L a c := fun i hi hm => by
  rcases k i hi hm with h1 | h1
  · exact h i hi h1
  · exact .inr h1
theorem kidsF_fine {L : List LeafM} {g : Int → St → Bool × St} (hg : ∀ k s, (g k s).1 = true → Fine L s (g k s).2 ∧ isLeaf L k = true) : ∀ (l : List Int) (s : St), (kidsF g l s).1 = true → Fine L s (kidsF g l s).2 ∧ ∀ k ∈ l, isLeaf L k = true
  | [], s, _ => ⟨Fine.refl _ _, fun k h => by simp at h⟩
  | k :: l, s, h => by
    rw [kidsF] at h ⊢
    by_cases h2 : (g k s).1 = true
    · rw [if_pos h2] at h ⊢
      obtain ⟨a1, a2⟩ := hg k s h2
      obtain ⟨b1, b2⟩ := kidsF_fine hg l _ h
      refine ⟨a1.trans b1, fun q hq => ?_⟩
      rcases List.mem_cons.1 hq with rfl | hq
      · exact a2
      · exact b2 q hq
    · rw [if_neg h2] at h
      cases h
theorem reachF_fine (L : List LeafM) : ∀ (f : Nat) (t depth : Int) (s : St), (reachF L f t depth s).1 = true → Fine L s (reachF L f t depth s).2 ∧ isLeaf L t = true
  | 0, _, _, _, h => by cases h
  | f + 1, t, depth, s, h => by
    rw [reachF] at h ⊢
    by_cases hbb : bad L t s = true
    · rw [if_pos hbb] at h; cases h
    · rw [if_neg hbb] at h ⊢
      have hb : bad L t s = false := by
        cases hq : bad L t s with
        | true => exact absurd hq hbb
        | false => rfl
      obtain ⟨⟨h0, h1⟩, h2⟩ := not_bad hb
      obtain ⟨a1, a2⟩ := kidsF_fine (fun k s hk => reachF_fine L f k (depth + 1) s hk) _ _ h
      refine ⟨fun i hi hm => ?_, (isLeaf_iff L t).2 ⟨h0, h1⟩⟩
      rcases a1 i hi hm with h3 | h3
      · by_cases hit : i = t.toNat
        · right
          subst hit
          intro k hk
          have hko : kidsOf L t = L[t.toNat].kids := by unfold kidsOf; rw [List.getElem?_eq_getElem hi]; rfl
          rw [hko] at a2
          exact (isLeaf_iff L k).1 (a2 k hk)
        · left
          unfold mark at h3
          dsimp only at h3
          rw [List.getElem?_set_ne (fun e => hit e.symm)] at h3
          exact h3
      · exact .inr h3
theorem deepest_inside (L : List LeafM) (root : Int) (h : (deepest L root).2 = true) : ∀ x ∈ L, inside L x.kids := by
  unfold deepest at h
  dsimp only at h
  rw [Bool.and_eq_true, decide_eq_true_eq] at h
  obtain ⟨h1, h2⟩ := h
  have hf := (reachF_fine L _ _ _ _ h1).1
  have hle := reachF_le L (L.length + 1) root 0 (start L.length)
  obtain ⟨s', hs'⟩ : ∃ s', (reachF L (L.length + 1) root 0 (start L.length)).2 = s' := ⟨_, rfl⟩
  rw [hs'] at hf hle h2
  have hun : unm s' = 0 := by
    have h3 := hle.cnt
    rw [unm_start, h2] at h3
    have h4 : (start L.length).count = 0 := rfl
    omega
  intro x hx
  obtain ⟨i, hi, rfl⟩ := List.getElem_of_mem hx
  have hlen : s'.marks.length = L.length := by rw [hle.len]; simp [start]
  have hm : s'.marks[i]? = some true := by
    have hi2 : i < s'.marks.length := by omega
    rw [List.getElem?_eq_getElem hi2]
    cases hb : s'.marks[i] with
    | true => rfl
    | false =>
      have h5 : false ∈ s'.marks := by rw [← hb]; exact List.getElem_mem _
      have h6 := List.count_pos_iff.2 h5
      have h7 : s'.marks.count false = 0 := hun
      omega
  rcases hf i hi hm with h3 | h3
  · unfold start at h3
    dsimp only at h3
    rw [List.getElem?_replicate, if_pos hi] at h3
    cases h3
  · exact h3
end Sx

end Go.Proofs.YtpeihgbkolihgaaDoor
