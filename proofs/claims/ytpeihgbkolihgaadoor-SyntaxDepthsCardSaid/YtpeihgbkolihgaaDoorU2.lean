/- The mathematics of deepest: which leaves are reached. -/
import Derived.Test.YtpeihgbkolihgaaDoorU1
set_option linter.unusedVariables false
namespace Go.Proofs.YtpeihgbkolihgaaDoor

namespace Sx
/-- What was reached: the marks, their number, the greatest depth. -/
structure St where
  marks : List Bool
  count : Nat
  top : Int
def kidsF (g : Int → St → Bool × St) : List Int → St → Bool × St
  | [], s => (true, s)
  | k :: ks, s => if (g k s).1 = true then kidsF g ks (g k s).2 else (false, (g k s).2)
def isLeaf (L : List LeafM) (t : Int) : Bool := decide (0 ≤ t) && decide (t < (L.length : Int))
def kidsOf (L : List LeafM) (t : Int) : List Int := ((L[t.toNat]?).map (·.kids)).getD []
def bad (L : List LeafM) (t : Int) (s : St) : Bool := !isLeaf L t || (s.marks[t.toNat]?).getD true
def mark (t depth : Int) (s : St) : St := ⟨s.marks.set t.toNat true, s.count + 1, max s.top depth⟩
def reachF (L : List LeafM) : Nat → Int → Int → St → Bool × St
  | 0, _, _, s => (false, s)
  | f + 1, t, depth, s => if bad L t s = true then (false, s) else kidsF (fun k s => reachF L f k (depth + 1) s) (kidsOf L t) (mark t depth s)
def unm (s : St) : Nat := s.marks.count false

theorem kidsF_app (g : Int → St → Bool × St) : ∀ (l m : List Int) (s : St), kidsF g (l ++ m) s = if (kidsF g l s).1 = true then kidsF g m (kidsF g l s).2 else (false, (kidsF g l s).2)
  | [], m, s => by simp [kidsF]
  | k :: l, m, s => by
    rw [List.cons_append, kidsF, kidsF]
    by_cases h : (g k s).1 = true
    · rw [if_pos h, if_pos h, kidsF_app g l m]
    · rw [if_neg h, if_neg h]; simp
theorem kidsF_snoc (g : Int → St → Bool × St) (l : List Int) (k : Int) (s : St) (h : (kidsF g l s).1 = true) : kidsF g (l ++ [k]) s = ((g k (kidsF g l s).2).1, (g k (kidsF g l s).2).2) := by
  rw [kidsF_app, if_pos h, kidsF]
  by_cases h2 : (g k (kidsF g l s).2).1 = true
  · rw [if_pos h2, kidsF, h2]
  · rw [if_neg h2]; simp [h2]

/-- What every step keeps. -/
structure Le (s s' : St) : Prop where
  len : s'.marks.length = s.marks.length
  unm : unm s' ≤ unm s
  cnt : s'.count + Sx.unm s' = s.count + Sx.unm s
theorem Le.refl (s : St) : Le s s := ⟨rfl, Nat.le_refl _, rfl⟩
theorem Le.trans {a b c : St} (h : Le a b) (k : Le b c) : Le a c := ⟨k.len.trans h.len, Nat.le_trans k.unm h.unm, k.cnt.trans h.cnt⟩
theorem kidsF_le {g : Int → St → Bool × St} (hg : ∀ k s, Le s (g k s).2) : ∀ (l : List Int) (s : St), Le s (kidsF g l s).2
  | [], s => Le.refl s
  | k :: l, s => by
    rw [kidsF]
    by_cases h : (g k s).1 = true
    · rw [if_pos h]; exact (hg k s).trans (kidsF_le hg l _)
    · rw [if_neg h]; exact hg k s
theorem count_set : ∀ (l : List Bool) (i : Nat), l[i]? = some false → (l.set i true).count false + 1 = l.count false
  | [], i, h => by simp at h
  | b :: l, 0, h => by
    have : b = false := by simpa using h
    subst this
    simp
  | b :: l, i + 1, h => by
    have h2 : l[i]? = some false := by simpa using h
    have ih := count_set l i h2
    rw [List.set_cons_succ, List.count_cons, List.count_cons]
    omega
theorem not_bad {L : List LeafM} {t : Int} {s : St} (h : bad L t s = false) : (0 ≤ t ∧ t < (L.length : Int)) ∧ s.marks[t.toNat]? = some false := by
  unfold bad isLeaf at h
  rw [Bool.or_eq_false_iff] at h
  obtain ⟨h1, h2⟩ := h
  refine ⟨by simpa using h1, ?_⟩
  cases hm : s.marks[t.toNat]? with
  | none => rw [hm] at h2; simp at h2
  | some b => rw [hm] at h2; simp at h2; rw [h2]
theorem mark_le {L : List LeafM} {t depth : Int} {s : St} (h : bad L t s = false) : Le s (mark t depth s) ∧ unm (mark t depth s) + 1 = unm s := by
  have h1 := count_set _ _ (not_bad h).2
  have h2 : unm (mark t depth s) + 1 = unm s := h1
  exact ⟨⟨by simp [mark], by omega, by show s.count + 1 + unm (mark t depth s) = _; omega⟩, h2⟩
theorem reachF_le (L : List LeafM) : ∀ (f : Nat) (t depth : Int) (s : St), Le s (reachF L f t depth s).2
  | 0, _, _, s => Le.refl s
  | f + 1, t, depth, s => by
    rw [reachF]
    cases h : bad L t s with
    | true => rw [if_pos rfl]; exact Le.refl s
    | false =>
      rw [if_neg (by simp)]
      exact (mark_le h).1.trans (kidsF_le (fun k s => reachF_le L f k (depth + 1) s) _ _)
/-- The greatest depth stays within what the marks leave. -/
theorem kidsF_top {g : Int → St → Bool × St} (hg : ∀ k s, Le s (g k s).2) (D : Int) (ht : ∀ k s, s.top ≤ D → (g k s).2.top ≤ D) : ∀ (l : List Int) (s : St), s.top ≤ D → (kidsF g l s).2.top ≤ D
  | [], s, h => h
  | k :: l, s, h => by
    rw [kidsF]
    by_cases h2 : (g k s).1 = true
    · rw [if_pos h2]; exact kidsF_top hg D ht l _ (ht k s h)
    · rw [if_neg h2]; exact ht k s h
def start (n : Nat) : St := ⟨List.replicate n false, 0, 0⟩
theorem unm_start (n : Nat) : unm (start n) = n := by simp [unm, start]
def deepest (L : List LeafM) (root : Int) : Int × Bool :=
  let r := reachF L (L.length + 1) root 0 (start L.length)
  (r.2.top, r.1 && decide (r.2.count = L.length))
end Sx

end Go.Proofs.YtpeihgbkolihgaaDoor
