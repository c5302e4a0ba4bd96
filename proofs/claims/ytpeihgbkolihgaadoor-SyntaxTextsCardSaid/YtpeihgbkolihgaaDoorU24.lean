/- The mathematics of valid trees: what reaching means. -/
import Derived.Test.YtpeihgbkolihgaaDoorU15
set_option linter.unusedVariables false
set_option linter.unusedSimpArgs false
namespace Go.Proofs.YtpeihgbkolihgaaDoor

namespace Sx
/-- What is below a leaf ends within k levels; the leaves below a leaf, this first; how deep they lie. -/
def Hh (L : List LeafM) : Nat → Int → Prop
  | 0, _ => False
  | k + 1, t => isLeaf L t = true ∧ ∀ q ∈ kidsOf L t, Hh L k q
def pre (L : List LeafM) : Nat → Int → List Nat
  | 0, _ => []
  | k + 1, t => t.toNat :: (kidsOf L t).flatMap (pre L k)
def maxL : List Int → Int
  | [] => 0
  | x :: l => max x (maxL l)
def ht (L : List LeafM) : Nat → Int → Int
  | 0, _ => 0
  | k + 1, t => maxL ((kidsOf L t).map (fun q => ht L k q + 1))

theorem maxL_nonneg : ∀ l : List Int, 0 ≤ maxL l
  | [] => Int.le_refl _
  | x :: l => Int.le_trans (maxL_nonneg l) (Int.le_max_right _ _)
theorem maxL_ge {l : List Int} {x : Int} (h : x ∈ l) : x ≤ maxL l := by
  induction l with
  | nil => cases h
  | cons y l ih =>
    rw [maxL]
    rcases List.mem_cons.1 h with rfl | h
    · exact Int.le_max_left _ _
    · exact Int.le_trans (ih h) (Int.le_max_right _ _)
theorem ht_nonneg (L : List LeafM) (k : Nat) (t : Int) : 0 ≤ ht L k t := by
  cases k with
  | zero => exact Int.le_refl _
  | succ k => exact maxL_nonneg _

theorem Hh.mono {L : List LeafM} : ∀ {k m : Nat} {t : Int}, Hh L k t → k ≤ m → Hh L m t ∧ pre L m t = pre L k t ∧ ht L m t = ht L k t
  | 0, _, _, h, _ => h.elim
  | k + 1, 0, _, _, hk => absurd hk (by omega)
  | k + 1, m + 1, t, h, hk => by
    have ih : ∀ q ∈ kidsOf L t, Hh L m q ∧ pre L m q = pre L k q ∧ ht L m q = ht L k q := fun q hq => (h.2 q hq).mono (by omega)
    refine ⟨⟨h.1, fun q hq => (ih q hq).1⟩, ?_, ?_⟩
    · rw [pre, pre]
      congr 1
      have : ∀ (l : List Int), (∀ q ∈ l, pre L m q = pre L k q) → l.flatMap (pre L m) = l.flatMap (pre L k) := by
        intro l
        induction l with
        | nil => intro _; rfl
        | cons a l ih2 => intro hl; rw [List.flatMap_cons, List.flatMap_cons, hl a (by simp), ih2 fun q hq => hl q (by simp [hq])]
      exact this _ fun q hq => (ih q hq).2.1
    · rw [ht, ht]
      congr 1
      apply List.map_congr_left
      intro q hq
      rw [(ih q hq).2.2]

/-- What a reaching that ends well has done. -/
structure Done (s s' : St) (P : List Nat) (d : Int) : Prop where
  nodup : P.Nodup
  fresh : ∀ i ∈ P, s.marks[i]? = some false
  hit : ∀ i : Nat, i ∈ P → s'.marks[i]? = some true
  miss : ∀ i : Nat, i ∉ P → s'.marks[i]? = s.marks[i]?
  count : s'.count = s.count + P.length
  top : s'.top = max s.top d
theorem Done.len {s s' : St} {P : List Nat} {d : Int} (h : Done s s' P d) : ∀ i ∈ P, i < s.marks.length := fun i hi => by
  have h1 := h.fresh i hi
  exact (List.getElem?_eq_some_iff.1 h1).1

theorem kids_done {L : List LeafM} {k : Nat} {depth : Int} (ih : ∀ t s, (reachF L k t (depth + 1) s).1 = true → Hh L k t ∧ Done s (reachF L k t (depth + 1) s).2 (pre L k t) (depth + 1 + ht L k t)) :
    ∀ (l : List Int) (s : St), (kidsF (fun q s => reachF L k q (depth + 1) s) l s).1 = true → depth ≤ s.top →
      (∀ q ∈ l, Hh L k q) ∧ Done s (kidsF (fun q s => reachF L k q (depth + 1) s) l s).2 (l.flatMap (pre L k)) (depth + maxL (l.map (fun q => ht L k q + 1)))
  | [], s, h, hd => by
    refine ⟨fun q hq => by simp at hq, by simp, by simp, by simp, fun i _ => rfl, by simp [kidsF], ?_⟩
    · simp only [kidsF, List.map_nil, maxL]
      rw [Int.add_zero, Int.max_eq_left hd]
  | q :: l, s, h, hd => by
    rw [kidsF] at h ⊢
    by_cases h2 : (reachF L k q (depth + 1) s).1 = true
    · rw [if_pos h2] at h ⊢
      obtain ⟨a1, a2⟩ := ih q s h2
      have hd2 : depth ≤ (reachF L k q (depth + 1) s).2.top := by rw [a2.top]; exact Int.le_trans hd (Int.le_max_left _ _)
      obtain ⟨b1, b2⟩ := kids_done ih l _ h hd2
      refine ⟨fun x hx => ?_, ?_, ?_, ?_, ?_, ?_, ?_⟩
      · rcases List.mem_cons.1 hx with rfl | hx
        · exact a1
        · exact b1 x hx
      · rw [List.flatMap_cons, List.nodup_append]
        refine ⟨a2.nodup, b2.nodup, fun x hx y hy hxy => ?_⟩
        subst hxy
        have h3 := b2.fresh x hy
        rw [a2.hit x hx] at h3
        cases h3
      · intro i hi
        rw [List.flatMap_cons, List.mem_append] at hi
        rcases hi with hi | hi
        · exact a2.fresh i hi
        · have h3 := b2.fresh i hi
          by_cases h4 : i ∈ pre L k q
          · exact a2.fresh i h4
          · rw [a2.miss i h4] at h3; exact h3
      · intro i hi
        rw [List.flatMap_cons, List.mem_append] at hi
        by_cases h3 : i ∈ l.flatMap (pre L k)
        · exact b2.hit i h3
        · rw [b2.miss i h3]
          rcases hi with hi | hi
          · exact a2.hit i hi
          · exact absurd hi h3
      · intro i hi
        rw [List.flatMap_cons, List.mem_append] at hi
        rw [b2.miss i (fun h => hi (.inr h)), a2.miss i (fun h => hi (.inl h))]
      · rw [b2.count, a2.count, List.flatMap_cons, List.length_append]; omega
      · rw [b2.top, a2.top, List.map_cons, maxL]
        omega
    · rw [if_neg h2] at h
      cases h

theorem reach_done (L : List LeafM) : ∀ (k : Nat) (t depth : Int) (s : St), (reachF L k t depth s).1 = true → Hh L k t ∧ Done s (reachF L k t depth s).2 (pre L k t) (depth + ht L k t)
  | 0, _, _, _, h => by cases h
  | k + 1, t, depth, s, h => by
    rw [reachF] at h ⊢
    by_cases hbb : bad L t s = true
    · rw [if_pos hbb] at h; cases h
    · rw [if_neg hbb] at h ⊢
      have hb : bad L t s = false := by
        cases hq : bad L t s with
        | true => exact absurd hq hbb
        | false => rfl
      obtain ⟨⟨h0, h1⟩, h2⟩ := not_bad hb
      obtain ⟨a1, a2⟩ := kids_done (fun t s => reach_done L k t (depth + 1) s) _ _ h (by unfold mark; exact Int.le_max_right _ _)
      have hmk : ∀ i : Nat, (mark t depth s).marks[i]? = if i = t.toNat then some true else s.marks[i]? := by
        intro i
        unfold mark
        dsimp only
        by_cases hi : i = t.toNat
        · rw [if_pos hi, hi, List.getElem?_set_self (List.getElem?_eq_some_iff.1 h2).1]
        · rw [if_neg hi, List.getElem?_set_ne (fun e => hi e.symm)]
      refine ⟨⟨(isLeaf_iff L t).2 ⟨h0, h1⟩, a1⟩, ?_, ?_, ?_, ?_, ?_, ?_⟩
      · rw [pre, List.nodup_cons]
        refine ⟨fun hm => ?_, a2.nodup⟩
        have h3 := a2.fresh _ hm
        rw [hmk, if_pos rfl] at h3
        cases h3
      · intro i hi
        rw [pre, List.mem_cons] at hi
        rcases hi with rfl | hi
        · exact h2
        · have h3 := a2.fresh i hi
          rw [hmk] at h3
          by_cases h4 : i = t.toNat
          · rw [if_pos h4] at h3; cases h3
          · rw [if_neg h4] at h3; exact h3
      · intro i hi
        rw [pre, List.mem_cons] at hi
        by_cases h3 : i ∈ (kidsOf L t).flatMap (pre L k)
        · exact a2.hit i h3
        · rw [a2.miss i h3, hmk]
          rcases hi with hi | hi
          · rw [if_pos hi]
          · exact absurd hi h3
      · intro i hi
        rw [pre, List.mem_cons] at hi
        rw [a2.miss i (fun h => hi (.inr h)), hmk, if_neg (fun h => hi (.inl h))]
      · rw [a2.count, pre, List.length_cons]
        show s.count + 1 + _ = _
        omega
      · rw [a2.top, ht]
        have h3 := maxL_nonneg ((kidsOf L t).map (fun q => ht L k q + 1))
        show max (max s.top depth) _ = _
        omega

/-- A leaf below which each leaf stands once, none of them marked, is reached well. -/
theorem kids_back {L : List LeafM} {k : Nat} {depth : Int} (ih : ∀ t s, Hh L k t → (pre L k t).Nodup → (∀ i ∈ pre L k t, s.marks[i]? = some false) → (reachF L k t (depth + 1) s).1 = true) :
    ∀ (l : List Int) (s : St), (∀ q ∈ l, Hh L k q) → (l.flatMap (pre L k)).Nodup → (∀ i ∈ l.flatMap (pre L k), s.marks[i]? = some false) → (kidsF (fun q s => reachF L k q (depth + 1) s) l s).1 = true
  | [], s, _, _, _ => rfl
  | q :: l, s, h1, h2, h3 => by
    rw [List.flatMap_cons, List.nodup_append] at h2
    have hq := ih q s (h1 q (by simp)) h2.1 (fun i hi => h3 i (by rw [List.flatMap_cons, List.mem_append]; exact .inl hi))
    rw [kidsF, if_pos hq]
    obtain ⟨_, a2⟩ := reach_done L k q (depth + 1) s hq
    refine kids_back ih l _ (fun x hx => h1 x (by simp [hx])) h2.2.1 fun i hi => ?_
    rw [a2.miss i (fun h4 => h2.2.2 i h4 i hi rfl)]
    exact h3 i (by rw [List.flatMap_cons, List.mem_append]; exact .inr hi)
theorem reach_back (L : List LeafM) : ∀ (k : Nat) (t depth : Int) (s : St), Hh L k t → (pre L k t).Nodup → (∀ i ∈ pre L k t, s.marks[i]? = some false) → (reachF L k t depth s).1 = true
  | 0, _, _, _, h, _, _ => h.elim
  | k + 1, t, depth, s, h1, h2, h3 => by
    have hm := h3 t.toNat (by rw [pre]; simp)
    have hb : bad L t s = false := by unfold bad; rw [h1.1, hm]; rfl
    rw [reachF, if_neg (by rw [hb]; simp)]
    rw [pre, List.nodup_cons] at h2
    refine kids_back (fun t s => reach_back L k t (depth + 1) s) _ _ h1.2 h2.2 fun i hi => ?_
    have hne : i ≠ t.toNat := fun e => h2.1 (by rw [← e]; exact hi)
    unfold mark
    dsimp only
    rw [List.getElem?_set_ne (fun e => hne e.symm)]
    exact h3 i (by rw [pre, List.mem_cons]; exact .inr hi)

theorem Hh.short {L : List LeafM} : ∀ {k : Nat} {t : Int}, Hh L k t → Hh L (pre L k t).length t
  | 0, _, h => h.elim
  | k + 1, t, h => by
    rw [pre, List.length_cons]
    refine ⟨h.1, fun q hq => ?_⟩
    have h1 := (h.2 q hq).short
    refine (h1.mono ?_).1
    have : ∀ l : List Int, q ∈ l → (pre L k q).length ≤ (l.flatMap (pre L k)).length := by
      intro l
      induction l with
      | nil => intro hl; cases hl
      | cons a l ih =>
        intro hl
        rw [List.flatMap_cons, List.length_append]
        rcases List.mem_cons.1 hl with rfl | hl
        · omega
        · have := ih hl; omega
    exact this _ hq

/-- What a valid tree is. -/
structure Ok (L : List LeafM) (root : Int) (k : Nat) : Prop where
  many : L.length ≤ 4096
  hh : Hh L k root
  nodup : (pre L k root).Nodup
  all : (pre L k root).length = L.length
  forms : forms L = true
  deep : ht L k root ≤ 64

theorem deepest_of (L : List LeafM) (root : Int) (h : (deepest L root).2 = true) :
    Hh L (L.length + 1) root ∧ (pre L (L.length + 1) root).Nodup ∧ (pre L (L.length + 1) root).length = L.length ∧ (deepest L root).1 = ht L (L.length + 1) root := by
  unfold deepest at h ⊢
  dsimp only at h ⊢
  rw [Bool.and_eq_true, decide_eq_true_eq] at h
  obtain ⟨a1, a2⟩ := reach_done L _ _ _ _ h.1
  refine ⟨a1, a2.nodup, ?_, ?_⟩
  · have h1 := a2.count
    rw [h.2] at h1
    have h2 : (start L.length).count = 0 := rfl
    omega
  · rw [a2.top]
    have h1 := ht_nonneg L (L.length + 1) root
    show max 0 (0 + _) = _
    omega
theorem deepest_to (L : List LeafM) (root : Int) (k : Nat) (h1 : Hh L k root) (h2 : (pre L k root).Nodup) (h3 : (pre L k root).length = L.length) :
    (deepest L root).2 = true ∧ (deepest L root).1 = ht L k root := by
  have h4 := h1.short
  obtain ⟨h5, p5, q5⟩ := h4.mono (Nat.le_max_left _ k)
  obtain ⟨h6, p6, q6⟩ := h1.mono (Nat.le_max_right (pre L k root).length k)
  rw [h3] at h4 h5 p5 q5 p6 q6
  obtain ⟨h7, p7, q7⟩ := h4.mono (Nat.le_succ _)
  have hp : pre L (L.length + 1) root = pre L k root := by rw [p7, ← p5, p6]
  have hq : ht L (L.length + 1) root = ht L k root := by rw [q7, ← q5, q6]
  have hlt : ∀ (k : Nat) (t : Int), Hh L k t → ∀ i ∈ pre L k t, i < L.length := by
    intro k
    induction k with
    | zero => intro t h; exact h.elim
    | succ k ih =>
      intro t h i hi
      rw [pre, List.mem_cons] at hi
      rcases hi with rfl | hi
      · have := (isLeaf_iff L t).1 h.1; omega
      · obtain ⟨q, hq, hi⟩ := List.mem_flatMap.1 hi
        exact ih q (h.2 q hq) i hi
  have hr := reach_back L (L.length + 1) root 0 (start L.length) h7 (by rw [hp]; exact h2) (fun i hi => by
    have := hlt _ _ h7 i hi
    unfold start
    dsimp only
    rw [List.getElem?_replicate, if_pos this])
  obtain ⟨_, a2⟩ := reach_done L _ _ _ _ hr
  unfold deepest
  dsimp only
  refine ⟨?_, ?_⟩
  · rw [hr, Bool.true_and, decide_eq_true_eq, a2.count, hp, h3]
    show 0 + _ = _
    omega
  · rw [a2.top, hq]
    have h1 := ht_nonneg L k root
    show max 0 (0 + _) = _
    omega

theorem check_ok {L : List LeafM} {root : Int} (h : check L root = 0) : Ok L root (L.length + 1) := by
  unfold check at h
  by_cases h1 : 4096 < L.length
  · rw [if_pos h1] at h; cases h
  · rw [if_neg h1] at h
    by_cases h2 : (deepest L root).2 = false
    · rw [if_pos h2] at h; cases h
    · rw [if_neg h2] at h
      by_cases h3 : Sx.forms L = false
      · rw [if_pos h3] at h; cases h
      · rw [if_neg h3] at h
        by_cases h4 : 64 < (deepest L root).1
        · rw [if_pos h4] at h; cases h
        · obtain ⟨a, b, c, d⟩ := deepest_of L root (by cases hq : (deepest L root).2 with | true => rfl | false => exact absurd hq h2)
          exact ⟨by omega, a, b, c, by cases hq : Sx.forms L with | true => rfl | false => exact absurd hq h3, by omega⟩
theorem ok_check {L : List LeafM} {root : Int} {k : Nat} (h : Ok L root k) : check L root = 0 := by
  obtain ⟨a, b⟩ := deepest_to L root k h.hh h.nodup h.all
  unfold check
  rw [if_neg (by have := h.many; omega), a, if_neg (by simp), h.forms, if_neg (by simp), b, if_neg (by have := h.deep; omega)]
theorem Hh.lt {L : List LeafM} : ∀ {k : Nat} {t : Int}, Hh L k t → ∀ i ∈ pre L k t, i < L.length
  | 0, _, h => h.elim
  | k + 1, t, h => fun i hi => by
    rw [pre, List.mem_cons] at hi
    rcases hi with rfl | hi
    · have := (isLeaf_iff L t).1 h.1; omega
    · obtain ⟨q, hq, hi⟩ := List.mem_flatMap.1 hi
      exact (h.2 q hq).lt i hi
theorem nodup_len : ∀ (n : Nat) (P : List Nat), P.Nodup → (∀ i ∈ P, i < n) → P.length ≤ n
  | 0, P, _, h2 => by
    cases P with
    | nil => exact Nat.le_refl _
    | cons a l => exact absurd (h2 a (by simp)) (Nat.not_lt_zero _)
  | n + 1, P, h1, h2 => by
    have h3 := nodup_len n (P.erase n) (h1.erase n) (fun i hi => by
      have h4 := (List.Nodup.mem_erase_iff h1).1 hi
      have := h2 i h4.2
      have := h4.1
      omega)
    by_cases hn : n ∈ P
    · rw [List.length_erase_of_mem hn] at h3
      omega
    · rw [List.erase_of_not_mem hn] at h3
      omega
/-- Each leaf of a valid tree is reached. -/
theorem Ok.mem {L : List LeafM} {root : Int} {k : Nat} (h : Ok L root k) (i : Nat) (hi : i < L.length) : i ∈ pre L k root := by
  apply Classical.byContradiction
  intro hn
  have h1 := nodup_len L.length (i :: pre L k root) (List.nodup_cons.2 ⟨hn, h.nodup⟩) (fun j hj => by
    rcases List.mem_cons.1 hj with rfl | hj
    · exact hi
    · exact h.hh.lt j hj)
  rw [List.length_cons, h.all] at h1
  omega
end Sx

end Go.Proofs.YtpeihgbkolihgaaDoor
