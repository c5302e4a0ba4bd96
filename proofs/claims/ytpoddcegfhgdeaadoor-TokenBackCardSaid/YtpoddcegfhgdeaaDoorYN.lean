/- The mathematics of the law TokenSpaces: a comment line before a token changes only ranges. -/
import Derived.Test.YtpoddcegfhgdeaaDoorYJ
set_option linter.unusedVariables false
set_option linter.unusedSimpArgs false
namespace Go.Proofs.YtpoddcegfhgdeaaDoor.Tk

/-- The comment line: a line feed, a space, a comment, a line feed. -/
def cl : List UInt8 := [10, 32, 45, 45, 32, 97, 32, 34, 110, 111, 116, 101, 34, 10]

theorem tw_app (p : UInt8 → Bool) (x y : List UInt8) : tw p (x ++ y) = if (∀ c ∈ x, p c = true) then x.length + tw p y else tw p x := by
  unfold tw
  induction x with
  | nil => simp
  | cons a x ih =>
    rw [List.cons_append, List.takeWhile_cons, List.takeWhile_cons]
    by_cases ha : p a = true
    · rw [if_pos ha, if_pos ha, List.length_cons, ih]
      by_cases hx : ∀ c ∈ x, p c = true
      · rw [if_pos hx, if_pos (by intro c hc; rcases List.mem_cons.1 hc with rfl | hc; exact ha; exact hx c hc)]
        simp; omega
      · rw [if_neg hx, if_neg (fun h => hx (fun c hc => h c (by simp [hc])))]
        simp
    · rw [if_neg ha, if_neg ha, if_neg (fun h => ha (h a (by simp)))]
theorem tw_le (p : UInt8 → Bool) (x : List UInt8) : tw p x ≤ x.length := takeWhile_len p x
theorem tw_all (p : UInt8 → Bool) (x : List UInt8) (h : ∀ c ∈ x, p c = true) : tw p x = x.length := by
  have := tw_app p x []
  rw [List.append_nil, if_pos h] at this
  rw [this]; rfl
theorem tw_lt (p : UInt8 → Bool) (x : List UInt8) (h : ¬ ∀ c ∈ x, p c = true) : tw p x < x.length := by
  induction x with
  | nil => exact absurd (fun c hc => by cases hc) h
  | cons a x ih =>
    unfold tw
    rw [List.takeWhile_cons]
    by_cases ha : p a = true
    · rw [if_pos ha]
      have := ih (fun hx => h (by intro c hc; rcases List.mem_cons.1 hc with rfl | hc; exact ha; exact hx c hc))
      unfold tw at this
      simp; omega
    · rw [if_neg ha]; simp
/-- A run that ends within x, or at its end, is the same before anything that does not go on with it. -/
theorem tw_cut (p : UInt8 → Bool) (x y z : List UInt8) (h : tw p (x ++ y) ≤ x.length) (hz : tw p z = 0) : tw p (x ++ z) = tw p (x ++ y) := by
  rw [tw_app] at h ⊢
  rw [tw_app]
  by_cases hx : ∀ c ∈ x, p c = true
  · rw [if_pos hx] at h
    rw [if_pos hx, if_pos hx, hz]
    omega
  · rw [if_neg hx, if_neg hx]

/-- Where a step ends. -/
def St.endX : St → Nat
  | .bad _ => 0
  | .sp b => b
  | .note b => b
  | .tok _ b => b

theorem take_cut (x y z : List UInt8) (k : Nat) (h : k ≤ x.length) : (x ++ z).take k = (x ++ y).take k := by
  rw [List.take_append_of_le_length h, List.take_append_of_le_length h]

/-- The first sign that a text begins with, cut: behind it stands no part of a longer sign. -/
theorem sign_cut (c : UInt8) (x y z : List UInt8) (hz : z = [] ∨ ∃ r, z = 10 :: r) (h : ∀ s, signs.find? (fun s => s.isPrefixOf (c :: x ++ y)) = some s → s.length ≤ (c :: x).length) :
    signs.find? (fun s => s.isPrefixOf (c :: x ++ z)) = signs.find? (fun s => s.isPrefixOf (c :: x ++ y)) := by
  cases x with
  | cons d x =>
    have e : ∀ s ∈ signs, s.isPrefixOf (c :: d :: x ++ z) = s.isPrefixOf (c :: d :: x ++ y) := by
      intro s hs
      have hl : s.length ≤ 2 := (show ∀ s ∈ signs, s.length ≤ 2 by decide) s hs
      match s, hl with
      | [], _ => rfl
      | [a], _ => simp [List.isPrefixOf]
      | [a, b], _ => simp [List.isPrefixOf]
      | a :: b :: e :: r, hl => simp at hl
    have : ∀ (S : List (List UInt8)), (∀ s ∈ S, s.isPrefixOf (c :: d :: x ++ z) = s.isPrefixOf (c :: d :: x ++ y)) → S.find? (fun s => s.isPrefixOf (c :: d :: x ++ z)) = S.find? (fun s => s.isPrefixOf (c :: d :: x ++ y)) := by
      intro S hS
      induction S with
      | nil => rfl
      | cons s S ih =>
        rw [List.find?_cons, List.find?_cons, hS s (by simp), ih (fun t ht => hS t (by simp [ht]))]
    exact this signs e
  | nil =>
    have two : ∀ a b, ([a, b] : List UInt8) ∈ signs → b ≠ 10 := by
      intro a b hm
      simp [signs] at hm
      rcases hm with ⟨_, rfl⟩ | ⟨_, rfl⟩ | ⟨_, rfl⟩ <;> decide
    have hz2 : ∀ a b, ([a, b] : List UInt8) ∈ signs → ([a, b] : List UInt8).isPrefixOf (c :: [] ++ z) = false := by
      intro a b hm
      rcases hz with rfl | ⟨r, rfl⟩
      · simp [List.isPrefixOf]
      · have := two a b hm
        simp [List.isPrefixOf]
        intro _
        exact this
    have hy2 : ∀ (S : List (List UInt8)), (∀ s ∈ S, s ∈ signs) → (∀ s, S.find? (fun s => s.isPrefixOf (c :: [] ++ y)) = some s → s.length ≤ 1) → S.find? (fun s => s.isPrefixOf (c :: [] ++ z)) = S.find? (fun s => s.isPrefixOf (c :: [] ++ y)) := by
      intro S
      induction S with
      | nil => intro _ _; rfl
      | cons s S ih =>
        intro hS hf
        rw [List.find?_cons, List.find?_cons]
        rw [List.find?_cons] at hf
        have hs := hS s (by simp)
        have hl : s.length ≤ 2 := (show ∀ s ∈ signs, s.length ≤ 2 by decide) s hs
        match s, hl, hs with
        | [], _, hs => exact absurd hs (by decide)
        | [a], _, hs =>
          have e : ([a] : List UInt8).isPrefixOf (c :: [] ++ z) = ([a] : List UInt8).isPrefixOf (c :: [] ++ y) := by simp [List.isPrefixOf]
          rw [e]
          cases hp : ([a] : List UInt8).isPrefixOf (c :: [] ++ y) with
          | true => rfl
          | false =>
            rw [hp] at hf
            exact ih (fun t ht => hS t (by simp [ht])) hf
        | [a, b], _, hs =>
          rw [hz2 a b hs]
          cases hp : ([a, b] : List UInt8).isPrefixOf (c :: [] ++ y) with
          | true =>
            rw [hp] at hf
            have := hf [a, b] rfl
            simp at this
          | false =>
            rw [hp] at hf
            exact ih (fun t ht => hS t (by simp [ht])) hf
        | a :: b :: e :: r, hl, _ => simp at hl
    exact hy2 signs (fun s h => h) (fun s hs => by simpa using h s hs)

def St.good : St → Prop
  | .bad _ => False
  | _ => True
theorem St.end_shift (s : St) (o : Nat) (h : s.good) : (s.shift o).endX = o + s.endX := by
  cases s with
  | bad e => exact h.elim
  | _ => rfl

theorem step_pos (t : List UInt8) (m fo : Bool) (h : (stepX t m fo).good) : 0 < (stepX t m fo).endX := by
  unfold stepX at h ⊢
  cases hs : spaceX t with
  | some r =>
    unfold spaceX at hs
    by_cases h0 : 0 < tw isSp t
    · rw [if_pos h0] at hs; cases hs; exact h0
    · rw [if_neg h0] at hs; cases hs
  | none =>
    rw [hs] at h
    cases hn : noteX t with
    | some r =>
      unfold noteX at hn
      by_cases h0 : [45, 45].isPrefixOf t = true
      · rw [if_pos h0] at hn; cases hn
        match t, h0 with
        | [], h0 => simp at h0
        | a :: t, h0 =>
          simp at h0
          obtain ⟨ha, -⟩ := h0
          rw [← ha]
          show 0 < tw notLf (45 :: t)
          unfold tw
          rw [List.takeWhile_cons, if_pos (by rfl)]
          simp
      · rw [if_neg h0] at hn; cases hn
    | none =>
      rw [hn] at h
      cases hw : wordX t fo with
      | some r =>
        rw [hw] at h
        unfold wordX at hw
        by_cases h1 : isDg (t.headD 0) = true
        · rw [if_pos h1] at hw; cases hw
        · rw [if_neg h1] at hw
          by_cases h2 : tw inNm t = 0
          · rw [if_pos h2] at hw; cases hw
          · rw [if_neg h2] at hw
            by_cases h3 : t.headD 0 = 95 ∧ 1 < tw inNm t
            · rw [if_pos h3] at hw; cases hw; exact h.elim
            · rw [if_neg h3] at hw
              by_cases h4 : 32 < tw inNm t
              · rw [if_pos h4] at hw; cases hw; exact h.elim
              · rw [if_neg h4] at hw
                by_cases h5 : fo = true
                · rw [if_pos h5] at hw; cases hw; exact h.elim
                · rw [if_neg h5] at hw; cases hw
                  show 0 < tw inNm t
                  omega
      | none =>
        rw [hw] at h
        cases hu : numX t m with
        | some r =>
          rw [hu] at h
          unfold numX at hu
          by_cases h1 : tw isDg (t.drop (digX t m)) = 0
          · rw [if_pos h1] at hu; cases hu
          · rw [if_neg h1] at hu
            by_cases h2 : numOk (t.take (digX t m + tw isDg (t.drop (digX t m)))) = false
            · rw [if_pos h2] at hu; cases hu; exact h.elim
            · rw [if_neg h2] at hu; cases hu
              show 0 < digX t m + tw isDg (t.drop (digX t m))
              omega
        | none =>
          rw [hu] at h
          cases hg : signX t with
          | some r =>
            rw [hg] at h
            unfold signX at hg
            cases hf : signs.find? (fun s => s.isPrefixOf t) with
            | none => rw [hf] at hg; cases hg
            | some s =>
              rw [hf] at hg; cases hg
              have := List.mem_of_find?_eq_some hf
              exact (show ∀ s ∈ signs, 0 < s.length by decide) s this
          | none => rw [hg] at h; exact h.elim

theorem step_fo (t : List UInt8) (m : Bool) (h : (stepX t m true).good) : stepX t m false = stepX t m true := by
  unfold stepX at h ⊢
  cases hs : spaceX t with
  | some r => rfl
  | none =>
    rw [hs] at h
    cases hn : noteX t with
    | some r => rfl
    | none =>
      rw [hn] at h
      have hw : wordX t false = wordX t true := by
        cases hw : wordX t true with
        | some r =>
          rw [hw] at h
          unfold wordX at hw
          by_cases h1 : isDg (t.headD 0) = true
          · rw [if_pos h1] at hw; cases hw
          · rw [if_neg h1] at hw
            by_cases h2 : tw inNm t = 0
            · rw [if_pos h2] at hw; cases hw
            · rw [if_neg h2] at hw
              by_cases h3 : t.headD 0 = 95 ∧ 1 < tw inNm t
              · rw [if_pos h3] at hw; cases hw; exact h.elim
              · rw [if_neg h3] at hw
                by_cases h4 : 32 < tw inNm t
                · rw [if_pos h4] at hw; cases hw; exact h.elim
                · rw [if_neg h4, if_pos rfl] at hw; cases hw; exact h.elim
        | none =>
          unfold wordX at hw ⊢
          by_cases h1 : isDg (t.headD 0) = true
          · rw [if_pos h1]
          · rw [if_neg h1] at hw ⊢
            by_cases h2 : tw inNm t = 0
            · rw [if_pos h2]
            · rw [if_neg h2] at hw
              by_cases h3 : t.headD 0 = 95 ∧ 1 < tw inNm t
              · rw [if_pos h3] at hw; cases hw
              · rw [if_neg h3] at hw
                by_cases h4 : 32 < tw inNm t
                · rw [if_pos h4] at hw; cases hw
                · rw [if_neg h4, if_pos rfl] at hw; cases hw
      rw [hw]

theorem note_cut (x y : List UInt8) (hx : x ≠ []) (h : ∀ r, noteX (x ++ y) = some r → r.endX ≤ x.length) : noteX (x ++ (cl ++ y)) = noteX (x ++ y) := by
  unfold noteX at h ⊢
  match x, hx with
  | [c], _ =>
    have e1 : ([45, 45] : List UInt8).isPrefixOf ([c] ++ (cl ++ y)) = false := by simp [cl, List.isPrefixOf]
    rw [e1]
    by_cases hp : ([45, 45] : List UInt8).isPrefixOf ([c] ++ y) = true
    · have h2 := h _ (if_pos hp)
      exfalso
      match y, hp with
      | [], hp => simp [List.isPrefixOf] at hp
      | d :: y, hp =>
        simp [List.isPrefixOf] at hp
        obtain ⟨rfl, rfl⟩ := hp
        have e : tw notLf ([45] ++ 45 :: y) = 2 + tw notLf y := by
          show tw notLf ([45, 45] ++ y) = _
          rw [tw_app, if_pos (by decide)]; rfl
        rw [e] at h2
        simp [St.endX] at h2
        omega
    · rw [if_neg hp, if_neg (by simp)]
  | c :: d :: x, _ =>
    have e1 : ([45, 45] : List UInt8).isPrefixOf (c :: d :: x ++ (cl ++ y)) = ([45, 45] : List UInt8).isPrefixOf (c :: d :: x ++ y) := by simp [List.isPrefixOf]
    rw [e1]
    by_cases hp : ([45, 45] : List UInt8).isPrefixOf (c :: d :: x ++ y) = true
    · have h2 := h _ (if_pos hp)
      rw [if_pos hp, if_pos hp, tw_cut notLf (c :: d :: x) y _ h2 rfl]
    · rw [if_neg hp, if_neg hp]

theorem head_cut (x y z : List UInt8) (hx : x ≠ []) : (x ++ z).headD 0 = (x ++ y).headD 0 := by
  cases x with
  | nil => exact absurd rfl hx
  | cons a x => rfl

theorem word_cut (x y : List UInt8) (fo : Bool) (hx : x ≠ []) (h : ∀ r, wordX (x ++ y) fo = some r → r.good ∧ r.endX ≤ x.length) : wordX (x ++ (cl ++ y)) fo = wordX (x ++ y) fo := by
  unfold wordX at h ⊢
  rw [head_cut x y (cl ++ y) hx]
  by_cases h1 : isDg ((x ++ y).headD 0) = true
  · rw [if_pos h1, if_pos h1]
  · rw [if_neg h1, if_neg h1]
    simp only [if_neg h1] at h
    by_cases h2 : tw inNm (x ++ y) = 0
    · rw [if_pos h2, if_pos (by rw [tw_cut inNm x y _ (by omega) rfl]; exact h2)]
    · simp only [if_neg h2] at h
      have hle : tw inNm (x ++ y) ≤ x.length := by
        by_cases h3 : (x ++ y).headD 0 = 95 ∧ 1 < tw inNm (x ++ y)
        · exact (h _ (if_pos h3)).1.elim
        · simp only [if_neg h3] at h
          by_cases h4 : 32 < tw inNm (x ++ y)
          · exact (h _ (if_pos h4)).1.elim
          · simp only [if_neg h4] at h
            by_cases h5 : fo = true
            · exact (h _ (if_pos h5)).1.elim
            · exact (h _ (if_neg h5)).2
      rw [tw_cut inNm x y (cl ++ y) hle rfl, take_cut x y (cl ++ y) _ hle]

theorem num_cut (x y : List UInt8) (m : Bool) (hx : x ≠ []) (h : ∀ r, numX (x ++ y) m = some r → r.good ∧ r.endX ≤ x.length) : numX (x ++ (cl ++ y)) m = numX (x ++ y) m := by
  have hd : digX (x ++ (cl ++ y)) m = digX (x ++ y) m := by unfold digX; rw [head_cut x y (cl ++ y) hx]
  have hd1 : digX (x ++ y) m ≤ x.length := by
    have := List.length_pos_iff.2 hx
    unfold digX
    split <;> omega
  unfold numX at h ⊢
  rw [hd]
  generalize digX (x ++ y) m = d at *
  have e : ∀ z : List UInt8, (x ++ z).drop d = x.drop d ++ z := fun z => List.drop_append_of_le_length hd1
  by_cases h1 : tw isDg ((x ++ y).drop d) = 0
  · rw [if_pos h1, if_pos (by
      rw [e] at h1 ⊢
      rw [tw_cut isDg _ y _ (by omega) rfl]; exact h1)]
  · simp only [if_neg h1] at h
    have hle : d + tw isDg ((x ++ y).drop d) ≤ x.length := by
      by_cases h2 : numOk ((x ++ y).take (d + tw isDg ((x ++ y).drop d))) = false
      · exact (h _ (if_pos h2)).1.elim
      · exact (h _ (if_neg h2)).2
    have e2 : tw isDg ((x ++ (cl ++ y)).drop d) = tw isDg ((x ++ y).drop d) := by
      rw [e, e]
      rw [e] at hle
      exact tw_cut isDg _ y _ (by rw [List.length_drop]; omega) rfl
    rw [e2, take_cut x y (cl ++ y) _ hle]

theorem sgn_cut (x y : List UInt8) (hx : x ≠ []) (h : ∀ r, signX (x ++ y) = some r → r.endX ≤ x.length) : signX (x ++ (cl ++ y)) = signX (x ++ y) := by
  unfold signX at h ⊢
  match x, hx with
  | c :: x, _ =>
    rw [sign_cut c x y (cl ++ y) (Or.inr ⟨_, rfl⟩) (fun s hs => by rw [hs] at h; exact h _ rfl)]

/-- A step that ends within x is the same when the comment line stands behind x; white space that ends there goes on. -/
theorem step_cut (x y : List UInt8) (hx : x ≠ []) (m fo : Bool) (hg : (stepX (x ++ y) m fo).good) (he : (stepX (x ++ y) m fo).endX ≤ x.length) :
    stepX (x ++ (cl ++ y)) m fo = stepX (x ++ y) m fo ∨ (stepX (x ++ y) m fo = .sp x.length ∧ stepX (x ++ (cl ++ y)) m fo = .sp (x.length + 2)) := by
  have hcl : tw isSp (cl ++ y) = 2 := rfl
  have hxl := List.length_pos_iff.2 hx
  by_cases h0 : 0 < tw isSp (x ++ y)
  · have e1 : stepX (x ++ y) m fo = .sp (tw isSp (x ++ y)) := by unfold stepX spaceX; rw [if_pos h0]
    have hle : tw isSp (x ++ y) ≤ x.length := by rw [e1] at he; exact he
    by_cases hall : ∀ c ∈ x, isSp c = true
    · have e2 : tw isSp (x ++ (cl ++ y)) = x.length + 2 := by rw [tw_app, if_pos hall, hcl]
      have e3 : tw isSp (x ++ y) = x.length := by
        have := tw_app isSp x y
        rw [if_pos hall] at this
        omega
      refine .inr ⟨by rw [e1, e3], ?_⟩
      unfold stepX spaceX
      rw [e2, if_pos (by omega)]
    · have e2 : tw isSp (x ++ (cl ++ y)) = tw isSp (x ++ y) := by rw [tw_app, if_neg hall, tw_app, if_neg hall]
      refine .inl ?_
      rw [e1]
      unfold stepX spaceX
      rw [e2, if_pos h0]
  · have hall : ¬ ∀ c ∈ x, isSp c = true := fun hall => by
      have := tw_app isSp x y
      rw [if_pos hall] at this
      omega
    have e2 : tw isSp (x ++ (cl ++ y)) = tw isSp (x ++ y) := by rw [tw_app, if_neg hall, tw_app, if_neg hall]
    have s1 : spaceX (x ++ y) = none := by unfold spaceX; rw [if_neg h0]
    have s2 : spaceX (x ++ (cl ++ y)) = none := by unfold spaceX; rw [e2, if_neg h0]
    refine .inl ?_
    unfold stepX at hg he ⊢
    rw [s1] at hg he ⊢
    rw [s2]
    dsimp only at hg he ⊢
    cases hn : noteX (x ++ y) with
    | some r =>
      rw [hn] at hg he
      rw [note_cut x y hx (fun r' hr => by rw [hn] at hr; cases hr; exact he), hn]
    | none =>
      rw [hn] at hg he
      rw [note_cut x y hx (fun r' hr => by rw [hn] at hr; cases hr), hn]
      dsimp only at hg he ⊢
      cases hw : wordX (x ++ y) fo with
      | some r =>
        rw [hw] at hg he
        rw [word_cut x y fo hx (fun r' hr => by rw [hw] at hr; cases hr; exact ⟨hg, he⟩), hw]
      | none =>
        rw [hw] at hg he
        rw [word_cut x y fo hx (fun r' hr => by rw [hw] at hr; cases hr), hw]
        dsimp only at hg he ⊢
        cases hu : numX (x ++ y) m with
        | some r =>
          rw [hu] at hg he
          rw [num_cut x y m hx (fun r' hr => by rw [hu] at hr; cases hr; exact ⟨hg, he⟩), hu]
        | none =>
          rw [hu] at hg he
          rw [num_cut x y m hx (fun r' hr => by rw [hu] at hr; cases hr), hu]
          dsimp only at hg he ⊢
          cases hs : signX (x ++ y) with
          | some r =>
            rw [hs] at hg he
            rw [sgn_cut x y hx (fun r' hr => by rw [hs] at hr; cases hr; exact he), hs]
          | none =>
            rw [hs] at hg he
            exact hg.elim

end Go.Proofs.YtpoddcegfhgdeaaDoor.Tk
