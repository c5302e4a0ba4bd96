/- The mathematics of the law TokenBack: tokens with a space between them are scanned as these tokens. -/
import Derived.Test.YtpoddcegfhgdeaaDoorYG
import Derived.Test.YtpoddcegfhgdeaaDoorYN
import Derived.Test.YtpoddcegfhgdeaaDoorYO
set_option linter.unusedVariables false
set_option linter.unusedSimpArgs false
namespace Go.Proofs.YtpoddcegfhgdeaaDoor.Tk

/-- What may stand behind a token. -/
def Sep (z : List UInt8) : Prop := z = [] ∨ ∃ r, z = 32 :: r
theorem Sep.tw {z : List UInt8} (h : Sep z) (p : UInt8 → Bool) (hp : p 32 = false) : tw p z = 0 := by
  rcases h with rfl | ⟨r, rfl⟩
  · rfl
  · unfold Tk.tw
    rw [List.takeWhile_cons, if_neg (by rw [hp]; simp)]
    rfl

/-- The first sign that a text begins with, cut: behind it stands no part of a longer sign. -/
theorem sign_sep (c : UInt8) (x y z : List UInt8) (hz : Sep z) (h : ∀ s, signs.find? (fun s => s.isPrefixOf (c :: x ++ y)) = some s → s.length ≤ (c :: x).length) :
    signs.find? (fun s => s.isPrefixOf (c :: x ++ z)) = signs.find? (fun s => s.isPrefixOf (c :: x ++ y)) := by
  cases x with
  | cons d x =>
    have e : ∀ s ∈ signs, s.isPrefixOf (c :: d :: x ++ z) = s.isPrefixOf (c :: d :: x ++ y) := by
      intro s hs
      have hl : s.length ≤ 2 := (show ∀ s ∈ signs, s.length ≤ 2 by decide) s hs
      match s, hl with
      | [], _ => rfl
      | [a], _ => simp [List.isPrefixOf]
      | [a, b], _ => simp [List.isPrefixOf]
      | a :: b :: e :: r, hl => simp at hl
    have : ∀ (S : List (List UInt8)), (∀ s ∈ S, s.isPrefixOf (c :: d :: x ++ z) = s.isPrefixOf (c :: d :: x ++ y)) → S.find? (fun s => s.isPrefixOf (c :: d :: x ++ z)) = S.find? (fun s => s.isPrefixOf (c :: d :: x ++ y)) := by
      intro S hS
      induction S with
      | nil => rfl
      | cons s S ih =>
        rw [List.find?_cons, List.find?_cons, hS s (by simp), ih (fun t ht => hS t (by simp [ht]))]
    exact this signs e
  | nil =>
    have two : ∀ a b, ([a, b] : List UInt8) ∈ signs → b ≠ 32 := by
      intro a b hm
      simp [signs] at hm
      rcases hm with ⟨_, rfl⟩ | ⟨_, rfl⟩ | ⟨_, rfl⟩ <;> decide
    have hz2 : ∀ a b, ([a, b] : List UInt8) ∈ signs → ([a, b] : List UInt8).isPrefixOf (c :: [] ++ z) = false := by
      intro a b hm
      rcases hz with rfl | ⟨r, rfl⟩
      · simp [List.isPrefixOf]
      · have := two a b hm
        simp [List.isPrefixOf]
        intro _
        exact this
    have hy2 : ∀ (S : List (List UInt8)), (∀ s ∈ S, s ∈ signs) → (∀ s, S.find? (fun s => s.isPrefixOf (c :: [] ++ y)) = some s → s.length ≤ 1) → S.find? (fun s => s.isPrefixOf (c :: [] ++ z)) = S.find? (fun s => s.isPrefixOf (c :: [] ++ y)) := by
      intro S
      induction S with
      | nil => intro _ _; rfl
      | cons s S ih =>
        intro hS hf
        rw [List.find?_cons, List.find?_cons]
        rw [List.find?_cons] at hf
        have hs := hS s (by simp)
        have hl : s.length ≤ 2 := (show ∀ s ∈ signs, s.length ≤ 2 by decide) s hs
        match s, hl, hs with
        | [], _, hs => exact absurd hs (by decide)
        | [a], _, hs =>
          have e : ([a] : List UInt8).isPrefixOf (c :: [] ++ z) = ([a] : List UInt8).isPrefixOf (c :: [] ++ y) := by simp [List.isPrefixOf]
          rw [e]
          cases hp : ([a] : List UInt8).isPrefixOf (c :: [] ++ y) with
          | true => rfl
          | false =>
            rw [hp] at hf
            exact ih (fun t ht => hS t (by simp [ht])) hf
        | [a, b], _, hs =>
          rw [hz2 a b hs]
          cases hp : ([a, b] : List UInt8).isPrefixOf (c :: [] ++ y) with
          | true =>
            rw [hp] at hf
            have := hf [a, b] rfl
            simp at this
          | false =>
            rw [hp] at hf
            exact ih (fun t ht => hS t (by simp [ht])) hf
        | a :: b :: e :: r, hl, _ => simp at hl
    exact hy2 signs (fun s h => h) (fun s hs => by simpa using h s hs)

theorem word_sep (x y z : List UInt8) (hz : Sep z) (fo : Bool) (hx : x ≠ []) (h : ∀ r, wordX (x ++ y) fo = some r → r.good ∧ r.endX ≤ x.length) : wordX (x ++ z) fo = wordX (x ++ y) fo := by
  unfold wordX at h ⊢
  rw [head_cut x y z hx]
  by_cases h1 : isDg ((x ++ y).headD 0) = true
  · rw [if_pos h1, if_pos h1]
  · rw [if_neg h1, if_neg h1]
    simp only [if_neg h1] at h
    by_cases h2 : tw inNm (x ++ y) = 0
    · rw [if_pos h2, if_pos (by rw [tw_cut inNm x y _ (by omega) (hz.tw inNm rfl)]; exact h2)]
    · simp only [if_neg h2] at h
      have hle : tw inNm (x ++ y) ≤ x.length := by
        by_cases h3 : (x ++ y).headD 0 = 95 ∧ 1 < tw inNm (x ++ y)
        · exact (h _ (if_pos h3)).1.elim
        · simp only [if_neg h3] at h
          by_cases h4 : 32 < tw inNm (x ++ y)
          · exact (h _ (if_pos h4)).1.elim
          · simp only [if_neg h4] at h
            by_cases h5 : fo = true
            · exact (h _ (if_pos h5)).1.elim
            · exact (h _ (if_neg h5)).2
      rw [tw_cut inNm x y z hle (hz.tw inNm rfl), take_cut x y z _ hle]

theorem num_sep (x y z : List UInt8) (hz : Sep z) (m : Bool) (hx : x ≠ []) (h : ∀ r, numX (x ++ y) m = some r → r.good ∧ r.endX ≤ x.length) : numX (x ++ z) m = numX (x ++ y) m := by
  have hd : digX (x ++ z) m = digX (x ++ y) m := by unfold digX; rw [head_cut x y z hx]
  have hd1 : digX (x ++ y) m ≤ x.length := by
    have := List.length_pos_iff.2 hx
    unfold digX
    split <;> omega
  unfold numX at h ⊢
  rw [hd]
  generalize digX (x ++ y) m = d at *
  have e : ∀ z : List UInt8, (x ++ z).drop d = x.drop d ++ z := fun z => List.drop_append_of_le_length hd1
  by_cases h1 : tw isDg ((x ++ y).drop d) = 0
  · rw [if_pos h1, if_pos (by
      rw [e] at h1 ⊢
      rw [tw_cut isDg _ y _ (by omega) (hz.tw isDg rfl)]; exact h1)]
  · simp only [if_neg h1] at h
    have hle : d + tw isDg ((x ++ y).drop d) ≤ x.length := by
      by_cases h2 : numOk ((x ++ y).take (d + tw isDg ((x ++ y).drop d))) = false
      · exact (h _ (if_pos h2)).1.elim
      · exact (h _ (if_neg h2)).2
    have e2 : tw isDg ((x ++ z).drop d) = tw isDg ((x ++ y).drop d) := by
      rw [e, e]
      rw [e] at hle
      exact tw_cut isDg _ y _ (by rw [List.length_drop]; omega) (hz.tw isDg rfl)
    rw [e2, take_cut x y z _ hle]

theorem sgn_sep (x y z : List UInt8) (hz : Sep z) (hx : x ≠ []) (h : ∀ r, signX (x ++ y) = some r → r.endX ≤ x.length) : signX (x ++ z) = signX (x ++ y) := by
  unfold signX at h ⊢
  match x, hx with
  | c :: x, _ =>
    rw [sign_sep c x y z hz (fun s hs => by rw [hs] at h; exact h _ rfl)]


theorem step_sep (x y z : List UInt8) (hz : Sep z) (hx : x ≠ []) (m fo : Bool) (k : Nat) (h : stepX (x ++ y) m fo = .tok k x.length) : stepX (x ++ z) m fo = .tok k x.length := by
  have hxl := List.length_pos_iff.2 hx
  by_cases h0 : 0 < tw isSp (x ++ y)
  · exfalso
    unfold stepX spaceX at h
    rw [if_pos h0] at h
    cases h
  · have hall : ¬ ∀ c ∈ x, isSp c = true := fun hall => by
      have := tw_app isSp x y
      rw [if_pos hall] at this
      omega
    have e2 : tw isSp (x ++ z) = tw isSp (x ++ y) := by rw [tw_app, if_neg hall, tw_app, if_neg hall]
    have s1 : spaceX (x ++ y) = none := by unfold spaceX; rw [if_neg h0]
    have s2 : spaceX (x ++ z) = none := by unfold spaceX; rw [e2, if_neg h0]
    unfold stepX at h ⊢
    rw [s1] at h
    rw [s2]
    dsimp only at h ⊢
    cases hn : noteX (x ++ y) with
    | some r =>
      exfalso
      rw [hn] at h
      unfold noteX at hn
      split at hn
      · cases hn; cases h
      · cases hn
    | none =>
      rw [hn] at h
      have hn2 : noteX (x ++ z) = none := by
        unfold noteX at hn ⊢
        have hp : ([45, 45] : List UInt8).isPrefixOf (x ++ y) = false := by
          cases hp : ([45, 45] : List UInt8).isPrefixOf (x ++ y) with
          | false => rfl
          | true => rw [if_pos hp] at hn; cases hn
        have hp2 : ([45, 45] : List UInt8).isPrefixOf (x ++ z) = false := by
          match x, hx with
          | [c], _ =>
            rcases hz with rfl | ⟨r, rfl⟩
            · simp [List.isPrefixOf]
            · simp [List.isPrefixOf]
          | c :: d :: x, _ => rw [← hp]; simp [List.isPrefixOf]
        rw [if_neg (by rw [hp2]; simp)]
      rw [hn2]
      dsimp only at h ⊢
      cases hw : wordX (x ++ y) fo with
      | some r =>
        rw [hw] at h
        rw [word_sep x y z hz fo hx (fun r' hr => by rw [hw] at hr; cases hr; dsimp only at h; rw [h]; exact ⟨trivial, Nat.le_refl _⟩), hw]
        exact h
      | none =>
        rw [hw] at h
        rw [word_sep x y z hz fo hx (fun r' hr => by rw [hw] at hr; cases hr), hw]
        dsimp only at h ⊢
        cases hu : numX (x ++ y) m with
        | some r =>
          rw [hu] at h
          rw [num_sep x y z hz m hx (fun r' hr => by rw [hu] at hr; cases hr; dsimp only at h; rw [h]; exact ⟨trivial, Nat.le_refl _⟩), hu]
          exact h
        | none =>
          rw [hu] at h
          rw [num_sep x y z hz m hx (fun r' hr => by rw [hu] at hr; cases hr), hu]
          dsimp only at h ⊢
          cases hs : signX (x ++ y) with
          | some r =>
            rw [hs] at h
            rw [sgn_sep x y z hz hx (fun r' hr => by rw [hs] at hr; cases hr; dsimp only at h; rw [h]; exact Nat.le_refl _), hs]
            exact h
          | none =>
            rw [hs] at h
            cases h

theorem step_back (x y z : List UInt8) (hz : Sep z) (hx : x ≠ []) (m fo : Bool) (k : Nat) (h : stepX (x ++ y) m fo = .tok k x.length) : stepX (x ++ z) m false = .tok k x.length := by
  have h1 := step_sep x y z hz hx m fo k h
  cases fo with
  | false => exact h1
  | true => rw [step_fo _ _ (by rw [h1]; exact trivial), h1]

/-- The kind and the text of a token. -/
abbrev KT := Nat × List UInt8
def pr (l : List UInt8) (t : Tok) : KT := (t.1, ext l t.2.1 t.2.2)
def may1 : Option KT → Bool
  | none => true
  | some p => mayK p.1 p.2
theorem may_pr (l : List UInt8) (ts : List Tok) : mayS l ts = may1 (ts.getLast?.map (pr l)) := by
  unfold mayS
  cases ts.getLast? <;> rfl

/-- Each of these texts is a token, whatever may stand behind it. -/
def Chain : Option KT → List KT → Prop
  | _, [] => True
  | p, q :: r => (q.2 ≠ [] ∧ (∀ b ∈ q.2, okB b = true) ∧ ∀ z, Sep z → stepX (q.2 ++ z) (may1 p) false = .tok q.1 q.2.length) ∧ Chain (some q) r

/-- The texts, with a space before each. -/
def jt : List KT → List UInt8
  | [] => []
  | q :: r => 32 :: (q.2 ++ jt r)
/-- The texts, with a space between each two. -/
def jn : List KT → List UInt8
  | [] => []
  | q :: r => q.2 ++ jt r
theorem sep_jt (X : List KT) : Sep (jt X) := by
  cases X with
  | nil => exact .inl rfl
  | cons q r => exact .inr ⟨_, rfl⟩

/-- A scan's tokens are such a chain, and the End. -/
theorem scan_chain (l : List UInt8) (hok : ∀ b ∈ l, okB b = true) : ∀ (f o : Nat) (ts : List Tok) (ns : List (Nat × Nat)) (T : List Tok) (N : List (Nat × Nat)), o ≤ l.length → scanL l f o ts ns = .inr (T, N) →
    ∃ R, T = ts ++ R ++ [(6, l.length, l.length)] ∧ Chain (ts.getLast?.map (pr l)) (R.map (pr l)) ∧ (jt (R.map (pr l))).length ≤ 2 * (l.length - o) ∧ ∀ t ∈ R, t.1 ≠ 6
  | 0, o, ts, ns, T, N, _, h => by cases h
  | f + 1, o, ts, ns, T, N, ho, h => by
    by_cases hlt : o < l.length
    · have hg := good_step l ts o hlt
      have hs := step_shift l ts o
      rw [scanL, if_pos hlt] at h
      cases hst : stepF l ts o with
      | bad e => rw [hst] at h; cases h
      | sp b =>
        rw [hst] at h hg
        obtain ⟨R, h1, h2, h3, h4⟩ := scan_chain l hok f b ts ns T N hg.2 h
        have := hg.1
        exact ⟨R, h1, h2, by omega, h4⟩
      | note b =>
        rw [hst] at h hg
        obtain ⟨R, h1, h2, h3, h4⟩ := scan_chain l hok f b ts _ T N hg.2 h
        have := hg.1
        exact ⟨R, h1, h2, by omega, h4⟩
      | tok k b =>
        rw [hst] at h hg hs
        obtain ⟨R, h1, h2, h3, h4⟩ := scan_chain l hok f b _ ns T N hg.2 h
        have hg1 := hg.1
        have hg2 : b ≤ l.length := hg.2
        obtain ⟨c, rfl⟩ := Nat.exists_eq_add_of_le (Nat.le_of_lt hg1)
        have hc : 0 < c := by omega
        have hx : (ext l o (o + c)).length = c := by rw [ext_tw, List.length_take, List.length_drop]; omega
        have hsx : stepX (l.drop o) (mayS l ts) (fol ts o) = .tok k c := by
          revert hs
          cases stepX (l.drop o) (mayS l ts) (fol ts o) with
          | bad e => intro hs; cases hs
          | sp b => intro hs; cases hs
          | note b => intro hs; cases hs
          | tok k' b' =>
            intro hs
            simp only [St.shift, St.tok.injEq] at hs
            obtain ⟨rfl, hs⟩ := hs
            rw [show c = b' by omega]
        have hk6 : k ≠ 6 := by
          intro e
          subst e
          unfold stepX at hsx
          revert hsx
          cases hq : spaceX (l.drop o) with
          | some r => unfold spaceX at hq; split at hq <;> cases hq; intro h; cases h
          | none =>
            cases hq : noteX (l.drop o) with
            | some r => unfold noteX at hq; split at hq <;> cases hq; intro h; cases h
            | none =>
              cases hq : wordX (l.drop o) (fol ts o) with
              | some r =>
                intro h
                dsimp only at h
                subst h
                unfold wordX at hq
                repeat' split at hq
                all_goals (try cases hq)
                simp only [Option.some.injEq, St.tok.injEq] at hq
                have := hq.1
                unfold wordKind at this
                repeat' split at this
                all_goals cases this
              | none =>
                cases hq : numX (l.drop o) (mayS l ts) with
                | some r =>
                  intro h
                  dsimp only at h
                  subst h
                  unfold numX at hq
                  repeat' split at hq
                  all_goals cases hq
                | none =>
                  cases hq : signX (l.drop o) with
                  | some r =>
                    intro h
                    dsimp only at h
                    subst h
                    unfold signX at hq
                    split at hq <;> cases hq
                  | none => intro h; cases h
        refine ⟨(k, o, o + c) :: R, by rw [h1]; simp, ?_, ?_, ?_⟩
        · refine ⟨⟨?_, ?_, ?_⟩, ?_⟩
          · intro e
            have e' : ext l o (o + c) = [] := e
            rw [e'] at hx; simp at hx; omega
          · intro b hb
            exact hok b (List.mem_of_mem_drop (List.mem_of_mem_take hb))
          · intro z hz
            have hne : ext l o (o + c) ≠ [] := fun e => by rw [e] at hx; simp at hx; omega
            have hsp : l.drop o = ext l o (o + c) ++ l.drop (o + c) := by rw [ext_tw, ← List.drop_drop, List.take_append_drop]
            rw [← may_pr]
            have := step_back (ext l o (o + c)) (l.drop (o + c)) z hz hne (mayS l ts) (fol ts o) k (by rw [← hsp, hsx, hx])
            exact this
          · have : (ts ++ [(k, o, o + c)]).getLast?.map (pr l) = some (pr l (k, o, o + c)) := by simp
            rw [this] at h2
            exact h2
        · show (32 :: (ext l o (o + c) ++ jt (R.map (pr l)))).length ≤ _
          rw [List.length_cons, List.length_append, hx]
          omega
        · intro t ht
          rcases List.mem_cons.1 ht with rfl | ht
          · exact hk6
          · exact h4 t ht
    · rw [scanL, if_neg hlt] at h
      cases h
      have : o = l.length := by omega
      subst this
      exact ⟨[], by simp, trivial, Nat.zero_le _, fun t ht => by cases ht⟩

theorem ext_mid (pre x z : List UInt8) : ext (pre ++ (x ++ z)) pre.length (pre.length + x.length) = x := by
  rw [ext_tw, List.drop_left, List.take_left]

/-- Behind a token, or at the end: the chain is scanned as it stands. -/
theorem chain_scan : ∀ (X : List KT) (p : Option KT) (pre : List UInt8) (ts : List Tok), Chain p X → (∀ z, mayS (pre ++ z) ts = may1 p) → (∀ t ∈ ts, t.2.2 ≤ pre.length) →
    ∃ R, scanL (pre ++ jt X) (2 * X.length + 1) pre.length ts [] = .inr (ts ++ R ++ [(6, (pre ++ jt X).length, (pre ++ jt X).length)], []) ∧ R.map (pr (pre ++ jt X)) = X
  | [], p, pre, ts, _, _, _ => by
    refine ⟨[], ?_, rfl⟩
    rw [scanL, if_neg (by simp [jt])]
    simp [jt]
  | q :: X, p, pre, ts, hC, hm, hts => by
    obtain ⟨⟨hne, hok, hst⟩, hC2⟩ := hC
    have hst2 := hst (jt X) (sep_jt X)
    have hq := List.length_pos_iff.2 hne
    have hlen : (pre ++ jt (q :: X)).length = pre.length + (1 + (q.2.length + (jt X).length)) := by
      rw [List.length_append]
      show _ + (32 :: (q.2 ++ jt X)).length = _
      rw [List.length_cons, List.length_append]; omega
    have hsp : tw isSp (q.2 ++ jt X) = 0 := by
      rcases Nat.eq_zero_or_pos (tw isSp (q.2 ++ jt X)) with h0 | h0
      · exact h0
      · exfalso
        unfold stepX spaceX at hst2
        rw [if_pos h0] at hst2
        cases hst2
    have hs1 : ∀ m fo, stepX (jt (q :: X)) m fo = .sp 1 := by
      intro m fo
      have e : tw isSp (jt (q :: X)) = 1 := by
        have := tw_app isSp [32] (q.2 ++ jt X)
        rw [if_pos (by decide), hsp] at this
        exact this
      unfold stepX spaceX
      rw [e, if_pos (by omega)]
    have hJ : pre ++ jt (q :: X) = (pre ++ 32 :: q.2) ++ jt X := by
      show pre ++ 32 :: (q.2 ++ jt X) = _
      simp
    have hpl : (pre ++ 32 :: q.2).length = pre.length + 1 + q.2.length := by simp; omega
    have hext : ∀ z, ext ((pre ++ 32 :: q.2) ++ z) (pre.length + 1) (pre.length + 1 + q.2.length) = q.2 := by
      intro z
      have := ext_mid (pre ++ [32]) q.2 z
      simp only [List.length_append, List.length_cons, List.length_nil] at this
      have e : (pre ++ 32 :: q.2) ++ z = pre ++ [32] ++ (q.2 ++ z) := by simp
      rw [e]
      exact this
    have hm2 : ∀ z, mayS ((pre ++ 32 :: q.2) ++ z) (ts ++ [(q.1, pre.length + 1, pre.length + 1 + q.2.length)]) = may1 (some q) := by
      intro z
      unfold mayS
      rw [List.getLast?_concat]
      show mayK q.1 (ext _ _ _) = mayK q.1 q.2
      rw [hext]
    obtain ⟨R, h1, h2⟩ := chain_scan X (some q) (pre ++ 32 :: q.2) (ts ++ [(q.1, pre.length + 1, pre.length + 1 + q.2.length)]) hC2 hm2 (by
      intro t ht
      rw [hpl]
      rcases List.mem_append.1 ht with ht | ht
      · have := hts t ht; omega
      · rw [List.mem_singleton.1 ht]; exact Nat.le_refl _)
    rw [hpl, ← hJ] at h1
    rw [← hJ] at h2
    refine ⟨(q.1, pre.length + 1, pre.length + 1 + q.2.length) :: R, ?_, ?_⟩
    · rw [show 2 * (q :: X).length + 1 = (2 * X.length + 1) + 1 + 1 by rw [List.length_cons]; omega]
      rw [scanL, if_pos (by rw [hlen]; omega), step_shift, List.drop_left, hs1]
      show scanL (pre ++ jt (q :: X)) (2 * X.length + 1 + 1) (pre.length + 1) ts [] = _
      rw [scanL, if_pos (by rw [hlen]; omega), step_shift]
      have hd : (pre ++ jt (q :: X)).drop (pre.length + 1) = q.2 ++ jt X := by
        rw [← List.drop_drop, List.drop_left]; rfl
      have hf : fol ts (pre.length + 1) = false := by
        unfold fol
        cases ht : ts.getLast? with
        | none => rfl
        | some t =>
          have := hts t (List.mem_of_getLast? ht)
          have e : (t.2.2 == pre.length + 1) = false := by rw [beq_eq_false_iff_ne]; omega
          dsimp only
          rw [e, Bool.and_false]
      rw [hd, hf, hm, hst2]
      show scanL (pre ++ jt (q :: X)) (2 * X.length + 1) (pre.length + 1 + q.2.length) (ts ++ [(q.1, pre.length + 1, pre.length + 1 + q.2.length)]) [] = _
      rw [h1]
      simp
    · rw [List.map_cons, h2]
      congr 1
      unfold pr
      dsimp only
      rw [hJ, hext]

theorem jt_len (p : Option KT) (X : List KT) (h : Chain p X) : 2 * X.length ≤ (jt X).length := by
  induction X generalizing p with
  | nil => exact Nat.le_refl _
  | cons q r ih =>
    have := ih _ h.2
    have h1 := List.length_pos_iff.2 h.1.1
    show 2 * (r.length + 1) ≤ (32 :: (q.2 ++ jt r)).length
    rw [List.length_cons, List.length_append]
    omega
theorem jt_ok (p : Option KT) (X : List KT) (h : Chain p X) : ∀ b ∈ jt X, okB b = true := by
  induction X generalizing p with
  | nil => intro b hb; cases hb
  | cons q r ih =>
    intro b hb
    rcases List.mem_cons.1 hb with rfl | hb
    · rfl
    · rcases List.mem_append.1 hb with hb | hb
      · exact h.1.2.1 b hb
      · exact ih _ h.2 b hb

/-- The joined texts of a scan's tokens are scanned as these tokens. -/
theorem scan_back (l : List UInt8) (hl : l.length ≤ 1000) (T : List Tok) (N : List (Nat × Nat)) (h : scanF l = .inr (T, N)) :
    ∃ R, T = R ++ [(6, l.length, l.length)] ∧ (∀ t ∈ R, t.1 ≠ 6) ∧ R.length ≤ 1000 ∧ (jn (R.map (pr l))).length ≤ 2000 ∧ ∃ R2, scanF (jn (R.map (pr l))) = .inr (R2 ++ [(6, (jn (R.map (pr l))).length, (jn (R.map (pr l))).length)], []) ∧ R2.map (pr (jn (R.map (pr l)))) = R.map (pr l) := by
  unfold scanF at h
  rw [if_neg (by omega)] at h
  cases hf : l.findIdx? (fun b => !okB b) with
  | some i => rw [hf] at h; cases h
  | none =>
    rw [hf] at h
    have hb : ∀ b ∈ l, okB b = true := by
      intro b hb
      have := List.findIdx?_eq_none_iff.1 hf b hb
      simpa using this
    obtain ⟨R, h1, h2, h3, h4⟩ := scan_chain l hb _ 0 [] [] T N (Nat.zero_le _) h
    refine ⟨R, by rw [h1]; rfl, h4, by have := jt_len _ _ h2; rw [List.length_map] at this; omega, ?_⟩
    generalize R.map (pr l) = X at h2 h3
    have h2' : Chain none X := h2
    have hJl : (jn X).length ≤ 2000 ∧ 2 * X.length ≤ (jn X).length + 1 ∧ ∀ b ∈ jn X, okB b = true := by
      cases X with
      | nil => exact ⟨Nat.zero_le _, by simp, fun b hb => by cases hb⟩
      | cons q r =>
        have e1 := jt_len _ _ h2'
        have e2 := jt_ok _ _ h2'
        have e3 : (jt (q :: r)).length = (jn (q :: r)).length + 1 := rfl
        exact ⟨by omega, by omega, fun b hb => e2 b (List.mem_cons_of_mem _ hb)⟩
    refine ⟨hJl.1, ?_⟩
    unfold scanF
    rw [if_neg (by omega)]
    have hf' : (jn X).findIdx? (fun b => !okB b) = none := by
      rw [List.findIdx?_eq_none_iff]
      intro b hm
      rw [hJl.2.2 b hm]; rfl
    rw [hf']
    cases X with
    | nil => exact ⟨[], rfl, rfl⟩
    | cons q r =>
      obtain ⟨⟨hne, hok, hst⟩, hC2⟩ := h2'
      have hst2 := hst (jt r) (sep_jt r)
      have hq := List.length_pos_iff.2 hne
      have hext : ∀ z, ext (q.2 ++ z) 0 q.2.length = q.2 := by
        intro z
        have := ext_mid [] q.2 z
        simpa using this
      obtain ⟨R2, g1, g2⟩ := chain_scan r (some q) q.2 [(q.1, 0, q.2.length)] hC2 (by
        intro z
        show mayK q.1 (ext (q.2 ++ z) 0 q.2.length) = mayK q.1 q.2
        rw [hext]) (by intro t ht; rw [List.mem_singleton.1 ht]; exact Nat.le_refl _)
      have hlen : (jn (q :: r)).length = q.2.length + (jt r).length := List.length_append
      have g3 : scanL (jn (q :: r)) (2 * r.length + 1 + 1) 0 [] [] = .inr ((q.1, 0, q.2.length) :: R2 ++ [(6, (jn (q :: r)).length, (jn (q :: r)).length)], []) := by
        rw [scanL, if_pos (by rw [hlen]; omega), step_shift, List.drop_zero]
        have e : stepX (jn (q :: r)) (mayS (jn (q :: r)) []) (fol [] 0) = .tok q.1 q.2.length := hst2
        rw [e]
        show scanL (jn (q :: r)) (2 * r.length + 1) (0 + q.2.length) ([] ++ [(q.1, 0, 0 + q.2.length)]) [] = _
        rw [Nat.zero_add]
        exact g1
      refine ⟨(q.1, 0, q.2.length) :: R2, ?_, ?_⟩
      · exact scan_more _ _ _ _ _ _ _ (by have := hJl.2.1; rw [List.length_cons] at this; omega) g3
      · rw [List.map_cons]
        have e2 : R2.map (pr (jn (q :: r))) = r := g2
        rw [e2]
        congr 1
        unfold pr
        dsimp only
        have := hext (jt r)
        rw [show jn (q :: r) = q.2 ++ jt r from rfl, this]

end Go.Proofs.YtpoddcegfhgdeaaDoor.Tk
