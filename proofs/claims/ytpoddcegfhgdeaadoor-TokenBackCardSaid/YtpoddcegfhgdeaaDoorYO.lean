/- The mathematics of the law TokenSpaces: the scan with a comment line before a token. -/
import Derived.Test.YtpoddcegfhgdeaaDoorYN
set_option linter.unusedVariables false
set_option linter.unusedSimpArgs false
namespace Go.Proofs.YtpoddcegfhgdeaaDoor.Tk

theorem step_gt (l : List UInt8) (ts : List Tok) (o : Nat) (h : (stepF l ts o).good) : o < (stepF l ts o).endX := by
  rw [step_shift] at h ⊢
  have hg : (stepX (l.drop o) (mayS l ts) (fol ts o)).good := by
    revert h
    cases stepX (l.drop o) (mayS l ts) (fol ts o) <;> exact id
  rw [St.end_shift _ _ hg]
  have := step_pos _ _ _ hg
  omega

theorem scan_ext (l : List UInt8) : ∀ (f o : Nat) (ts : List Tok) (ns : List (Nat × Nat)) (T : List Tok) (N : List (Nat × Nat)), scanL l f o ts ns = .inr (T, N) → ∃ R, T = ts ++ R ∧ ∀ t ∈ R, o ≤ t.2.1
  | 0, o, ts, ns, T, N, h => by cases h
  | f + 1, o, ts, ns, T, N, h => by
    rw [scanL] at h
    by_cases ho : o < l.length
    · rw [if_pos ho] at h
      have hg := step_gt l ts o
      revert h hg
      cases stepF l ts o with
      | bad e => intro h _; cases h
      | sp b =>
        intro h hg
        obtain ⟨R, h1, h2⟩ := scan_ext l f b ts ns T N h
        have hb : o < b := hg trivial
        exact ⟨R, h1, fun t ht => by have := h2 t ht; omega⟩
      | note b =>
        intro h hg
        obtain ⟨R, h1, h2⟩ := scan_ext l f b _ _ T N h
        have hb : o < b := hg trivial
        exact ⟨R, h1, fun t ht => by have := h2 t ht; omega⟩
      | tok k b =>
        intro h hg
        obtain ⟨R, h1, h2⟩ := scan_ext l f b _ _ T N h
        have hb : o < b := hg trivial
        refine ⟨(k, o, b) :: R, by rw [h1]; simp, ?_⟩
        intro t ht
        rcases List.mem_cons.1 ht with rfl | ht
        · exact Nat.le_refl _
        · have := h2 t ht; omega
    · rw [if_neg ho] at h
      cases h
      exact ⟨[(6, o, o)], rfl, fun t ht => by rw [List.mem_singleton.1 ht]; exact Nat.le_refl _⟩

theorem scan_fuel (l : List UInt8) : ∀ (f o : Nat) (ts : List Tok) (ns : List (Nat × Nat)) (r : List Tok × List (Nat × Nat)), scanL l f o ts ns = .inr r → scanL l (f + 1) o ts ns = .inr r
  | 0, o, ts, ns, r, h => by cases h
  | f + 1, o, ts, ns, r, h => by
    rw [scanL] at h ⊢
    by_cases ho : o < l.length
    · rw [if_pos ho] at h ⊢
      revert h
      cases stepF l ts o with
      | bad e => intro h; cases h
      | sp b => exact fun h => scan_fuel l f b ts ns r h
      | note b => exact fun h => scan_fuel l f b _ _ r h
      | tok k b => exact fun h => scan_fuel l f b _ _ r h
    · rw [if_neg ho] at h ⊢
      exact h
theorem scan_more (l : List UInt8) (f g o : Nat) (ts : List Tok) (ns : List (Nat × Nat)) (r : List Tok × List (Nat × Nat)) (hg : f ≤ g) (h : scanL l f o ts ns = .inr r) : scanL l g o ts ns = .inr r := by
  induction hg with
  | refl => exact h
  | step _ ih => exact scan_fuel l _ _ _ _ _ ih

def sh (t : Tok) : Tok := (t.1, t.2.1 + 14, t.2.2 + 14)

theorem drop_lo (x z : List UInt8) (k : Nat) : (x ++ z).drop (x.length + k) = z.drop k := by
  rw [← List.drop_drop, List.drop_left]
theorem drop_hi (x y : List UInt8) (k : Nat) : (x ++ (cl ++ y)).drop (x.length + 14 + k) = y.drop k := by
  rw [Nat.add_assoc, drop_lo]
  exact drop_lo cl y k
theorem ext_lo (x z : List UInt8) (a b : Nat) (hb : b ≤ x.length) : ext (x ++ z) a b = ext x a b := by
  unfold ext
  rcases Nat.le_total a x.length with h | h
  · rw [List.drop_append_of_le_length h, List.take_append_of_le_length (by rw [List.length_drop]; omega)]
  · have : b - a = 0 := by omega
    rw [this, List.take_zero, List.take_zero]
theorem ext_hi (x y : List UInt8) (a b : Nat) (ha : x.length ≤ a) : ext (x ++ (cl ++ y)) (a + 14) (b + 14) = ext (x ++ y) a b := by
  unfold ext
  obtain ⟨k, rfl⟩ := Nat.exists_eq_add_of_le ha
  rw [show x.length + k + 14 = x.length + 14 + k by omega, drop_hi, drop_lo]
  congr 1
  omega

theorem last_app (ts R : List Tok) : (ts ++ R).getLast? = R.getLast?.or ts.getLast? := List.getLast?_append
theorem last_sh (R : List Tok) : (R.map sh).getLast? = R.getLast?.map sh := List.getLast?_map

theorem may_hi (x y : List UInt8) (ts R : List Tok) (hts : ∀ t ∈ ts, t.2.2 ≤ x.length) (hR : ∀ t ∈ R, x.length ≤ t.2.1) : mayS (x ++ (cl ++ y)) (ts ++ R.map sh) = mayS (x ++ y) (ts ++ R) := by
  unfold mayS
  rw [last_app, last_app, last_sh]
  cases hr : R.getLast? with
  | some t =>
    have hm := List.mem_of_getLast? hr
    show mayK t.1 (ext (x ++ (cl ++ y)) (t.2.1 + 14) (t.2.2 + 14)) = mayK t.1 (ext (x ++ y) t.2.1 t.2.2)
    rw [ext_hi x y _ _ (hR t hm)]
  | none =>
    show (match ts.getLast? with | none => true | some t => mayK t.1 (ext (x ++ (cl ++ y)) t.2.1 t.2.2)) = (match ts.getLast? with | none => true | some t => mayK t.1 (ext (x ++ y) t.2.1 t.2.2))
    cases ht : ts.getLast? with
    | none => rfl
    | some t =>
      have hm := List.mem_of_getLast? ht
      dsimp only
      rw [ext_lo x _ _ _ (hts t hm), ext_lo x _ _ _ (hts t hm)]
theorem may_lo (x y : List UInt8) (ts : List Tok) (hts : ∀ t ∈ ts, t.2.2 ≤ x.length) : mayS (x ++ (cl ++ y)) ts = mayS (x ++ y) ts := by
  have := may_hi x y ts [] hts (fun t ht => by cases ht)
  simpa using this

theorem fol_hi (ts R : List Tok) (n k : Nat) (hts : ∀ t ∈ ts, t.2.2 ≤ n) : fol (ts ++ R.map sh) (n + 14 + k) = fol (ts ++ R) (n + k) ∨ fol (ts ++ R.map sh) (n + 14 + k) = false := by
  unfold fol
  rw [last_app, last_app, last_sh]
  cases hr : R.getLast? with
  | some t =>
    left
    show (t.1 == 3 && t.2.2 + 14 == n + 14 + k) = (t.1 == 3 && t.2.2 == n + k)
    have : (t.2.2 + 14 == n + 14 + k) = (t.2.2 == n + k) := by
      rw [Bool.eq_iff_iff, beq_iff_eq, beq_iff_eq]; omega
    rw [this]
  | none =>
    right
    show (match ts.getLast? with | none => false | some t => t.1 == 3 && t.2.2 == n + 14 + k) = false
    cases ht : ts.getLast? with
    | none => rfl
    | some t =>
      have hm := hts t (List.mem_of_getLast? ht)
      have : (t.2.2 == n + 14 + k) = false := by
        rw [beq_eq_false_iff_ne]; omega
      dsimp only
      rw [this, Bool.and_false]

/-- What stands behind the comment line is scanned as before, 14 bytes further. -/
theorem scan_hi (x y : List UInt8) (ts : List Tok) (hts : ∀ t ∈ ts, t.2.2 ≤ x.length) : ∀ (f k : Nat) (R : List Tok) (ns ms : List (Nat × Nat)) (T : List Tok) (N : List (Nat × Nat)), (∀ t ∈ R, x.length ≤ t.2.1) →
    scanL (x ++ y) f (x.length + k) (ts ++ R) ns = .inr (T, N) → ∃ R' M M', T = ts ++ R' ∧ (∀ t ∈ R', x.length ≤ t.2.1) ∧ N = ns ++ M ∧ M'.length = M.length ∧ scanL (x ++ (cl ++ y)) f (x.length + 14 + k) (ts ++ R.map sh) ms = .inr (ts ++ R'.map sh, ms ++ M')
  | 0, k, R, ns, ms, T, N, hR, h => by cases h
  | f + 1, k, R, ns, ms, T, N, hR, h => by
    have hlen : (x ++ (cl ++ y)).length = x.length + (14 + y.length) := by rw [List.length_append, List.length_append]; rfl
    have hlen2 : (x ++ y).length = x.length + y.length := List.length_append
    rw [scanL] at h ⊢
    by_cases ho : x.length + k < (x ++ y).length
    · rw [if_pos ho] at h
      rw [if_pos (by rw [hlen]; rw [hlen2] at ho; omega)]
      rw [step_shift, drop_lo] at h
      rw [step_shift, drop_hi, may_hi x y ts R hts hR]
      have hs : (stepX (y.drop k) (mayS (x ++ y) (ts ++ R)) (fol (ts ++ R) (x.length + k))).good → stepX (y.drop k) (mayS (x ++ y) (ts ++ R)) (fol (ts ++ R.map sh) (x.length + 14 + k)) = stepX (y.drop k) (mayS (x ++ y) (ts ++ R)) (fol (ts ++ R) (x.length + k)) := by
        intro hg
        rcases fol_hi ts R x.length k hts with e | e
        · rw [e]
        · rw [e]
          cases hf : fol (ts ++ R) (x.length + k) with
          | false => rfl
          | true => rw [hf] at hg; exact step_fo _ _ hg
      revert h hs
      cases stepX (y.drop k) (mayS (x ++ y) (ts ++ R)) (fol (ts ++ R) (x.length + k)) with
      | bad e => intro h _; cases h
      | sp b =>
        intro h hs
        rw [hs trivial]
        dsimp only [St.shift] at h ⊢
        rw [Nat.add_assoc] at h
        rw [Nat.add_assoc]
        exact scan_hi x y ts hts f (k + b) R ns ms T N hR h
      | note b =>
        intro h hs
        rw [hs trivial]
        dsimp only [St.shift] at h ⊢
        rw [Nat.add_assoc] at h
        rw [Nat.add_assoc]
        obtain ⟨R', M, M', h1, h2, h3, h4, h5⟩ := scan_hi x y ts hts f (k + b) R _ (ms ++ [(x.length + 14 + k, x.length + 14 + (k + b))]) T N hR h
        refine ⟨R', (x.length + k, x.length + (k + b)) :: M, (x.length + 14 + k, x.length + 14 + (k + b)) :: M', h1, h2, by rw [h3]; simp, by simp [h4], ?_⟩
        rw [h5]; simp
      | tok q b =>
        intro h hs
        rw [hs trivial]
        dsimp only [St.shift] at h ⊢
        rw [Nat.add_assoc x.length k b] at h
        rw [Nat.add_assoc (x.length + 14) k b]
        have h' : scanL (x ++ y) f (x.length + (k + b)) (ts ++ (R ++ [(q, x.length + k, x.length + (k + b))])) ns = .inr (T, N) := by rw [← List.append_assoc]; exact h
        obtain ⟨R', M, M', h1, h2, h3, h4, h5⟩ := scan_hi x y ts hts f (k + b) (R ++ [(q, x.length + k, x.length + (k + b))]) ns ms T N (by
          intro t ht
          rcases List.mem_append.1 ht with ht | ht
          · exact hR t ht
          · rw [List.mem_singleton.1 ht]; exact Nat.le_add_right _ _) h'
        refine ⟨R', M, M', h1, h2, h3, h4, ?_⟩
        have e : [(q, x.length + 14 + k, x.length + 14 + (k + b))] = List.map sh [(q, x.length + k, x.length + (k + b))] := by
          show _ = [(q, x.length + k + 14, x.length + (k + b) + 14)]
          rw [show x.length + k + 14 = x.length + 14 + k by omega, show x.length + (k + b) + 14 = x.length + 14 + (k + b) by omega]
        rw [e, List.append_assoc ts, ← List.map_append]
        exact h5
    · rw [if_neg ho] at h
      rw [if_neg (by rw [hlen]; rw [hlen2] at ho; omega)]
      cases h
      refine ⟨R ++ [(6, x.length + k, x.length + k)], [], [], by simp, ?_, by simp, rfl, ?_⟩
      · intro t ht
        rcases List.mem_append.1 ht with ht | ht
        · exact hR t ht
        · rw [List.mem_singleton.1 ht]; exact Nat.le_add_right _ _
      · rw [List.map_append, List.append_nil, ← List.append_assoc]
        show _ = Sum.inr (ts ++ List.map sh R ++ [(6, x.length + k + 14, x.length + k + 14)], ms)
        rw [show x.length + k + 14 = x.length + 14 + k by omega]

def mv (n : Nat) (t : Tok) : Tok := if n ≤ t.2.1 then sh t else t
theorem map_mv_lo (n : Nat) (ts : List Tok) (h : ∀ t ∈ ts, t.2.1 < n) : ts.map (mv n) = ts := by
  induction ts with
  | nil => rfl
  | cons t ts ih =>
    rw [List.map_cons, ih (fun u hu => h u (by simp [hu]))]
    unfold mv
    rw [if_neg (by have := h t (by simp); omega)]
theorem map_mv_hi (n : Nat) (ts : List Tok) (h : ∀ t ∈ ts, n ≤ t.2.1) : ts.map (mv n) = ts.map sh := by
  induction ts with
  | nil => rfl
  | cons t ts ih =>
    rw [List.map_cons, List.map_cons, ih (fun u hu => h u (by simp [hu]))]
    unfold mv
    rw [if_pos (h t (by simp))]

/-- At the place of the token: the comment line, then the rest. -/
theorem scan_at (x y : List UInt8) (f : Nat) (ts : List Tok) (ns : List (Nat × Nat)) (T : List Tok) (N : List (Nat × Nat)) (hts : ∀ t ∈ ts, t.2.1 < x.length ∧ t.2.2 ≤ x.length)
    (h : scanL (x ++ y) f x.length ts ns = .inr (T, N)) (hn : ∃ t ∈ T, t.2.1 = x.length) :
    (∀ t ∈ T, x.length ≤ t.2.1 ∨ (t.2.1 < x.length ∧ t.2.2 ≤ x.length)) ∧ ∃ N', N'.length = N.length + 1 ∧ scanL (x ++ (cl ++ y)) (f + 2) (x.length + 2) ts ns = .inr (T.map (mv x.length), N') ∧ scanL (x ++ (cl ++ y)) (f + 3) x.length ts ns = .inr (T.map (mv x.length), N') := by
  have hlen : (x ++ (cl ++ y)).length = x.length + (14 + y.length) := by rw [List.length_append, List.length_append]; rfl
  have hlen2 : (x ++ y).length = x.length + y.length := List.length_append
  have hsp : tw isSp y = 0 := by
    match f, h with
    | f + 1, h =>
      rw [scanL] at h
      by_cases ho : x.length < (x ++ y).length
      · rw [if_pos ho, step_shift, List.drop_left] at h
        rcases Nat.eq_zero_or_pos (tw isSp y) with h0 | h0
        · exact h0
        · exfalso
          have e : stepX y (mayS (x ++ y) ts) (fol ts x.length) = .sp (tw isSp y) := by unfold stepX spaceX; rw [if_pos h0]
          rw [e] at h
          obtain ⟨R, h1, h2⟩ := scan_ext _ _ _ _ _ _ _ h
          obtain ⟨t, ht, hte⟩ := hn
          rw [h1] at ht
          rcases List.mem_append.1 ht with ht | ht
          · have := (hts t ht).1; omega
          · have := h2 t ht; omega
      · have : y = [] := List.length_eq_zero_iff.1 (by omega)
        rw [this]; rfl
  obtain ⟨R', M, M', h1, h2, h3, h4, h5⟩ := scan_hi x y ts (fun t ht => (hts t ht).2) f 0 [] ns (ns ++ [(x.length + 2, x.length + 13)]) T N (fun t ht => by cases ht) (by rw [List.append_nil]; exact h)
  have hT : T.map (mv x.length) = ts ++ R'.map sh := by rw [h1, List.map_append, map_mv_lo _ _ (fun t ht => (hts t ht).1), map_mv_hi _ _ h2]
  have h6 : scanL (x ++ (cl ++ y)) f (x.length + 14) ts (ns ++ [(x.length + 2, x.length + 13)]) = .inr (T.map (mv x.length), ns ++ [(x.length + 2, x.length + 13)] ++ M') := by
    rw [hT, ← h5]; simp
  have h7 : scanL (x ++ (cl ++ y)) (f + 1) (x.length + 13) ts (ns ++ [(x.length + 2, x.length + 13)]) = .inr (T.map (mv x.length), ns ++ [(x.length + 2, x.length + 13)] ++ M') := by
    rw [scanL, if_pos (by rw [hlen]; omega), step_shift, drop_lo]
    have e : (cl ++ y).drop 13 = 10 :: y := rfl
    have e2 : tw isSp (10 :: y) = 1 := by
      have := tw_app isSp [10] y
      rw [if_pos (by decide), hsp] at this
      exact this
    have e3 : ∀ m fo, stepX (10 :: y) m fo = .sp 1 := by intro m fo; unfold stepX spaceX; rw [e2, if_pos (by omega)]
    rw [e, e3]
    exact h6
  have h8 : scanL (x ++ (cl ++ y)) (f + 2) (x.length + 2) ts ns = .inr (T.map (mv x.length), ns ++ [(x.length + 2, x.length + 13)] ++ M') := by
    rw [scanL, if_pos (by rw [hlen]; omega), step_shift, drop_lo]
    have e3 : ∀ m fo, stepX ((cl ++ y).drop 2) m fo = .note 11 := by intro m fo; rfl
    rw [e3]
    exact h7
  have h9 : scanL (x ++ (cl ++ y)) (f + 3) x.length ts ns = .inr (T.map (mv x.length), ns ++ [(x.length + 2, x.length + 13)] ++ M') := by
    rw [scanL, if_pos (by rw [hlen]; omega), step_shift, List.drop_left]
    have e3 : ∀ m fo, stepX (cl ++ y) m fo = .sp 2 := by intro m fo; rfl
    rw [e3]
    exact h8
  refine ⟨?_, _, ?_, h8, h9⟩
  · intro t ht
    rw [h1] at ht
    rcases List.mem_append.1 ht with ht | ht
    · exact .inr (hts t ht)
    · exact .inl (h2 t ht)
  · rw [h3]; simp [h4]; omega

theorem scan_lo (x y : List UInt8) : ∀ (f o : Nat) (ts : List Tok) (ns : List (Nat × Nat)) (T : List Tok) (N : List (Nat × Nat)), o ≤ x.length → (∀ t ∈ ts, t.2.1 < o ∧ t.2.2 ≤ o) →
    scanL (x ++ y) f o ts ns = .inr (T, N) → (∃ t ∈ T, t.2.1 = x.length) →
    (∀ t ∈ T, x.length ≤ t.2.1 ∨ (t.2.1 < x.length ∧ t.2.2 ≤ x.length)) ∧ ∃ N', N'.length = N.length + 1 ∧ scanL (x ++ (cl ++ y)) (f + 3) o ts ns = .inr (T.map (mv x.length), N')
  | 0, o, ts, ns, T, N, ho, hts, h, hn => by cases h
  | f + 1, o, ts, ns, T, N, ho, hts, h, hn => by
    have hlen : (x ++ (cl ++ y)).length = x.length + (14 + y.length) := by rw [List.length_append, List.length_append]; rfl
    have hlen2 : (x ++ y).length = x.length + y.length := List.length_append
    rcases Nat.lt_or_eq_of_le ho with ho1 | ho1
    · have hcut : ∀ b ts' ns', scanL (x ++ y) f b ts' ns' = .inr (T, N) → (∀ t ∈ ts', t.2.1 < x.length) → b ≤ x.length := by
        intro b ts' ns' hb ht'
        obtain ⟨R, h1, h2⟩ := scan_ext _ _ _ _ _ _ _ hb
        obtain ⟨t, ht, hte⟩ := hn
        rw [h1] at ht
        rcases List.mem_append.1 ht with ht | ht
        · have := ht' t ht; omega
        · have := h2 t ht; omega
      have hlo : ∀ t ∈ ts, t.2.1 < x.length := fun t ht => by have := (hts t ht).1; omega
      have hle : ∀ t ∈ ts, t.2.2 ≤ x.length := fun t ht => by have := (hts t ht).2; omega
      have hx : x.drop o ≠ [] := fun e => by
        have := congrArg List.length e
        rw [List.length_drop] at this
        simp at this
        omega
      have e1 : (x ++ y).drop o = x.drop o ++ y := List.drop_append_of_le_length ho
      have e2 : (x ++ (cl ++ y)).drop o = x.drop o ++ (cl ++ y) := List.drop_append_of_le_length ho
      rw [scanL, if_pos (by omega), step_shift, e1] at h
      rw [show f + 1 + 3 = (f + 3) + 1 by omega, scanL, if_pos (by omega), step_shift, e2, may_lo x y ts hle]
      have hc := step_cut (x.drop o) y hx (mayS (x ++ y) ts) (fol ts o)
      have hp := step_pos (x.drop o ++ y) (mayS (x ++ y) ts) (fol ts o)
      rw [List.length_drop] at hc
      revert h hc hp
      cases stepX (x.drop o ++ y) (mayS (x ++ y) ts) (fol ts o) with
      | bad e => intro h _ _; cases h
      | sp b =>
        intro h hc hp
        dsimp only [St.shift] at h
        have hb := hcut _ _ _ h hlo
        have hp0 : 0 < b := hp trivial
        rcases hc trivial (show b ≤ x.length - o by omega) with e | ⟨e, e'⟩
        · rw [e]
          exact scan_lo x y f (o + b) ts ns T N hb (fun t ht => by have := hts t ht; omega) h hn
        · rw [e']
          have hb2 : b = x.length - o := by injection e
          have e3 : o + b = x.length := by omega
          rw [e3] at h
          obtain ⟨g1, N', g2, g3, -⟩ := scan_at x y f ts ns T N (fun t ht => ⟨hlo t ht, hle t ht⟩) h hn
          refine ⟨g1, N', g2, ?_⟩
          dsimp only [St.shift]
          rw [show o + (x.length - o + 2) = x.length + 2 by omega]
          exact scan_fuel _ _ _ _ _ _ g3
      | note b =>
        intro h hc hp
        dsimp only [St.shift] at h
        have hb := hcut _ _ _ h hlo
        have hp0 : 0 < b := hp trivial
        rcases hc trivial (show b ≤ x.length - o by omega) with e | ⟨e, e'⟩
        · rw [e]
          exact scan_lo x y f (o + b) ts _ T N hb (fun t ht => by have := hts t ht; omega) h hn
        · cases e
      | tok q b =>
        intro h hc hp
        dsimp only [St.shift] at h
        have hp0 : 0 < b := hp trivial
        have hlo' : ∀ t ∈ ts ++ [(q, o, o + b)], t.2.1 < x.length := by
          intro t ht
          rcases List.mem_append.1 ht with ht | ht
          · exact hlo t ht
          · rw [List.mem_singleton.1 ht]; exact ho1
        have hb := hcut _ _ _ h hlo'
        rcases hc trivial (show b ≤ x.length - o by omega) with e | ⟨e, e'⟩
        · rw [e]
          refine scan_lo x y f (o + b) _ _ T N hb ?_ h hn
          intro t ht
          rcases List.mem_append.1 ht with ht | ht
          · have := hts t ht; omega
          · rw [List.mem_singleton.1 ht]; exact ⟨by show o < o + b; omega, Nat.le_refl _⟩
        · cases e
    · rw [ho1] at h hts ⊢
      obtain ⟨g1, N', g2, -, g3⟩ := scan_at x y (f + 1) ts ns T N hts h hn
      exact ⟨g1, N', g2, g3⟩

theorem scan_spaces (l : List UInt8) (hl : l.length ≤ 1000) (T : List Tok) (N : List (Nat × Nat)) (h : scanF l = .inr (T, N)) (n : Nat) (hnl : n ≤ l.length) (hn : ∃ t ∈ T, t.2.1 = n) :
    (∀ t ∈ T, n ≤ t.2.1 ∨ (t.2.1 < n ∧ t.2.2 ≤ n)) ∧ ∃ N', N'.length = N.length + 1 ∧ scanF (l.take n ++ (cl ++ l.drop n)) = .inr (T.map (mv n), N') := by
  have hx : (l.take n).length = n := by rw [List.length_take]; omega
  have hsp : l = l.take n ++ l.drop n := (List.take_append_drop n l).symm
  unfold scanF at h
  rw [if_neg (by omega)] at h
  cases hf : l.findIdx? (fun b => !okB b) with
  | some i => rw [hf] at h; cases h
  | none =>
    rw [hf] at h
    have hb : ∀ b ∈ l, okB b = true := by
      intro b hb
      have := List.findIdx?_eq_none_iff.1 hf b hb
      simpa using this
    have h' : scanL (l.take n ++ l.drop n) (l.length + 1) 0 [] [] = .inr (T, N) := by rw [List.take_append_drop]; exact h
    obtain ⟨g1, N', g2, g3⟩ := scan_lo (l.take n) (l.drop n) (l.length + 1) 0 [] [] T N (Nat.zero_le _) (fun t ht => by cases ht) h' (by rw [hx]; exact hn)
    rw [hx] at g1 g3
    refine ⟨g1, N', g2, ?_⟩
    have hlen : (l.take n ++ (cl ++ l.drop n)).length = l.length + 14 := by
      rw [List.length_append, List.length_append, hx, List.length_drop]
      show n + (14 + (l.length - n)) = _
      omega
    unfold scanF
    rw [if_neg (by omega)]
    have hf' : (l.take n ++ (cl ++ l.drop n)).findIdx? (fun b => !okB b) = none := by
      rw [List.findIdx?_eq_none_iff]
      intro b hm
      have : okB b = true := by
        rcases List.mem_append.1 hm with hm | hm
        · exact hb b (List.mem_of_mem_take hm)
        · rcases List.mem_append.1 hm with hm | hm
          · exact (show ∀ b ∈ cl, okB b = true by decide) b hm
          · exact hb b (List.mem_of_mem_drop hm)
      rw [this]; rfl
    rw [hf', hlen]
    exact scan_more _ _ _ _ _ _ _ (by omega) g3

end Go.Proofs.YtpoddcegfhgdeaaDoor.Tk
