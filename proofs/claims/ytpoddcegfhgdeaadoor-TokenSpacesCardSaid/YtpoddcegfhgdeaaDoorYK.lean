/- What the scan makes of a number alone, in parentheses behind a name, and behind a name. -/
import Derived.Test.YtpoddcegfhgdeaaDoorYJ
import Derived.Lib.ItoaLen
set_option linter.unusedVariables false
set_option linter.unusedSimpArgs false
namespace Go.Proofs.YtpoddcegfhgdeaaDoor.Tk

theorem go_tok {l : List UInt8} {g o k b : Nat} {ts : List Tok} {ns : List (Nat × Nat)} (ho : o < l.length) (h : stepX (l.drop o) (mayS l ts) (fol ts o) = .tok k b) : scanL l (g + 1) o ts ns = scanL l g (o + b) (ts ++ [(k, o, o + b)]) ns := by
  have hs := step_shift l ts o
  rw [h] at hs
  conv => lhs; unfold scanL
  rw [if_pos ho, hs]
  rfl
theorem go_sp {l : List UInt8} {g o b : Nat} {ts : List Tok} {ns : List (Nat × Nat)} (ho : o < l.length) (h : stepX (l.drop o) (mayS l ts) (fol ts o) = .sp b) : scanL l (g + 1) o ts ns = scanL l g (o + b) ts ns := by
  have hs := step_shift l ts o
  rw [h] at hs
  conv => lhs; unfold scanL
  rw [if_pos ho, hs]
  rfl
theorem go_end {l : List UInt8} {g o : Nat} {ts : List Tok} {ns : List (Nat × Nat)} (ho : ¬ o < l.length) : scanL l (g + 1) o ts ns = .inr (ts ++ [(6, o, o)], ns) := by
  unfold scanL
  rw [if_neg ho]
theorem go_start {l : List UInt8} (h1 : l.length ≤ 65536) (h2 : ∀ x ∈ l, okB x = true) : scanF l = scanL l (l.length + 1) 0 [] [] := by
  unfold scanF
  rw [if_neg (by omega)]
  have : l.findIdx? (fun b => !okB b) = none := by
    rw [List.findIdx?_eq_none_iff]
    intro x hx
    rw [h2 x hx]; rfl
  rw [this]

theorem dg_ok (c : UInt8) (h : isDg c = true) : okB c = true := by
  unfold isDg at h
  rw [Bool.and_eq_true, decide_eq_true_eq, decide_eq_true_eq] at h
  unfold okB
  have h1 : decide (32 ≤ c.toNat) = true := by simp; omega
  have h2 : decide (c.toNat ≤ 126) = true := by simp; omega
  rw [h1, h2]; simp

theorem stepX_f (c : UInt8) (r : List UInt8) (m : Bool) (hc : inNm c = false) : stepX (102 :: c :: r) m false = .tok 1 1 := by
  have e1 : spaceX (102 :: c :: r) = none := by unfold spaceX tw; simp [show isSp 102 = false by decide]
  have e2 : noteX (102 :: c :: r) = none := by unfold noteX; rw [if_neg]; simp [List.isPrefixOf]
  have htw : tw inNm (102 :: c :: r) = 1 := by unfold tw; simp [show inNm 102 = true by decide, hc]
  have e3 : wordX (102 :: c :: r) false = some (.tok 1 1) := by
    unfold wordX
    rw [htw]
    simp [show isDg 102 = false by decide, show wordKind [102] = 1 by decide]
  unfold stepX
  rw [e1, e2, e3]
theorem stepX_open (r : List UInt8) (m fo : Bool) : stepX (40 :: r) m fo = .tok 4 1 := by
  have e1 : spaceX (40 :: r) = none := by unfold spaceX tw; simp [show isSp 40 = false by decide]
  have e2 : noteX (40 :: r) = none := by unfold noteX; rw [if_neg]; simp [List.isPrefixOf]
  have e3 : wordX (40 :: r) fo = none := by unfold wordX tw; simp [show isDg 40 = false by decide, show inNm 40 = false by decide]
  have e4 : numX (40 :: r) m = none := by
    unfold numX
    have hdx : digX (40 :: r) m = 0 := by unfold digX; simp
    rw [hdx, List.drop_zero]
    unfold tw; simp [show isDg 40 = false by decide]
  have e5 : signX (40 :: r) = some (.tok 4 1) := by unfold signX signs; simp [List.find?, List.isPrefixOf]
  unfold stepX
  rw [e1, e2, e3, e4, e5]
theorem stepX_close (r : List UInt8) (m fo : Bool) : stepX (41 :: r) m fo = .tok 4 1 := by
  have e1 : spaceX (41 :: r) = none := by unfold spaceX tw; simp [show isSp 41 = false by decide]
  have e2 : noteX (41 :: r) = none := by unfold noteX; rw [if_neg]; simp [List.isPrefixOf]
  have e3 : wordX (41 :: r) fo = none := by unfold wordX tw; simp [show isDg 41 = false by decide, show inNm 41 = false by decide]
  have e4 : numX (41 :: r) m = none := by
    unfold numX
    have hdx : digX (41 :: r) m = 0 := by unfold digX; simp
    rw [hdx, List.drop_zero]
    unfold tw; simp [show isDg 41 = false by decide]
  have e5 : signX (41 :: r) = some (.tok 4 1) := by unfold signX signs; simp [List.find?, List.isPrefixOf]
  unfold stepX
  rw [e1, e2, e3, e4, e5]
theorem stepX_space (c : UInt8) (r : List UInt8) (m fo : Bool) (hc : isSp c = false) : stepX (32 :: c :: r) m fo = .sp 1 := by
  have e1 : spaceX (32 :: c :: r) = some (.sp 1) := by unfold spaceX tw; simp [show isSp 32 = true by decide, hc]
  unfold stepX
  rw [e1]

/-- The text of a number of 64 bits: a sign, or none, and digits. -/
structure Num (s : List UInt8) (neg : Bool) (d : List UInt8) : Prop where
  eq : s = (if neg then 45 :: d else d)
  ne : d ≠ []
  dig : ∀ x ∈ d, isDg x = true
  ok : numOk s = true
  len : s.length ≤ 30

theorem num_of (n : Int) (h0 : -9223372036854775808 ≤ n) (h1 : n ≤ 9223372036854775807) : Num (Lib.itoa n) (decide (n < 0)) (dgs n.natAbs) := by
  have hl := Lib.itoa_length_le n h0 h1
  by_cases h : n < 0
  · refine ⟨?_, dgs_ne _, dgs_dig _, ?_, by omega⟩
    · simp [Lib.itoa, h, dgs]
    · have : Lib.itoa n = 45 :: dgs n.natAbs := by simp [Lib.itoa, h, dgs]
      rw [this]; exact numOk_neg _ (by omega)
  · have e : n.toNat = n.natAbs := by omega
    refine ⟨?_, dgs_ne _, dgs_dig _, ?_, by omega⟩
    · simp [Lib.itoa, h, dgs, e]
    · have : Lib.itoa n = dgs n.natAbs := by simp [Lib.itoa, h, dgs, e]
      rw [this]; exact numOk_pos _ (by omega)

theorem Num.step {s d y : List UInt8} {neg : Bool} (h : Num s neg d) (hy : NoDg y) (fo : Bool) : stepX (s ++ y) true fo = .tok 3 s.length := by
  have h1 := h.eq
  have h2 := h.ok
  cases neg with
  | true =>
    rw [if_pos rfl] at h1
    subst h1
    exact stepX_neg d y fo h.ne h.dig hy h2
  | false =>
    rw [if_neg (by decide)] at h1
    rw [h1] at h2 ⊢
    exact stepX_num d y true fo h.ne h.dig hy h2
theorem Num.oks {s d : List UInt8} {neg : Bool} (h : Num s neg d) : ∀ x ∈ s, okB x = true := by
  intro x hx
  have h1 := h.eq
  cases neg with
  | true =>
    rw [if_pos rfl] at h1
    rw [h1] at hx
    rcases List.mem_cons.1 hx with rfl | hx
    · decide
    · exact dg_ok x (h.dig x hx)
  | false =>
    rw [if_neg (by decide)] at h1
    rw [h1] at hx
    exact dg_ok x (h.dig x hx)
theorem Num.pos {s d : List UInt8} {neg : Bool} (h : Num s neg d) : 0 < s.length := by
  have h1 := h.eq
  have h2 : 0 < d.length := by
    cases hd : d with
    | nil => exact absurd hd h.ne
    | cons c r => simp
  cases neg <;> simp at h1 <;> rw [h1]
  · exact h2
  · simp

theorem scan_num {s d : List UInt8} {neg : Bool} (h : Num s neg d) : scanF s = .inr ([(3, 0, s.length), (6, s.length, s.length)], []) := by
  have hl := h.len
  have hp := h.pos
  rw [go_start (by omega) h.oks]
  obtain ⟨g, hg⟩ : ∃ g, s.length = g + 1 := ⟨s.length - 1, by omega⟩
  have st : stepX (s.drop 0) (mayS s []) (fol [] 0) = .tok 3 s.length := by
    have := h.step (.inl rfl) false
    rw [List.append_nil] at this
    exact this
  have r0 := go_tok (g := s.length) (ns := []) hp st
  have r1 := go_end (l := s) (g := g) (o := 0 + s.length) (ts := [] ++ [(3, 0, 0 + s.length)]) (ns := []) (by omega)
  rw [← hg] at r1
  refine r0.trans (r1.trans ?_)
  rw [Nat.zero_add]
  rfl

theorem scan_paren {s d : List UInt8} {neg : Bool} (h : Num s neg d) : scanF (102 :: 40 :: (s ++ [41])) = .inr ([(1, 0, 1), (4, 1, 2), (3, 2, 2 + s.length), (4, 2 + s.length, 3 + s.length), (6, 3 + s.length, 3 + s.length)], []) := by
  have hl := h.len
  have hp := h.pos
  obtain ⟨l, hle⟩ : ∃ l, 102 :: 40 :: (s ++ [41]) = l := ⟨_, rfl⟩
  have hlen : l.length = s.length + 3 := by rw [← hle]; simp
  have hok : ∀ x ∈ l, Tk.okB x = true := by
    intro x hx
    rw [← hle] at hx
    simp only [List.mem_cons, List.mem_append, List.not_mem_nil, or_false] at hx
    rcases hx with rfl | rfl | hx | rfl
    · decide
    · decide
    · exact h.oks x hx
    · decide
  rw [hle, go_start (by omega) hok, hlen]
  have d0 : l.drop 0 = 102 :: 40 :: (s ++ [41]) := by rw [← hle]; rfl
  have d1 : l.drop 1 = 40 :: (s ++ [41]) := by rw [← hle]; rfl
  have d2 : l.drop 2 = s ++ [41] := by rw [← hle]; rfl
  have d3 : l.drop (2 + s.length) = [41] := by
    rw [← List.drop_drop, d2, List.drop_left]
  have s0 : stepX (l.drop 0) (mayS l []) (fol [] 0) = .tok 1 1 := by rw [d0]; exact stepX_f 40 _ _ (by decide)
  have s1 : stepX (l.drop 1) (mayS l [(1, 0, 1)]) (fol [(1, 0, 1)] 1) = .tok 4 1 := by rw [d1]; exact stepX_open _ _ _
  have m2 : mayS l [(1, 0, 1), (4, 1, 2)] = true := by
    show mayK 4 (ext l 1 2) = true
    have : ext l 1 2 = [40] := by unfold ext; rw [d1]; rfl
    rw [this]; decide
  have s2 : stepX (l.drop 2) (mayS l [(1, 0, 1), (4, 1, 2)]) (fol [(1, 0, 1), (4, 1, 2)] 2) = .tok 3 s.length := by
    rw [d2, m2]; exact h.step (.inr ⟨41, [], rfl, by decide⟩) _
  have s3 : stepX (l.drop (2 + s.length)) (mayS l [(1, 0, 1), (4, 1, 2), (3, 2, 2 + s.length)]) (fol [(1, 0, 1), (4, 1, 2), (3, 2, 2 + s.length)] (2 + s.length)) = .tok 4 1 := by rw [d3]; exact stepX_close _ _ _
  obtain ⟨g, hg⟩ : ∃ g, s.length = g + 1 := ⟨s.length - 1, by omega⟩
  have r0 := go_tok (g := s.length + 3) (ns := []) (by omega : 0 < l.length) s0
  have r1 := go_tok (g := s.length + 2) (ns := []) (by omega : 1 < l.length) s1
  have r2 := go_tok (g := s.length + 1) (ns := []) (by omega : 2 < l.length) s2
  have r3 := go_tok (g := s.length) (ns := []) (by omega : 2 + s.length < l.length) s3
  have r4 : scanL l s.length (2 + s.length + 1) ([(1, 0, 1), (4, 1, 2), (3, 2, 2 + s.length)] ++ [(4, 2 + s.length, 2 + s.length + 1)]) [] = .inr (([(1, 0, 1), (4, 1, 2), (3, 2, 2 + s.length)] ++ [(4, 2 + s.length, 2 + s.length + 1)]) ++ [(6, 2 + s.length + 1, 2 + s.length + 1)], []) := by
    have := go_end (l := l) (g := g) (o := 2 + s.length + 1) (ts := [(1, 0, 1), (4, 1, 2), (3, 2, 2 + s.length)] ++ [(4, 2 + s.length, 2 + s.length + 1)]) (ns := []) (by omega)
    rw [← hg] at this; exact this
  have e3 : 2 + s.length + 1 = 3 + s.length := by omega
  refine r0.trans (r1.trans (r2.trans (r3.trans (r4.trans ?_))))
  rw [e3]
  rfl

theorem scan_name {d : List UInt8} (h0 : d ≠ []) (hd : ∀ x ∈ d, isDg x = true) (hok : numOk d = true) (hl : d.length ≤ 30) : scanF (102 :: 32 :: d) = .inr ([(1, 0, 1), (3, 2, 2 + d.length), (6, 2 + d.length, 2 + d.length)], []) := by
  have hp : 0 < d.length := by cases d with | nil => exact absurd rfl h0 | cons c r => simp
  obtain ⟨l, hle⟩ : ∃ l, 102 :: 32 :: d = l := ⟨_, rfl⟩
  have hlen : l.length = d.length + 2 := by rw [← hle]; simp
  have hokl : ∀ x ∈ l, Tk.okB x = true := by
    intro x hx
    rw [← hle] at hx
    simp only [List.mem_cons] at hx
    rcases hx with rfl | rfl | hx
    · decide
    · decide
    · exact dg_ok x (hd x hx)
  rw [hle, go_start (by omega) hokl, hlen]
  have d0 : l.drop 0 = 102 :: 32 :: d := by rw [← hle]; rfl
  have d1 : l.drop 1 = 32 :: d := by rw [← hle]; rfl
  have d2 : l.drop 2 = d := by rw [← hle]; rfl
  have s0 : stepX (l.drop 0) (mayS l []) (fol [] 0) = .tok 1 1 := by rw [d0]; exact stepX_f 32 _ _ (by decide)
  have s1 : stepX (l.drop 1) (mayS l [(1, 0, 1)]) (fol [(1, 0, 1)] 1) = .sp 1 := by
    rw [d1]
    cases hd2 : d with
    | nil => exact absurd hd2 h0
    | cons c r => exact stepX_space c r _ _ (dg_not c (hd c (by rw [hd2]; simp))).1
  have s2 : stepX (l.drop 2) (mayS l [(1, 0, 1)]) (fol [(1, 0, 1)] 2) = .tok 3 d.length := by
    rw [d2]
    have := stepX_num d [] (mayS l [(1, 0, 1)]) (fol [(1, 0, 1)] 2) h0 hd (.inl rfl) hok
    rwa [List.append_nil] at this
  have r0 := go_tok (g := d.length + 2) (ns := []) (by omega : 0 < l.length) s0
  have r1 := go_sp (g := d.length + 1) (ns := []) (by omega : 1 < l.length) s1
  have r2 := go_tok (g := d.length) (ns := []) (by omega : 2 < l.length) s2
  obtain ⟨g, hg⟩ : ∃ g, d.length = g + 1 := ⟨d.length - 1, by omega⟩
  have r3 := go_end (l := l) (g := g) (o := 2 + d.length) (ts := [(1, 0, 1)] ++ [(3, 2, 2 + d.length)]) (ns := []) (by omega)
  rw [← hg] at r3
  exact r0.trans (r1.trans (r2.trans r3))

theorem scan_minus {d : List UInt8} (h0 : d ≠ []) (hd : ∀ x ∈ d, isDg x = true) (hok : numOk d = true) (hl : d.length ≤ 30) : scanF (102 :: 32 :: 45 :: d) = .inr ([(1, 0, 1), (4, 2, 3), (3, 3, 3 + d.length), (6, 3 + d.length, 3 + d.length)], []) := by
  have hp : 0 < d.length := by cases d with | nil => exact absurd rfl h0 | cons c r => simp
  obtain ⟨l, hle⟩ : ∃ l, 102 :: 32 :: 45 :: d = l := ⟨_, rfl⟩
  have hlen : l.length = d.length + 3 := by rw [← hle]; simp
  have hokl : ∀ x ∈ l, Tk.okB x = true := by
    intro x hx
    rw [← hle] at hx
    simp only [List.mem_cons] at hx
    rcases hx with rfl | rfl | rfl | hx
    · decide
    · decide
    · decide
    · exact dg_ok x (hd x hx)
  rw [hle, go_start (by omega) hokl, hlen]
  have d0 : l.drop 0 = 102 :: 32 :: 45 :: d := by rw [← hle]; rfl
  have d1 : l.drop 1 = 32 :: 45 :: d := by rw [← hle]; rfl
  have d2 : l.drop 2 = 45 :: d := by rw [← hle]; rfl
  have d3 : l.drop 3 = d := by rw [← hle]; rfl
  have s0 : stepX (l.drop 0) (mayS l []) (fol [] 0) = .tok 1 1 := by rw [d0]; exact stepX_f 32 _ _ (by decide)
  have s1 : stepX (l.drop 1) (mayS l [(1, 0, 1)]) (fol [(1, 0, 1)] 1) = .sp 1 := by rw [d1]; exact stepX_space 45 _ _ _ (by decide)
  have s2 : stepX (l.drop 2) (mayS l [(1, 0, 1)]) (fol [(1, 0, 1)] 2) = .tok 4 1 := by
    rw [d2]
    have := stepX_minus d [] (fol [(1, 0, 1)] 2) h0 hd
    rw [List.append_nil] at this
    exact this
  have s3 : stepX (l.drop 3) (mayS l [(1, 0, 1), (4, 2, 3)]) (fol [(1, 0, 1), (4, 2, 3)] 3) = .tok 3 d.length := by
    rw [d3]
    have := stepX_num d [] (mayS l [(1, 0, 1), (4, 2, 3)]) (fol [(1, 0, 1), (4, 2, 3)] 3) h0 hd (.inl rfl) hok
    rwa [List.append_nil] at this
  have r0 := go_tok (g := d.length + 3) (ns := []) (by omega : 0 < l.length) s0
  have r1 := go_sp (g := d.length + 2) (ns := []) (by omega : 1 < l.length) s1
  have r2 := go_tok (g := d.length + 1) (ns := []) (by omega : 2 < l.length) s2
  have r3 := go_tok (g := d.length) (ns := []) (by omega : 3 < l.length) s3
  obtain ⟨g, hg⟩ : ∃ g, d.length = g + 1 := ⟨d.length - 1, by omega⟩
  have r4 := go_end (l := l) (g := g) (o := 3 + d.length) (ts := ([(1, 0, 1)] ++ [(4, 2, 3)]) ++ [(3, 3, 3 + d.length)]) (ns := []) (by omega)
  rw [← hg] at r4
  exact r0.trans (r1.trans (r2.trans (r3.trans r4)))

end Go.Proofs.YtpoddcegfhgdeaaDoor.Tk
