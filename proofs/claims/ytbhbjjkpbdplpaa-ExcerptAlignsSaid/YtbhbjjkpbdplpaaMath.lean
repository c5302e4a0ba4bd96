/- Plain mathematics of lines, columns and excerpts: lists of bytes only, nothing of the program. -/
namespace Go.Proofs.Ytbhbjjkpbdplpaa.Ex

/-- Where the line of offset o begins. -/
def lineStart (l : List UInt8) : Nat → Nat
  | 0 => 0
  | o + 1 => if l[o]? = some 10 then o + 1 else lineStart l o

/-- How many bytes come before the first line feed. -/
def lineLen : List UInt8 → Nat
  | [] => 0
  | b :: r => if b = 10 then 0 else lineLen r + 1

def lineEnd (l : List UInt8) (o : Nat) : Nat := o + lineLen (l.drop o)

def cnt (l : List UInt8) (o : Nat) : Nat := (l.take o).count 10

/-- Where line n begins. -/
def starts (l : List UInt8) : Nat → Option Nat
  | 0 => some 0
  | n + 1 => (starts l n).bind fun f => if lineEnd l f = l.length then none else some (lineEnd l f + 1)

theorem lineStart_le (l : List UInt8) (o : Nat) : lineStart l o ≤ o := by
  induction o with
  | zero => simp [lineStart]
  | succ o ih => unfold lineStart; split <;> omega

theorem lineStart_none (l : List UInt8) (o i : Nat) (h : lineStart l o ≤ i) (hi : i < o) : l[i]? ≠ some 10 := by
  induction o with
  | zero => omega
  | succ o ih =>
    unfold lineStart at h
    split at h
    · omega
    · by_cases e : i = o
      · subst e; assumption
      · exact ih h (by omega)

theorem lineStart_at (l : List UInt8) (o : Nat) : lineStart l o = 0 ∨ (0 < lineStart l o ∧ l[lineStart l o - 1]? = some 10) := by
  induction o with
  | zero => left; rfl
  | succ o ih =>
    unfold lineStart
    split
    · right; exact ⟨by omega, by simpa⟩
    · exact ih

theorem lineLen_le (l : List UInt8) : lineLen l ≤ l.length := by
  induction l with
  | nil => simp [lineLen]
  | cons b r ih => unfold lineLen; split <;> simp <;> omega

theorem lineLen_none (l : List UInt8) (i : Nat) (h : i < lineLen l) : l[i]? ≠ some 10 := by
  induction l generalizing i with
  | nil => simp [lineLen] at h
  | cons b r ih =>
    unfold lineLen at h
    split at h
    · omega
    · rename_i hb
      cases i with
      | zero => simpa using hb
      | succ i => simpa using ih i (by omega)

theorem lineLen_at (l : List UInt8) (h : lineLen l < l.length) : l[lineLen l]? = some 10 := by
  induction l with
  | nil => simp [lineLen] at h
  | cons b r ih =>
    unfold lineLen at h ⊢
    split
    · simpa
    · rename_i hb
      rw [if_neg hb] at h
      simp at h ⊢
      simpa using ih h

theorem lineEnd_ge (l : List UInt8) (o : Nat) : o ≤ lineEnd l o := by unfold lineEnd; omega

theorem lineEnd_le (l : List UInt8) (o : Nat) (h : o ≤ l.length) : lineEnd l o ≤ l.length := by
  have := lineLen_le (l.drop o)
  simp at this
  unfold lineEnd; omega

theorem lineEnd_none (l : List UInt8) (o i : Nat) (h : o ≤ i) (hi : i < lineEnd l o) : l[i]? ≠ some 10 := by
  have := lineLen_none (l.drop o) (i - o) (by unfold lineEnd at hi; omega)
  simpa [show o + (i - o) = i from by omega] using this

theorem lineEnd_at (l : List UInt8) (o : Nat) (h : lineEnd l o < l.length) : l[lineEnd l o]? = some 10 := by
  have := lineLen_at (l.drop o) (by simp; unfold lineEnd at h; omega)
  simpa [lineEnd] using this

/-- What an end of a line is. -/
theorem lineEnd_eq (l : List UInt8) (o e : Nat) (h0 : o ≤ e) (h : e ≤ l.length) (hn : ∀ i, o ≤ i → i < e → l[i]? ≠ some 10) (ha : e < l.length → l[e]? = some 10) : lineEnd l o = e := by
  have h1 := lineEnd_ge l o
  have h2 := lineEnd_le l o (by omega)
  rcases Nat.lt_trichotomy (lineEnd l o) e with h3 | h3 | h3
  · exact absurd (lineEnd_at l o (by omega)) (hn _ h1 h3)
  · exact h3
  · exact absurd (ha (by omega)) (lineEnd_none l o e h0 h3)

theorem cnt_zero (l : List UInt8) : cnt l 0 = 0 := by simp [cnt]

theorem cnt_succ (l : List UInt8) (o : Nat) : cnt l (o + 1) = cnt l o + if l[o]? = some 10 then 1 else 0 := by
  unfold cnt
  rw [List.take_add_one, List.count_append]
  cases h : l[o]? with
  | none => simp
  | some b => simp [List.count_cons, List.count_nil]

theorem cnt_le (l : List UInt8) (o : Nat) : cnt l o ≤ o := by
  unfold cnt
  have h1 := List.count_le_length (a := (10 : UInt8)) (l := l.take o)
  have h2 := List.length_take_le o l
  omega

theorem cnt_mono (l : List UInt8) {a b : Nat} (h : a ≤ b) : cnt l a ≤ cnt l b := by
  induction b with
  | zero => have : a = 0 := by omega
            subst this; exact Nat.le_refl _
  | succ b ih =>
    rw [cnt_succ]
    by_cases e : a = b + 1
    · subst e; rw [cnt_succ]; exact Nat.le_refl _
    · have := ih (by omega); omega

theorem cnt_lineStart (l : List UInt8) (o : Nat) : cnt l (lineStart l o) = cnt l o := by
  induction o with
  | zero => rfl
  | succ o ih =>
    unfold lineStart
    split
    · rfl
    · rename_i h; rw [ih, cnt_succ, if_neg h]; rfl

theorem lineEnd_lineStart (l : List UInt8) (o : Nat) (h : o < l.length) (h10 : l[o]? = some 10) : lineEnd l (lineStart l o) = o :=
  lineEnd_eq l _ _ (lineStart_le l o) (by omega) (fun i h1 h2 => lineStart_none l o i h1 h2) (fun _ => h10)

theorem starts_cnt (l : List UInt8) (o : Nat) (h : o ≤ l.length) : starts l (cnt l o) = some (lineStart l o) := by
  induction o with
  | zero => rfl
  | succ o ih =>
    have ih := ih (by omega)
    rw [cnt_succ]
    unfold lineStart
    split
    · rename_i h10
      unfold starts
      rw [ih]
      simp only [Option.bind_some]
      rw [lineEnd_lineStart l o (by omega) h10, if_neg (by omega)]
    · exact ih

theorem starts_some (l : List UInt8) (n f : Nat) (h : starts l n = some f) : f ≤ l.length ∧ cnt l f = n ∧ lineStart l f = f := by
  induction n generalizing f with
  | zero => simp [starts] at h; subst h; exact ⟨by omega, by simp [cnt], rfl⟩
  | succ n ih =>
    unfold starts at h
    cases hs : starts l n with
    | none => rw [hs] at h; simp at h
    | some g =>
      rw [hs] at h
      simp only [Option.bind_some] at h
      split at h
      · simp at h
      · rename_i hne
        obtain ⟨g1, g2, g3⟩ := ih g hs
        simp at h
        subst h
        have h1 := lineEnd_le l g g1
        have h2 := lineEnd_at l g (by omega)
        refine ⟨by omega, ?_, by simp [lineStart, h2]⟩
        rw [cnt_succ, if_pos h2]
        have : cnt l (lineEnd l g) = cnt l g := by
          have key : ∀ k, g + k ≤ lineEnd l g → cnt l (g + k) = cnt l g := by
            intro k
            induction k with
            | zero => intro _; rfl
            | succ k ihk =>
              intro hk
              rw [show g + (k + 1) = (g + k) + 1 from by omega, cnt_succ, ihk (by omega), if_neg (lineEnd_none l g _ (by omega) (by omega)), Nat.add_zero]
          have := key (lineEnd l g - g) (by have := lineEnd_ge l g; omega)
          rwa [show g + (lineEnd l g - g) = lineEnd l g from by have := lineEnd_ge l g; omega] at this
        omega

theorem starts_le (l : List UInt8) (n f : Nat) (h : starts l n = some f) : f ≤ l.length := (starts_some l n f h).1

/-- The first offset with so many line feeds before it. -/
theorem starts_of_first (l : List UInt8) (n i : Nat) (h : i ≤ l.length) (hc : cnt l i = n) (hn : ∀ j, j < i → cnt l j ≠ n) : starts l n = some i := by
  have h1 := starts_cnt l i h
  rw [hc] at h1
  rw [h1]
  have h2 := lineStart_le l i
  have h3 := cnt_lineStart l i
  by_cases e : lineStart l i = i
  · rw [e]
  · exact absurd (h3.trans hc) (hn _ (by omega))

theorem starts_of_none (l : List UInt8) (n : Nat) (hn : ∀ j, j ≤ l.length → cnt l j ≠ n) : starts l n = none := by
  cases h : starts l n with
  | none => rfl
  | some f => have := starts_some l n f h; exact absurd this.2.1 (hn f this.1)

/-- A line without its line feed. -/
def line (l : List UInt8) (f : Nat) : List UInt8 := (l.drop f).take (lineLen (l.drop f))

theorem line_length (l : List UInt8) (f : Nat) : (line l f).length = lineLen (l.drop f) := by
  have := lineLen_le (l.drop f)
  simp [line] at *; omega

def isCont (b : UInt8) : Bool := decide (128 ≤ b.toNat) && decide (b.toNat ≤ 191)
def sign (b : UInt8) : UInt8 := if b = 9 then 9 else 32
def margin (l : List UInt8) : List UInt8 := (l.filter (fun b => !isCont b)).map sign
def carets (l : List UInt8) : List UInt8 := (l.filter (fun b => !isCont b)).map fun _ => 94
def carets1 (l : List UInt8) : List UInt8 := if carets l = [] then [94] else carets l

/-- The excerpt of a range. -/
def excerpt (l : List UInt8) (a b : Nat) : List UInt8 :=
  let f := lineStart l a
  line l f ++ [10] ++ margin ((line l f).take (a - f)) ++ carets1 (((line l f).drop (a - f)).take (b - a))

end Go.Proofs.Ytbhbjjkpbdplpaa.Ex
