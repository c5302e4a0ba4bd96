/- The mathematics of scanning: runs of bytes, the parts of a source, the scan. -/
import Derived.Lib.ParseIntB
import Derived.Lib.Bytes
set_option linter.unusedVariables false
set_option linter.unusedSimpArgs false
namespace Go.Proofs.YtpoddcegfhgdeaaDoor.Tk

def isSp (b : UInt8) : Bool := b == 32 || b == 9 || b == 13 || b == 10
def isDg (b : UInt8) : Bool := decide (48 ≤ b.toNat) && decide (b.toNat ≤ 57)
def inNm (b : UInt8) : Bool := (decide (97 ≤ b.toNat) && decide (b.toNat ≤ 122)) || (decide (65 ≤ b.toNat) && decide (b.toNat ≤ 90)) || isDg b || b == 95
def notLf (b : UInt8) : Bool := b != 10
def okB (b : UInt8) : Bool := isSp b || (decide (32 ≤ b.toNat) && decide (b.toNat ≤ 126))

/-- The first offset from o on whose byte does not have p. -/
def run (p : UInt8 → Bool) (l : List UInt8) (o : Nat) : Nat := o + ((l.drop o).takeWhile p).length

theorem run_ge (p : UInt8 → Bool) (l : List UInt8) (o : Nat) : o ≤ run p l o := Nat.le_add_right _ _
theorem takeWhile_len (p : UInt8 → Bool) : ∀ l : List UInt8, (l.takeWhile p).length ≤ l.length
  | [] => Nat.le_refl _
  | a :: l => by
    rw [List.takeWhile_cons]
    split
    · simp; exact takeWhile_len p l
    · simp
theorem run_le (p : UInt8 → Bool) (l : List UInt8) (o : Nat) (h : o ≤ l.length) : run p l o ≤ l.length := by
  unfold run
  have := takeWhile_len p (l.drop o)
  rw [List.length_drop] at this
  omega
theorem run_end (p : UInt8 → Bool) (l : List UInt8) (o : Nat) (h : l.length ≤ o) : run p l o = o := by
  unfold run; rw [List.drop_eq_nil_of_le h]; rfl
theorem run_yes (p : UInt8 → Bool) (l : List UInt8) (o : Nat) (h : o < l.length) (hp : p l[o] = true) : run p l o = run p l (o + 1) := by
  unfold run
  rw [List.drop_eq_getElem_cons h, List.takeWhile_cons, if_pos hp, List.length_cons]
  omega
theorem run_no (p : UInt8 → Bool) (l : List UInt8) (o : Nat) (h : o < l.length) (hp : p l[o] = false) : run p l o = o := by
  unfold run
  rw [List.drop_eq_getElem_cons h, List.takeWhile_cons, if_neg (by simp [hp])]
  rfl
theorem run_mem (p : UInt8 → Bool) (l : List UInt8) : ∀ (n o : Nat), run p l o = o + n → ∀ (i : Nat) (h : i < l.length), o ≤ i → i < o + n → p l[i] = true
  | 0, o, _, i, h, h1, h2 => by omega
  | n + 1, o, hr, i, h, h1, h2 => by
    have ho : o < l.length := by omega
    by_cases hp : p l[o] = true
    · by_cases e : i = o
      · subst e; exact hp
      · refine run_mem p l n (o + 1) ?_ i h (by omega) (by omega)
        rw [← run_yes p l o ho hp, hr]; omega
    · rw [run_no p l o ho (by simpa using hp)] at hr; omega
theorem run_stop (p : UInt8 → Bool) (l : List UInt8) : ∀ (n o : Nat), run p l o = o + n → (h : o + n < l.length) → p l[o + n] = false
  | 0, o, hr, h => by
    by_cases hp : p l[o] = true
    · have h1 := run_yes p l o h hp
      have h2 := run_ge p l (o + 1)
      omega
    · simpa using hp
  | n + 1, o, hr, h => by
    have ho : o < l.length := by omega
    by_cases hp : p l[o] = true
    · have h3 := run_stop p l n (o + 1) (by rw [← run_yes p l o ho hp, hr]; omega) (by omega)
      simp only [show o + (n + 1) = o + 1 + n by omega]
      exact h3
    · rw [run_no p l o ho (by simpa using hp)] at hr; omega

/-- A token: its kind, and its range. Its text are the bytes of the range. -/
abbrev Tok := Nat × Nat × Nat
def ext (l : List UInt8) (a b : Nat) : List UInt8 := (l.drop a).take (b - a)

def keywords : List (List UInt8) := [[109, 111, 100, 117, 108, 101], [105, 109, 112, 111, 114, 116], [100, 97, 116, 97], [102, 117, 110], [114, 101, 97, 100], [108, 101, 116], [105, 110], [105, 102], [116, 104, 101, 110], [101, 108, 115, 101], [109, 97, 116, 99, 104], [118, 105, 101, 119], [119, 105, 116, 104], [101, 110, 100], [99, 111, 112, 121]]
def kw (x : List UInt8) : Bool := keywords.contains x
def wordKind (x : List UInt8) : Nat := if x = [95] then 4 else if kw x = true then 5 else if (x.headD 0).toNat ≤ 90 then 2 else 1
def signs : List (List UInt8) := [[45, 62], [60, 61], [61, 61], [40], [41], [44], [124], [61], [58], [60], [43], [45], [42], [47], [37]]

/-- May a - that a digit follows belong to a number, behind a token of a kind with a text? -/
def mayK (k : Nat) (x : List UInt8) : Bool := if k = 1 ∨ k = 2 ∨ k = 3 then false else if k = 4 then !(x == [41] || x == [58] || x == [95]) else true
def mayS (l : List UInt8) (ts : List Tok) : Bool := match ts.getLast? with
  | none => true
  | some t => mayK t.1 (ext l t.2.1 t.2.2)
def fol (ts : List Tok) (o : Nat) : Bool := match ts.getLast? with
  | none => false
  | some t => t.1 == 3 && t.2.2 == o
def numOk (x : List UInt8) : Bool := match Lib.parseIntB 64 x with
  | .ok _ => true
  | _ => false

/-- What stands at an offset: something wrong, white space, a comment, a token; none: nothing of the kind. -/
inductive St where
  | bad (e : Nat)
  | sp (b : Nat)
  | note (b : Nat)
  | tok (k b : Nat)

def spaceF (l : List UInt8) (o : Nat) : Option St := if o < run isSp l o then some (.sp (run isSp l o)) else none
def noteF (l : List UInt8) (o : Nat) : Option St := if [45, 45].isPrefixOf (l.drop o) = true then some (.note (run notLf l o)) else none
def wordF (l : List UInt8) (ts : List Tok) (o : Nat) : Option St :=
  if isDg (l.getD o 0) = true then none
  else if run inNm l o = o then none
  else if l.getD o 0 = 95 ∧ o + 1 < run inNm l o then some (.bad 4)
  else if o + 32 < run inNm l o then some (.bad 5)
  else if fol ts o = true then some (.bad 4)
  else some (.tok (wordKind (ext l o (run inNm l o))) (run inNm l o))
def digs (l : List UInt8) (ts : List Tok) (o : Nat) : Nat := if l.getD o 0 = 45 ∧ mayS l ts = true then o + 1 else o
def numF (l : List UInt8) (ts : List Tok) (o : Nat) : Option St :=
  if run isDg l (digs l ts o) = digs l ts o then none
  else if numOk (ext l o (run isDg l (digs l ts o))) = false then some (.bad 2)
  else some (.tok 3 (run isDg l (digs l ts o)))
def signF (l : List UInt8) (o : Nat) : Option St := match signs.find? (fun s => s.isPrefixOf (l.drop o)) with
  | some s => some (.tok 4 (o + s.length))
  | none => none
def stepF (l : List UInt8) (ts : List Tok) (o : Nat) : St :=
  match spaceF l o with
  | some r => r
  | none => match noteF l o with
    | some r => r
    | none => match wordF l ts o with
      | some r => r
      | none => match numF l ts o with
        | some r => r
        | none => match signF l o with
          | some r => r
          | none => .bad 4

/-- The rest of a scan: the offset and the number of an error, or the tokens and comments. -/
def scanL (l : List UInt8) : Nat → Nat → List Tok → List (Nat × Nat) → Sum (Nat × Nat) (List Tok × List (Nat × Nat))
  | 0, o, ts, ns => .inl (o, 0)
  | f + 1, o, ts, ns => if o < l.length then (match stepF l ts o with
      | .bad e => .inl (o, e)
      | .sp b => scanL l f b ts ns
      | .note b => scanL l f b ts (ns ++ [(o, b)])
      | .tok k b => scanL l f b (ts ++ [(k, o, b)]) ns)
    else .inr (ts ++ [(6, o, o)], ns)

def scanF (l : List UInt8) : Sum (Nat × Nat) (List Tok × List (Nat × Nat)) :=
  if 65536 < l.length then .inl (0, 5)
  else match l.findIdx? (fun b => !okB b) with
    | some i => .inl (i, 25)
    | none => scanL l (l.length + 1) 0 [] []

/-- A step goes on, and not beyond the end. -/
def St.to (o n : Nat) : St → Prop
  | .bad _ => True
  | .sp b => o < b ∧ b ≤ n
  | .note b => o < b ∧ b ≤ n
  | .tok _ b => o < b ∧ b ≤ n

end Go.Proofs.YtpoddcegfhgdeaaDoor.Tk
