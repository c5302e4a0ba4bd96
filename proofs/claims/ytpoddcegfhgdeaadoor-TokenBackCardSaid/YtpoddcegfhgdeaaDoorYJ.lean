/- A step of the scan as a function of what stands from an offset on; numbers as texts. -/
import Derived.Test.YtpoddcegfhgdeaaDoorY1
import Derived.Lib.ItoaNum
set_option linter.unusedVariables false
set_option linter.unusedSimpArgs false
namespace Go.Proofs.YtpoddcegfhgdeaaDoor.Tk

def tw (p : UInt8 → Bool) (t : List UInt8) : Nat := (t.takeWhile p).length
def spaceX (t : List UInt8) : Option St := if 0 < tw isSp t then some (.sp (tw isSp t)) else none
def noteX (t : List UInt8) : Option St := if [45, 45].isPrefixOf t = true then some (.note (tw notLf t)) else none
def wordX (t : List UInt8) (fo : Bool) : Option St :=
  if isDg (t.headD 0) = true then none
  else if tw inNm t = 0 then none
  else if t.headD 0 = 95 ∧ 1 < tw inNm t then some (.bad 4)
  else if 32 < tw inNm t then some (.bad 5)
  else if fo = true then some (.bad 4)
  else some (.tok (wordKind (t.take (tw inNm t))) (tw inNm t))
def digX (t : List UInt8) (m : Bool) : Nat := if t.headD 0 = 45 ∧ m = true then 1 else 0
def numX (t : List UInt8) (m : Bool) : Option St :=
  if tw isDg (t.drop (digX t m)) = 0 then none
  else if numOk (t.take (digX t m + tw isDg (t.drop (digX t m)))) = false then some (.bad 2)
  else some (.tok 3 (digX t m + tw isDg (t.drop (digX t m))))
def signX (t : List UInt8) : Option St := match signs.find? (fun s => s.isPrefixOf t) with
  | some s => some (.tok 4 s.length)
  | none => none
def stepX (t : List UInt8) (m fo : Bool) : St :=
  match spaceX t with
  | some r => r
  | none => match noteX t with
    | some r => r
    | none => match wordX t fo with
      | some r => r
      | none => match numX t m with
        | some r => r
        | none => match signX t with
          | some r => r
          | none => .bad 4
def St.shift (o : Nat) : St → St
  | .bad e => .bad e
  | .sp b => .sp (o + b)
  | .note b => .note (o + b)
  | .tok k b => .tok k (o + b)

theorem run_tw (p : UInt8 → Bool) (l : List UInt8) (o : Nat) : run p l o = o + tw p (l.drop o) := rfl
theorem getD_drop (l : List UInt8) (o : Nat) : l.getD o 0 = (l.drop o).headD 0 := by
  rw [List.getD_eq_getElem?_getD, List.headD_eq_head?_getD, List.head?_drop]
theorem ext_tw (l : List UInt8) (o k : Nat) : ext l o (o + k) = (l.drop o).take k := by
  unfold ext; rw [Nat.add_sub_cancel_left]

theorem space_shift (l : List UInt8) (o : Nat) : spaceF l o = (spaceX (l.drop o)).map (St.shift o) := by
  unfold spaceF spaceX
  rw [run_tw]
  by_cases h : 0 < tw isSp (l.drop o)
  · rw [if_pos h, if_pos (by omega)]; rfl
  · rw [if_neg h, if_neg (by omega)]; rfl
theorem note_shift (l : List UInt8) (o : Nat) : noteF l o = (noteX (l.drop o)).map (St.shift o) := by
  unfold noteF noteX
  rw [run_tw]
  split <;> rfl
theorem word_shift (l : List UInt8) (ts : List Tok) (o : Nat) : wordF l ts o = (wordX (l.drop o) (fol ts o)).map (St.shift o) := by
  unfold wordF wordX
  rw [run_tw, getD_drop, ext_tw]
  by_cases h1 : isDg ((l.drop o).headD 0) = true
  · rw [if_pos h1, if_pos h1]; rfl
  · rw [if_neg h1, if_neg h1]
    by_cases h2 : tw inNm (l.drop o) = 0
    · rw [if_pos h2, if_pos (by omega)]; rfl
    · rw [if_neg h2, if_neg (by omega)]
      by_cases h3 : (l.drop o).headD 0 = 95 ∧ 1 < tw inNm (l.drop o)
      · rw [if_pos h3, if_pos ⟨h3.1, by omega⟩]; rfl
      · rw [if_neg h3, if_neg (fun h => h3 ⟨h.1, by omega⟩)]
        by_cases h4 : 32 < tw inNm (l.drop o)
        · rw [if_pos h4, if_pos (by omega)]; rfl
        · rw [if_neg h4, if_neg (by omega)]
          split <;> rfl
theorem num_shift (l : List UInt8) (ts : List Tok) (o : Nat) : numF l ts o = (numX (l.drop o) (mayS l ts)).map (St.shift o) := by
  have hd : digs l ts o = o + digX (l.drop o) (mayS l ts) := by
    unfold digs digX
    rw [getD_drop]
    split <;> rfl
  unfold numF numX
  rw [hd, run_tw, ← List.drop_drop, Nat.add_assoc, ext_tw]
  by_cases h1 : tw isDg ((l.drop o).drop (digX (l.drop o) (mayS l ts))) = 0
  · rw [if_pos h1, if_pos (by omega)]; rfl
  · rw [if_neg h1, if_neg (by omega)]
    split <;> rfl
theorem sign_shift (l : List UInt8) (o : Nat) : signF l o = (signX (l.drop o)).map (St.shift o) := by
  unfold signF signX
  generalize signs.find? (fun s => s.isPrefixOf (l.drop o)) = q
  cases q <;> rfl
theorem step_shift (l : List UInt8) (ts : List Tok) (o : Nat) : stepF l ts o = (stepX (l.drop o) (mayS l ts) (fol ts o)).shift o := by
  unfold stepF stepX
  rw [space_shift, note_shift, word_shift, num_shift, sign_shift]
  cases spaceX (l.drop o) with
  | some r => rfl
  | none =>
    cases noteX (l.drop o) with
    | some r => rfl
    | none =>
      cases wordX (l.drop o) (fol ts o) with
      | some r => rfl
      | none =>
        cases numX (l.drop o) (mayS l ts) with
        | some r => rfl
        | none =>
          cases signX (l.drop o) with
          | some r => rfl
          | none => rfl

/-! Numbers as texts. -/
def dgs (u : Nat) : List UInt8 := Lib.decDigits u
theorem isDg_dig (d : Nat) (h : d < 10) : isDg (UInt8.ofNat (48 + d)) = true := by
  unfold isDg
  have : (UInt8.ofNat (48 + d)).toNat = 48 + d := by rw [UInt8.toNat_ofNat']; omega
  rw [this]; simp; omega
theorem dgs_dig (u : Nat) : ∀ x ∈ dgs u, isDg x = true := by
  unfold dgs
  induction u using Nat.strongRecOn with
  | _ u ih =>
    rw [Lib.decDigits]
    split
    · next h => intro x hx; rw [List.mem_singleton.1 hx]; exact isDg_dig u h
    · next h =>
      intro x hx
      rcases List.mem_append.1 hx with hx | hx
      · exact ih (u / 10) (by omega) x hx
      · rw [List.mem_singleton.1 hx]; exact isDg_dig _ (by omega)
theorem dgs_ne (u : Nat) : dgs u ≠ [] := by
  unfold dgs
  rw [Lib.decDigits]
  split <;> simp
def valD (acc : Nat) (l : List UInt8) : Nat := l.foldl (fun a c => a * 10 + (c.toNat - 48)) acc
theorem valD_ge (l : List UInt8) : ∀ acc, acc ≤ valD acc l := by
  induction l with
  | nil => intro acc; exact Nat.le_refl _
  | cons c r ih =>
    intro acc
    have := ih (acc * 10 + (c.toNat - 48))
    show acc ≤ valD (acc * 10 + (c.toNat - 48)) r
    omega
theorem dgs_val (u : Nat) : valD 0 (dgs u) = u := by
  unfold dgs
  induction u using Nat.strongRecOn with
  | _ u ih =>
    rw [Lib.decDigits]
    split
    · next h =>
      show 0 * 10 + ((UInt8.ofNat (48 + u)).toNat - 48) = u
      rw [UInt8.toNat_ofNat']; omega
    · next h =>
      unfold valD
      rw [List.foldl_append]
      have := ih (u / 10) (by omega)
      unfold valD at this
      rw [this]
      show u / 10 * 10 + ((UInt8.ofNat (48 + u % 10)).toNat - 48) = u
      rw [UInt8.toNat_ofNat']; omega
theorem parse_val (l : List UInt8) : ∀ acc v, (∀ x ∈ l, isDg x = true) → valD acc l = v → v ≤ 18446744073709551615 → Lib.parseUintM (2 ^ 64 - 1) acc l = .ok v := by
  induction l with
  | nil => intro acc v _ hv _; rw [← hv]; rfl
  | cons c r ih =>
    intro acc v hd hv hle
    have hc := hd c (by simp)
    unfold isDg at hc
    rw [Bool.and_eq_true, decide_eq_true_eq, decide_eq_true_eq] at hc
    have hv2 : valD (acc * 10 + (c.toNat - 48)) r = v := hv
    have hge := valD_ge r (acc * 10 + (c.toNat - 48))
    unfold Lib.parseUintM
    rw [if_pos hc, if_neg (by omega), if_neg (by omega)]
    exact ih _ v (fun x hx => hd x (by simp [hx])) hv2 hle
theorem numOk_pos (u : Nat) (h : u ≤ 9223372036854775807) : numOk (dgs u) = true := by
  have h1 := parse_val (dgs u) 0 u (dgs_dig u) (dgs_val u) (by omega)
  have h2 := dgs_dig u
  cases hd : dgs u with
  | nil => exact absurd hd (dgs_ne u)
  | cons c r =>
    rw [hd] at h1 h2
    have hc := h2 c (by simp)
    unfold isDg at hc
    rw [Bool.and_eq_true, decide_eq_true_eq, decide_eq_true_eq] at hc
    unfold numOk Lib.parseIntB
    have h3 : ¬ (c.toNat = 43 ∨ c.toNat = 45) := by omega
    simp only [h3, if_false]
    unfold Lib.parseUintB
    rw [if_neg (by simp), h1]
    dsimp only
    have h45 : ¬ c.toNat = 45 := by omega
    have hu : ¬ 2 ^ (64 - 1) ≤ u := by omega
    simp [h45, hu]
theorem numOk_neg (u : Nat) (h : u ≤ 9223372036854775808) : numOk (45 :: dgs u) = true := by
  have h1 := parse_val (dgs u) 0 u (dgs_dig u) (dgs_val u) (by omega)
  unfold numOk Lib.parseIntB
  have h3 : ((45 : UInt8).toNat = 43 ∨ (45 : UInt8).toNat = 45) := .inr rfl
  simp only [h3, if_true]
  unfold Lib.parseUintB
  rw [if_neg (dgs_ne u), h1]
  dsimp only
  have h45 : (45 : UInt8).toNat = 45 := rfl
  have hu : ¬ 2 ^ (64 - 1) < u := by omega
  simp [h45, hu]

theorem takeWhile_app (p : UInt8 → Bool) (d y : List UInt8) (hd : ∀ x ∈ d, p x = true) (hy : y = [] ∨ ∃ c r, y = c :: r ∧ p c = false) : (d ++ y).takeWhile p = d := by
  rw [List.takeWhile_append_of_pos hd]
  rcases hy with rfl | ⟨c, r, rfl, h⟩
  · simp
  · simp [h]
/-- What does not go on with a digit. -/
def NoDg (y : List UInt8) : Prop := y = [] ∨ ∃ c r, y = c :: r ∧ isDg c = false
theorem dg_not (c : UInt8) (h : isDg c = true) : isSp c = false ∧ c ≠ 45 := by
  unfold isDg at h
  rw [Bool.and_eq_true, decide_eq_true_eq, decide_eq_true_eq] at h
  have key : ∀ k : UInt8, k.toNat < 48 → c ≠ k := fun k hk e => by rw [e] at h; omega
  refine ⟨?_, key 45 (by decide)⟩
  unfold isSp
  simp only [Bool.or_eq_false_iff, beq_eq_false_iff_ne]
  exact ⟨⟨⟨key 32 (by decide), key 9 (by decide)⟩, key 13 (by decide)⟩, key 10 (by decide)⟩

theorem stepX_num (d y : List UInt8) (m fo : Bool) (h0 : d ≠ []) (hd : ∀ x ∈ d, isDg x = true) (hy : NoDg y) (hok : numOk d = true) : stepX (d ++ y) m fo = .tok 3 d.length := by
  cases d with
  | nil => exact absurd rfl h0
  | cons c r =>
    obtain ⟨hs, h45⟩ := dg_not c (hd c (by simp))
    have e1 : spaceX (c :: r ++ y) = none := by unfold spaceX tw; simp [hs]
    have e2 : noteX (c :: r ++ y) = none := by
      unfold noteX
      rw [if_neg]
      simp [List.isPrefixOf, Ne.symm h45]
    have e3 : wordX (c :: r ++ y) fo = none := by unfold wordX; simp [hd c (by simp)]
    have hdx : digX (c :: r ++ y) m = 0 := by unfold digX; simp [h45]
    have htw : tw isDg (c :: r ++ y) = (c :: r).length := by unfold tw; rw [takeWhile_app isDg (c :: r) y hd hy]
    have e4 : numX (c :: r ++ y) m = some (.tok 3 (c :: r).length) := by
      unfold numX
      rw [hdx, List.drop_zero, htw, Nat.zero_add, List.take_left]
      rw [if_neg (by simp), if_neg (by rw [hok]; decide)]
    unfold stepX
    rw [e1, e2, e3, e4]

theorem stepX_neg (d y : List UInt8) (fo : Bool) (h0 : d ≠ []) (hd : ∀ x ∈ d, isDg x = true) (hy : NoDg y) (hok : numOk (45 :: d) = true) : stepX (45 :: d ++ y) true fo = .tok 3 (d.length + 1) := by
  cases d with
  | nil => exact absurd rfl h0
  | cons c r =>
    obtain ⟨hs, h45⟩ := dg_not c (hd c (by simp))
    have e1 : spaceX (45 :: (c :: r) ++ y) = none := by unfold spaceX tw; simp [show isSp 45 = false by decide]
    have e2 : noteX (45 :: (c :: r) ++ y) = none := by
      unfold noteX
      rw [if_neg]
      simp [List.isPrefixOf, Ne.symm h45]
    have e3 : wordX (45 :: (c :: r) ++ y) fo = none := by
      unfold wordX tw
      simp [show isDg 45 = false by decide, show inNm 45 = false by decide]
    have hdx : digX (45 :: (c :: r) ++ y) true = 1 := by unfold digX; simp
    have htw : tw isDg (c :: r ++ y) = (c :: r).length := by unfold tw; rw [takeWhile_app isDg (c :: r) y hd hy]
    have e4 : numX (45 :: (c :: r) ++ y) true = some (.tok 3 ((c :: r).length + 1)) := by
      unfold numX
      rw [hdx]
      have hdr : (45 :: (c :: r) ++ y).drop 1 = c :: r ++ y := rfl
      rw [hdr, htw, Nat.add_comm 1]
      have htk : (45 :: (c :: r) ++ y).take ((c :: r).length + 1) = 45 :: (c :: r) := by
        rw [List.cons_append, List.take_succ_cons, List.take_left]
      rw [htk, if_neg (by simp), if_neg (by rw [hok]; decide)]
    unfold stepX
    rw [e1, e2, e3, e4]

/-- A minus that is no sign. -/
theorem stepX_minus (d y : List UInt8) (fo : Bool) (h0 : d ≠ []) (hd : ∀ x ∈ d, isDg x = true) : stepX (45 :: d ++ y) false fo = .tok 4 1 := by
  cases d with
  | nil => exact absurd rfl h0
  | cons c r =>
    have hc := hd c (by simp)
    obtain ⟨hs, h45⟩ := dg_not c hc
    have h62 : c ≠ 62 := by
      rintro rfl; revert hc; decide
    have e1 : spaceX (45 :: (c :: r) ++ y) = none := by unfold spaceX tw; simp [show isSp 45 = false by decide]
    have e2 : noteX (45 :: (c :: r) ++ y) = none := by
      unfold noteX
      rw [if_neg]
      simp [List.isPrefixOf, Ne.symm h45]
    have e3 : wordX (45 :: (c :: r) ++ y) fo = none := by
      unfold wordX tw
      simp [show isDg 45 = false by decide, show inNm 45 = false by decide]
    have e4 : numX (45 :: (c :: r) ++ y) false = none := by
      unfold numX
      have hdx : digX (45 :: (c :: r) ++ y) false = 0 := by unfold digX; simp
      rw [hdx, List.drop_zero]
      unfold tw
      simp [show isDg 45 = false by decide]
    have e5 : signX (45 :: (c :: r) ++ y) = some (.tok 4 1) := by
      have hb : ((62 : UInt8) == c) = false := by simpa using Ne.symm h62
      unfold signX signs
      simp [List.find?, List.isPrefixOf, hb]
    unfold stepX
    rw [e1, e2, e3, e4, e5]

end Go.Proofs.YtpoddcegfhgdeaaDoor.Tk
