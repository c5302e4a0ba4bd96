/- Canonical texts: their parts, what strconv.ParseInt says of them, how long they are. -/
import Derived.Test.YtmdppblhbmbakaaGreatDoorV1
import Derived.Lib.AtoiErrMem
set_option linter.unusedVariables false
set_option linter.unusedSimpArgs false
namespace Go.Proofs.YtmdppblhbmbakaaGreatDoor
open Go.RowKit _root_.Go.Proofs.YtmdppblhbmbakaaGreatDoor.Nm

theorem canonN_parts {l : List UInt8} (h : canonN l = true) : l.all isDig = true ∧ 0 < l.length := by
  simp only [canonN, Bool.and_eq_true, Bool.not_eq_true', List.isEmpty_eq_false_iff] at h
  exact ⟨h.1.1, List.length_pos_iff.2 h.1.2⟩

theorem ext_one (s : ByteArray) (r : List UInt8) (h : s.data.toList = 45 :: r) : (s.extract 1 s.size).data.toList = r := by
  rw [Lib.extract_data, h]
  have := len_size s
  rw [h] at this
  simp at this
  simp [← this]

theorem tv_cons (c : UInt8) (r : List UInt8) : tv (c :: r) = tv r + 10 ^ r.length * dig c := by
  have h := tv_append [c] r
  rw [List.singleton_append] at h
  rw [h]
  rfl

theorem parseM (M : Nat) (hM : M = 18446744073709551615) (l : List UInt8) (h : l.all isDig = true) (acc : Nat) (ha : acc ≤ M) :
    Lib.parseUintM M acc l = if 10 ^ l.length * acc + tv l ≤ M then .ok (10 ^ l.length * acc + tv l) else .range := by
  induction l generalizing acc with
  | nil =>
    rw [Lib.parseUintM, List.length_nil, Nat.pow_zero, Nat.one_mul, tv_nil, Nat.add_zero, if_pos ha]
  | cons c r ih =>
    simp only [List.all_cons, Bool.and_eq_true] at h
    have hc := h.1
    simp [isDig] at hc
    have hv : 10 ^ (c :: r).length * acc + tv (c :: r) = 10 ^ r.length * (acc * 10 + dig c) + tv r := by
      rw [tv_cons, List.length_cons, Nat.pow_succ, Nat.mul_add, Nat.mul_assoc, Nat.mul_comm 10 acc]
      omega
    have hp : 1 ≤ 10 ^ r.length := Nat.one_le_pow _ _ (by omega)
    have hge : acc * 10 + dig c ≤ 10 ^ r.length * (acc * 10 + dig c) := Nat.le_mul_of_pos_left _ (by omega)
    rw [Lib.parseUintM, if_pos hc, hv]
    change (if 1844674407370955162 ≤ acc then _ else if M < acc * 10 + dig c then _ else Lib.parseUintM M (acc * 10 + dig c) r) = _
    by_cases h1 : 1844674407370955162 ≤ acc
    · rw [if_pos h1, if_neg (by omega)]
    · rw [if_neg h1]
      by_cases h2 : M < acc * 10 + dig c
      · rw [if_pos h2, if_neg (by omega)]
      · rw [if_neg h2]
        exact ih h.2 _ (by omega)

theorem parse_canon (l : List UInt8) (h : canon l = true) : Lib.parseIntB 64 l = if -9223372036854775808 ≤ zv l ∧ zv l ≤ 9223372036854775807 then .ok (zv l) else .range := by
  by_cases h45 : l.head? = some 45
  · cases l with
    | nil => simp at h45
    | cons c r =>
      simp at h45
      subst h45
      rw [canon_neg] at h
      simp only [Bool.and_eq_true] at h
      obtain ⟨h1, h2⟩ := canonN_parts h.1.1
      have hne : r ≠ [] := by rintro rfl; simp at h2
      have hp := parseM 18446744073709551615 rfl r h1 0 (by omega)
      rw [Nat.mul_zero, Nat.zero_add] at hp
      rw [zv_neg]
      simp only [Lib.parseIntB, Lib.parseUintB, show ((45 : UInt8).toNat = 43 ∨ (45 : UInt8).toNat = 45) = True from by simp, if_true, if_neg hne, show (2 ^ 64 - 1 : Nat) = 18446744073709551615 from rfl, hp]
      by_cases hv : tv r ≤ 18446744073709551615
      · rw [if_pos hv]
        by_cases hw : tv r ≤ 9223372036854775808
        · rw [if_pos (⟨by omega, by omega⟩ : -9223372036854775808 ≤ (-(tv r : Int)) ∧ (-(tv r : Int)) ≤ 9223372036854775807)]
          simp
          omega
        · rw [if_neg (by omega)]
          simp
          omega
      · rw [if_neg hv, if_neg (by omega)]
  · rw [canon_pos l h45] at h
    simp only [Bool.and_eq_true] at h
    obtain ⟨h1, h2⟩ := canonN_parts h.1
    rw [zv_pos l h45]
    cases l with
    | nil => simp at h2
    | cons c r =>
      have hp := parseM 18446744073709551615 rfl (c :: r) h1 0 (by omega)
      rw [Nat.mul_zero, Nat.zero_add] at hp
      have hd := List.all_eq_true.1 h1 c (by simp)
      simp [isDig] at hd
      have e1 : (c.toNat = 43) = False := by simp; omega
      have e2 : (c.toNat = 45) = False := by simp; omega
      generalize hT : tv (c :: r) = T at hp ⊢
      simp only [Lib.parseIntB, Lib.parseUintB, e1, e2, or_self, if_false, show (2 ^ 64 - 1 : Nat) = 18446744073709551615 from rfl, hp, if_neg (List.cons_ne_nil c r)]
      by_cases hv : T ≤ 18446744073709551615
      · rw [if_pos hv]
        by_cases hw : T ≤ 9223372036854775807
        · rw [if_pos (⟨by omega, by omega⟩ : -9223372036854775808 ≤ (T : Int) ∧ (T : Int) ≤ 9223372036854775807)]
          simp
          omega
        · rw [if_neg (by omega)]
          simp
          omega
      · rw [if_neg hv, if_neg (by omega)]

theorem canon_size (s : ByteArray) (h : canon s.data.toList = true) : s.size ≤ 401 := by
  rw [← len_size]
  by_cases h45 : s.data.toList.head? = some 45
  · cases hl : s.data.toList with
    | nil => simp
    | cons c r =>
      rw [hl] at h45 h
      simp at h45
      subst h45
      rw [canon_neg] at h
      simp only [Bool.and_eq_true, decide_eq_true_eq] at h
      rw [List.length_cons]
      omega
  · rw [canon_pos _ h45] at h
    simp only [Bool.and_eq_true, decide_eq_true_eq] at h
    omega

theorem below_of_parse {w w1 : World} {e : TypeId} (h : w1 = w ∨ ∃ t, w1 = Lib.bytesWorld w e t) : Below w.heap.size w w1 := by
  rcases h with rfl | ⟨t, rfl⟩
  · exact Below.refl _ _
  · exact Lib.bytesWorld_below w e t


theorem short_zv (l : List UInt8) (h : canon l = true) (hl : l.length ≤ 18) : (zv l).natAbs < 1000000000000000000 := by
  by_cases h45 : l.head? = some 45
  · cases l with
    | nil => simp at h45
    | cons c r =>
      simp at h45
      subst h45
      rw [canon_neg] at h
      simp only [Bool.and_eq_true] at h
      have h1 := tv_lt r (canonN_parts h.1.1).1
      rw [List.length_cons] at hl
      have h2 := Nat.pow_le_pow_right (n := 10) (by omega) (show r.length ≤ 18 by omega)
      rw [zv_neg]
      omega
  · rw [canon_pos l h45] at h
    simp only [Bool.and_eq_true] at h
    have h1 := tv_lt l (canonN_parts h.1).1
    have h2 := Nat.pow_le_pow_right (n := 10) (by omega) hl
    rw [zv_pos l h45]
    omega

theorem cons_of_head (l : List UInt8) (h : l.head? = some 45) : ∃ r, l = 45 :: r := by
  cases l with
  | nil => simp at h
  | cons c r => simp at h; exact ⟨r, by rw [h]⟩

end Go.Proofs.YtmdppblhbmbakaaGreatDoor
