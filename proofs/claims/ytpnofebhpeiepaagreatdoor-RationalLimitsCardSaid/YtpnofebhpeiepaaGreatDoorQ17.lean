/- The law RationalLimits. -/
import Derived.Test.YtpnofebhpeiepaaGreatDoorQ15
import Derived.Deep.DeepCutAuto
set_option linter.unusedVariables false
set_option linter.unusedSimpArgs false
namespace Go.Proofs.YtpnofebhpeiepaaGreatDoor
open Go.RowKit _root_.Go.Proofs.YtpnofebhpeiepaaGreatDoor.Nm

/-- A numeral of 400 digits: 398 nines between two given ones. -/
def limL (a d : UInt8) : List UInt8 := a :: (List.replicate 398 57 ++ [d])

theorem nines_dig (m : Nat) : (List.replicate m (57 : UInt8)).all isDig = true := by rw [List.all_eq_true]; intro x hx; rw [(List.mem_replicate.1 hx).2]; decide
theorem limM_canonN (l : List UInt8) (a : UInt8) (ha : isDig a = true) (h0 : a ≠ 48) (hl : l.all isDig = true) : canonN (a :: l) = true := by
  have h1 : (some a != some (48 : UInt8)) = true := by simpa using h0
  unfold canonN
  rw [List.all_cons, ha, hl, List.head?_cons, h1]
  rfl
theorem limL_all (a d : UInt8) (hd : isDig d = true) : (List.replicate 398 (57 : UInt8) ++ [d]).all isDig = true := by
  rw [List.all_append, nines_dig, List.all_cons, hd]; rfl
theorem limL_len (a d : UInt8) : (limL a d).length = 400 := by unfold limL; rw [List.length_cons, List.length_append, List.length_replicate, List.length_singleton]
theorem limL_canonN (a d : UInt8) (ha : isDig a = true) (h0 : a ≠ 48) (hd : isDig d = true) : canonN (limL a d) = true := limM_canonN _ a ha h0 (limL_all a d hd)
theorem limL_canonN1 (a d : UInt8) (ha : isDig a = true) (h0 : a ≠ 48) (hd : isDig d = true) : canonN (limL a d ++ [48]) = true := by
  unfold limL
  rw [List.cons_append]
  refine limM_canonN _ a ha h0 ?_
  rw [List.all_append, limL_all a d hd]
  decide

/-- What is known of such a text and of its number. -/
structure Lim (B : ByteArray) (n : Nat) : Prop where
  ris : RIs B ((n : Int) : Rat)
  big : 1 < n
  digs : Lib.decDigits n = B.data.toList
  digs1 : Lib.decDigits (10 * n) = B.data.toList ++ [48]
  len : B.data.toList.length = 400
  head : B.data.toList.head? ≠ some 45
  canon : canon B.data.toList = true

theorem lim_of (a d : UInt8) (ha : isDig a = true) (h0 : a ≠ 48) (hd : isDig d = true) : ∃ n, Lim ⟨(limL a d).toArray⟩ n := by
  have hc := limL_canonN a d ha h0 hd
  have hc1 := limL_canonN1 a d ha h0 hd
  have hl := limL_len a d
  have hh := canonN_head _ hc
  have hd := dec_tv _ hc
  have hd1 := dec_tv _ hc1
  rw [tv_snoc, show dig 48 = 0 from by decide, Nat.zero_add] at hd1
  have hcn : canon (limL a d) = true := by rw [canon_pos _ hh, hc, hl]; rfl
  refine ⟨tv (limL a d), ⟨?_, ?_, hd, hd1, hl, hh, hcn⟩⟩
  · refine ⟨?_, ?_⟩
    · rw [rt_int, Lib.itoa, if_neg (by omega), Int.toNat_natCast, hd]
    · unfold rshort
      rw [Rat.num_intCast, Rat.den_intCast, Lib.itoa, if_neg (by omega), Int.toNat_natCast, hd, hcn]
      exact canon_one
  · rcases Nat.lt_or_ge 1 (tv (limL a d)) with h | h
    · exact h
    · have h2 : tv (limL a d) = 0 ∨ tv (limL a d) = 1 := by omega
      have h3 := congrArg List.length hd
      rw [hl] at h3
      rcases h2 with h2 | h2 <;> rw [h2] at h3 <;> exact absurd h3 (by decide +kernel)

theorem Lim.itoa {B : ByteArray} {n : Nat} (h : Lim B n) : Lib.itoa (n : Int) = B.data.toList := by
  rw [Lib.itoa, if_neg (by omega), Int.toNat_natCast, h.digs]
theorem Lim.itoa1 {B : ByteArray} {n : Nat} (h : Lim B n) : Lib.itoa ((10 * n : Nat) : Int) = B.data.toList ++ [48] := by
  rw [Lib.itoa, if_neg (by omega), Int.toNat_natCast, h.digs1]
theorem Lim.long {B : ByteArray} {n : Nat} (h : Lim B n) : Nm.canon (B.data.toList ++ [48]) = false := by
  have hh : (B.data.toList ++ [48]).head? ≠ some 45 := by
    have h1 := h.head
    have h2 := h.len
    cases hb : B.data.toList with
    | nil => rw [hb] at h2; cases h2
    | cons c r => rw [hb] at h1; exact h1
  rw [canon_pos _ hh, List.length_append, h.len]
  simp
theorem Lim.ne {B : ByteArray} {n : Nat} (h : Lim B n) : ((n : Int) : Rat) ≠ 0 := by
  have := h.big
  intro e
  have h2 := congrArg Rat.num e
  rw [Rat.num_intCast] at h2
  have h3 : (n : Int) = 0 := h2
  omega

theorem str_ten : RIs ⟨#[49, 48]⟩ 10 := RIs.of (by decide +kernel)

theorem Lim.mul {B : ByteArray} {n : Nat} (h : Lim B n) : OpRes fMul gAdd B ⟨#[49, 48]⟩ ⟨#[]⟩ 5 := by
  have e : ((n : Int) : Rat) * 10 = (((10 * n : Nat) : Int) : Rat) := by
    rw [show (((10 * n : Nat) : Int) : Rat) = ((10 : Int) : Rat) * ((n : Int) : Rat) from by rw [← Rat.intCast_mul]; congr 1]
    rw [Rat.mul_comm]; rfl
  refine Mul_long h.ris str_ten e ?_
  unfold rshort
  rw [Rat.num_intCast, h.itoa1, h.long]; rfl
theorem Lim.sub {B : ByteArray} {n : Nat} (h : Lim B n) : OpRes fSub gAdd B B ⟨#[48]⟩ 0 := Sub_res h.ris h.ris str_zero (by grind)
theorem Lim.inv {B : ByteArray} {n : Nat} (h : Lim B n) : (1 / ((n : Int) : Rat)).num = 1 ∧ (1 / ((n : Int) : Rat)).den = n := by
  have h1 := divInt_low 1 (n : Int) (by have := h.big; omega) (by simp)
  have e : 1 / ((n : Int) : Rat) = Rat.divInt 1 n := by
    have := quo_div 1 ((n : Int) : Rat)
    rw [← this, Rat.den_intCast, Rat.num_intCast]; simp
  rw [e]
  exact ⟨h1.1, by have := h1.2; omega⟩
theorem Lim.quo {B : ByteArray} {n : Nat} (h : Lim B n) : RIs ((⟨#[49, 47]⟩ : ByteArray) ++ B) (1 / ((n : Int) : Rat)) := by
  obtain ⟨h1, h2⟩ := h.inv
  refine ⟨?_, ?_⟩
  · unfold rt
    rw [h2, if_neg (by have := h.big; omega), h1, h.itoa]
    rw [show Lib.itoa 1 = [49] from by decide +kernel]
    apply ByteArray.ext
    simp [ByteArray.append_eq, ByteArray.data_append]
  · unfold rshort
    rw [h1, h2, h.itoa, h.canon, canon_one]; rfl
theorem Lim.div {B : ByteArray} {n : Nat} (h : Lim B n) : OpRes fDiv gDiv ⟨#[49]⟩ B ((⟨#[49, 47]⟩ : ByteArray) ++ B) 0 := Div_res str_one h.ris h.ne h.quo rfl
theorem Lim.div2 {B : ByteArray} {n : Nat} (h : Lim B n) : OpRes fDiv gDiv ((⟨#[49, 47]⟩ : ByteArray) ++ B) ⟨#[49, 48]⟩ ⟨#[]⟩ 5 := by
  have hd := divInt_low 1 ((10 * n : Nat) : Int) (by have := h.big; omega) (by simp)
  have hn := h.ne
  obtain ⟨h1, h2⟩ := h.inv
  have e : (1 / ((n : Int) : Rat)) / 10 = Rat.divInt 1 ((10 * n : Nat) : Int) := by
    have := quo_div (1 / ((n : Int) : Rat)) 10
    rw [← this, h1, h2]
    congr 1
    show (n : Int) * 10 = _
    omega
  refine Div_long h.quo str_ten (by decide +kernel) e ?_
  unfold rshort
  rw [hd.2, h.itoa1, h.long, Bool.and_false]
theorem Lim.add {B : ByteArray} {n : Nat} (h : Lim B n) : OpRes fAdd gAdd B ⟨#[48]⟩ B 0 := Add_res h.ris str_zero h.ris (by grind)
theorem Lim.valid {B : ByteArray} {n : Nat} (h : Lim B n) : (rval B.data.toList).isSome = true := by rw [h.ris.val]; rfl
theorem Lim.invalid {B : ByteArray} {n : Nat} (h : Lim B n) : (rval (B ++ (⟨#[48]⟩ : ByteArray)).data.toList).isSome = false := by
  have e : (B ++ (⟨#[48]⟩ : ByteArray)).data.toList = B.data.toList ++ [48] := by simp [ByteArray.append_eq, ByteArray.data_append]
  rw [e, rval_int, h.long]
  · rfl
  · have := no_slash _ h.canon
    simp only [List.mem_append, List.mem_singleton, not_or]
    exact ⟨this, by decide⟩

/-- The cells of such a text. -/
def limC (a d : Nat) : List Nat := a :: (List.replicate 398 57 ++ [d])
theorem ends_of (m x a d : Nat) : ((List.replicate (m + 2) x).set 0 a).set (m + 1) d = a :: (List.replicate m x ++ [d]) := by
  rw [List.replicate_succ, List.set_cons_zero, List.set_cons_succ, List.replicate_succ', List.set_append_right _ _ (by rw [List.length_replicate]; exact Nat.le_refl _), List.length_replicate, Nat.sub_self, List.set_cons_zero]
theorem limC_of (a d : Nat) : ((List.replicate 400 57).set 0 a).set 399 d = limC a d := ends_of 398 57 a d
theorem limC_len (a d : Nat) : (limC a d).length = 400 := by unfold limC; rw [List.length_cons, List.length_append, List.length_replicate, List.length_singleton]
theorem limC_limL (a d : Nat) (ha : a < 256) (hd : d < 256) : limC a d = (limL (UInt8.ofNat a) (UInt8.ofNat d)).map (·.toNat) := by
  have h1 : (UInt8.ofNat a).toNat = a := by simp; omega
  have h2 : (UInt8.ofNat d).toNat = d := by simp; omega
  unfold limC limL
  rw [List.map_cons, List.map_append, List.map_replicate, List.map_cons, List.map_nil, h1, h2]
  rfl

end Go.Proofs.YtpnofebhpeiepaaGreatDoor
