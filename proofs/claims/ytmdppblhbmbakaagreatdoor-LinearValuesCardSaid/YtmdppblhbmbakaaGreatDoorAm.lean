/- Plain mathematics of adding a multiple to a number limb by limb, of its cut, and of reading chunks of nine digits. -/
import Derived.Test.YtmdppblhbmbakaaGreatDoorTxt
namespace Go.Proofs.YtmdppblhbmbakaaGreatDoor.Nm

/-- One step: a digit x, a carry and y times count give a limb and a new carry. -/
theorem am_limb (t : Int) : 0 ≤ t % 1000000000 ∧ t % 1000000000 < 1000000000 := by omega

theorem tmod_emod (t : Int) : (t.tmod 1000000000 + 1000000000).tmod 1000000000 = t % 1000000000 := by
  rcases Int.lt_or_le t 0 with h | h
  · have h1 : t.tmod 1000000000 = -((-t) % 1000000000) := by
      rw [show t = -(-t) from by omega, Int.neg_tmod, Int.tmod_eq_emod_of_nonneg (by omega), Int.neg_neg]
    rw [h1, Int.tmod_eq_emod_of_nonneg (by omega)]
    omega
  · rw [Int.tmod_eq_emod_of_nonneg h, Int.tmod_eq_emod_of_nonneg (by omega)]
    omega

theorem quo_ediv (t : Int) : (t - t % 1000000000).tdiv 1000000000 = t / 1000000000 := by
  have h : t - t % 1000000000 = 1000000000 * (t / 1000000000) := by omega
  rw [h, Int.mul_tdiv_cancel_left _ (by omega)]

/-- What holds after some rounds: zs has been written, and a carry is left. -/
def AmInv (xs ys : List Nat) (count : Int) (zs : List Nat) (carry : Int) : Prop :=
  (∀ z ∈ zs, z < 1000000000) ∧ zs.length ≤ xs.length ∧ (vl 1000000000 zs : Int) + ((1000000000 ^ zs.length : Nat) : Int) * carry = vl 1000000000 (xs.take zs.length) + count * vl 1000000000 (ys.take zs.length)

theorem AmInv.start (xs ys : List Nat) (count : Int) : AmInv xs ys count [] 0 := ⟨by simp, by simp, by simp [vl]⟩

theorem vl_take_succ (b : Nat) (xs : List Nat) (i : Nat) (h : i < xs.length) : vl b (xs.take (i + 1)) = vl b (xs.take i) + b ^ i * xs[i] := by
  rw [List.take_add_one, List.getElem?_eq_getElem h, vl_append]
  simp only [Option.toList_some, vl, Nat.mul_zero, Nat.add_zero, List.length_take]
  rw [Nat.min_eq_left (by omega)]

theorem vl_take_past (b : Nat) (ys : List Nat) (i : Nat) (h : ys.length ≤ i) : vl b (ys.take i) = vl b ys := by rw [List.take_of_length_le h]

/-- The digit of the second number, 0 past its end. -/
def yat (ys : List Nat) (i : Nat) : Nat := ys[i]?.getD 0

theorem vl_take_yat (b : Nat) (ys : List Nat) (i : Nat) : vl b (ys.take (i + 1)) = vl b (ys.take i) + b ^ i * yat ys i := by
  by_cases h : i < ys.length
  · rw [vl_take_succ b ys i h, yat, List.getElem?_eq_getElem h]; rfl
  · rw [vl_take_past b ys (i + 1) (by omega), vl_take_past b ys i (by omega), yat, List.getElem?_eq_none (by omega)]; simp

theorem AmInv.step {xs ys : List Nat} {count carry : Int} {zs : List Nat} (h : AmInv xs ys count zs carry) (hi : zs.length < xs.length) (t : Int) (ht : t = (xs[zs.length] : Int) + carry + (yat ys zs.length : Int) * count) :
    AmInv xs ys count (zs ++ [(t % 1000000000).toNat]) (t / 1000000000) := by
  obtain ⟨h1, h2, h3⟩ := h
  refine ⟨?_, by simp; omega, ?_⟩
  · intro z hz
    rcases List.mem_append.1 hz with hz | hz
    · exact h1 z hz
    · have := am_limb t
      simp at hz
      omega
  · rw [List.length_append, List.length_singleton, vl_append, vl_take_succ _ _ _ hi, vl_take_yat, Nat.pow_succ]
    generalize hP : (1000000000 ^ zs.length : Nat) = P at *
    generalize vl 1000000000 (xs.take zs.length) = X at *
    generalize vl 1000000000 (ys.take zs.length) = Y at *
    generalize vl 1000000000 zs = Z at *
    have hlimb : ((vl 1000000000 [(t % 1000000000).toNat] : Nat) : Int) = t % 1000000000 := by
      simp only [vl, Nat.mul_zero, Nat.add_zero]; have := am_limb t; omega
    have hdm : t = t % 1000000000 + 1000000000 * (t / 1000000000) := by omega
    simp only [Int.natCast_add, Int.natCast_mul]
    rw [show ((1000000000 : Nat) : Int) = 1000000000 from rfl]
    rw [hlimb]
    generalize t % 1000000000 = r at *
    generalize t / 1000000000 = q at *
    generalize (xs[zs.length] : Int) = x at *
    generalize (yat ys zs.length : Int) = y at *
    have e : (Z : Int) + P * r + P * 1000000000 * q = Z + P * (r + 1000000000 * q) := by
      rw [Int.mul_add, Int.mul_assoc]; omega
    rw [e, ← hdm, ht, Int.mul_add, Int.mul_add, Int.mul_add]
    have e2 : (P : Int) * (y * count) = count * (P * y) := by
      rw [← Int.mul_assoc, Int.mul_comm]
    rw [e2]
    omega

/-- The carry's bounds. -/
theorem carry_step (x y : Nat) (hx : x < 1000000000) (hy : y < 1000000000) (count carry : Int) (hc : -1000000000 ≤ count ∧ count ≤ 1000000000) (hk : -1000000001 ≤ carry ∧ carry ≤ 1000000001) :
    -1000000002000000000 ≤ (x : Int) + carry + (y : Int) * count ∧ (x : Int) + carry + (y : Int) * count ≤ 1000000002000000000 ∧
    -1000000001 ≤ ((x : Int) + carry + (y : Int) * count) / 1000000000 ∧ ((x : Int) + carry + (y : Int) * count) / 1000000000 ≤ 1000000001 ∧ -1000000000000000000 ≤ (y : Int) * count ∧ (y : Int) * count ≤ 1000000000000000000 := by
  have h1 : (y : Int) * count ≤ 999999999 * 1000000000 := by
    rcases Int.lt_or_le count 0 with h | h
    · have : (y : Int) * count ≤ 0 := Int.mul_nonpos_of_nonneg_of_nonpos (by omega) (by omega)
      omega
    · exact Int.mul_le_mul (by omega) hc.2 h (by omega)
  have h2 : -(999999999 * 1000000000) ≤ (y : Int) * count := by
    have : (y : Int) * (-count) ≤ 999999999 * 1000000000 := by
      rcases Int.lt_or_le (-count) 0 with h | h
      · have : (y : Int) * (-count) ≤ 0 := Int.mul_nonpos_of_nonneg_of_nonpos (by omega) (by omega)
        omega
      · exact Int.mul_le_mul (by omega) (by omega) h (by omega)
    rw [Int.mul_neg] at this
    omega
  omega

end Go.Proofs.YtmdppblhbmbakaaGreatDoor.Nm
