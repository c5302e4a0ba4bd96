/- Plain mathematics of digits in a base: lists of natural numbers, the lowest digit first. Nothing of the program. -/
import Derived.Lib.ItoaNum
namespace Go.Proofs.YtmdppblhbmbakaaGreatDoor.Nm

/-- The value of a list of digits. -/
def vl (b : Nat) : List Nat → Nat
  | [] => 0
  | x :: r => x + b * vl b r

/-- The digits of a number, without zeros at the top. -/
def ds (b n : Nat) : List Nat := if n = 0 ∨ b < 2 then [] else n % b :: ds b (n / b)
termination_by n
decreasing_by exact Nat.div_lt_self (by omega) (by omega)

theorem ds_zero (b : Nat) : ds b 0 = [] := by rw [ds]; simp

theorem ds_pos (b n : Nat) (hb : 2 ≤ b) (hn : 0 < n) : ds b n = n % b :: ds b (n / b) := by
  rw [ds, if_neg (by omega)]

theorem vl_ds (b : Nat) (hb : 2 ≤ b) (n : Nat) : vl b (ds b n) = n := by
  induction n using Nat.strongRecOn with
  | _ n ih =>
    by_cases h : n = 0
    · subst h; rw [ds_zero]; rfl
    · rw [ds_pos b n hb (by omega), vl, ih _ (Nat.div_lt_self (by omega) (by omega))]
      exact Nat.mod_add_div n b

theorem ds_lt (b : Nat) (hb : 2 ≤ b) (n : Nat) : ∀ x ∈ ds b n, x < b := by
  induction n using Nat.strongRecOn with
  | _ n ih =>
    by_cases h : n = 0
    · subst h; rw [ds_zero]; simp
    · rw [ds_pos b n hb (by omega)]
      intro x hx
      rcases List.mem_cons.1 hx with rfl | hx
      · exact Nat.mod_lt _ (by omega)
      · exact ih _ (Nat.div_lt_self (by omega) (by omega)) x hx

theorem ds_eq_nil (b : Nat) (hb : 2 ≤ b) (n : Nat) : ds b n = [] ↔ n = 0 := by
  constructor
  · intro h
    have := vl_ds b hb n
    rw [h] at this
    exact this.symm
  · rintro rfl; exact ds_zero b

theorem ds_vl (b : Nat) (hb : 2 ≤ b) (xs : List Nat) (hx : ∀ x ∈ xs, x < b) (hl : xs.getLast? ≠ some 0) : ds b (vl b xs) = xs := by
  induction xs with
  | nil => exact ds_zero b
  | cons x r ih =>
    have hxb := hx x (by simp)
    by_cases hr : r = []
    · subst hr
      simp at hl
      simp only [vl, Nat.mul_zero, Nat.add_zero]
      rw [ds_pos b x hb (by omega), Nat.mod_eq_of_lt hxb, Nat.div_eq_of_lt hxb, ds_zero]
    · have hl' : r.getLast? ≠ some 0 := by
        obtain ⟨y, r', rfl⟩ := List.exists_cons_of_ne_nil hr
        simpa using hl
      have ih := ih (fun y hy => hx y (by simp [hy])) hl'
      have hpos : 0 < vl b r := by
        rcases Nat.eq_zero_or_pos (vl b r) with h | h
        · rw [h, ds_zero] at ih; exact absurd ih.symm hr
        · exact h
      have hv : vl b (x :: r) = x + b * vl b r := rfl
      have hbv : b * 1 ≤ b * vl b r := Nat.mul_le_mul_left b hpos
      rw [hv, ds_pos b _ hb (by omega), Nat.add_mul_mod_self_left, Nat.mod_eq_of_lt hxb, Nat.add_mul_div_left _ _ (by omega), Nat.div_eq_of_lt hxb, Nat.zero_add, ih]

theorem vl_append (b : Nat) (xs ys : List Nat) : vl b (xs ++ ys) = vl b xs + b ^ xs.length * vl b ys := by
  induction xs with
  | nil => simp [vl]
  | cons x r ih =>
    rw [List.cons_append, vl, ih, vl, List.length_cons, Nat.pow_succ, Nat.mul_add, Nat.add_assoc, Nat.mul_comm (b ^ r.length) b, Nat.mul_assoc]

theorem vl_lt (b : Nat) (xs : List Nat) (hx : ∀ x ∈ xs, x < b) : vl b xs < b ^ xs.length := by
  induction xs with
  | nil => simp [vl]
  | cons x r ih =>
    have h1 := ih (fun y hy => hx y (by simp [hy]))
    have h2 := hx x (by simp)
    rw [vl, List.length_cons, Nat.pow_succ, Nat.mul_comm]
    have h3 : b * (vl b r + 1) ≤ b * b ^ r.length := Nat.mul_le_mul_left b h1
    rw [Nat.mul_comm (vl b r) b, Nat.mul_comm (b ^ r.length) b]
    rw [Nat.mul_add] at h3
    omega

theorem vl_zeros (b k : Nat) : vl b (List.replicate k 0) = 0 := by
  induction k with
  | zero => rfl
  | succ k ih => rw [List.replicate_succ, vl, ih]; simp

theorem getLast_ne (b : Nat) (hb : 2 ≤ b) (n : Nat) : (ds b n).getLast? ≠ some 0 := by
  induction n using Nat.strongRecOn with
  | _ n ih =>
    by_cases h : n = 0
    · subst h; rw [ds_zero]; simp
    · rw [ds_pos b n hb (by omega)]
      have h2 := ih (n / b) (Nat.div_lt_self (by omega) (by omega))
      by_cases hz : n / b = 0
      · rw [hz, ds_zero]
        simp
        have := Nat.mod_add_div n b
        rw [hz] at this
        omega
      · cases hd : ds b (n / b) with
        | nil => exact absurd ((ds_eq_nil b hb _).1 hd) hz
        | cons y r => rw [hd] at h2; simpa using h2

theorem ds_length_le (b : Nat) (hb : 2 ≤ b) (n k : Nat) (h : n < b ^ k) : (ds b n).length ≤ k := by
  induction k generalizing n with
  | zero => have : n = 0 := by simp at h; exact h
            subst this; rw [ds_zero]; simp
  | succ k ih =>
    by_cases hn : n = 0
    · subst hn; rw [ds_zero]; simp
    · rw [ds_pos b n hb (by omega), List.length_cons]
      have : n / b < b ^ k := by
        rw [Nat.div_lt_iff_lt_mul (by omega)]
        rwa [Nat.pow_succ] at h
      have := ih _ this
      omega

theorem lt_pow_length (b : Nat) (hb : 2 ≤ b) (n : Nat) : n < b ^ (ds b n).length := by
  have := vl_lt b (ds b n) (ds_lt b hb n)
  rwa [vl_ds b hb] at this

theorem ds_length_ge (b : Nat) (hb : 2 ≤ b) (n k : Nat) (h : b ^ k ≤ n) : k + 1 ≤ (ds b n).length := by
  have h1 := lt_pow_length b hb n
  have h2 : b ^ k < b ^ (ds b n).length := Nat.lt_of_le_of_lt h h1
  exact (Nat.pow_lt_pow_iff_right (by omega)).1 h2

theorem length_lt (b : Nat) (hb : 2 ≤ b) (m n : Nat) (h : (ds b m).length < (ds b n).length) : m < n := by
  rcases Nat.lt_or_ge m n with h1 | h1
  · exact h1
  · have h2 := lt_pow_length b hb m
    have h3 := ds_length_le b hb n (ds b m).length (by omega)
    omega

/-- What decides a comparison from the top. -/
theorem vl_lt_at (b : Nat) (xs ys : List Nat) (hx : ∀ x ∈ xs, x < b) (p : Nat) (hp : p < xs.length) (hq : p < ys.length)
    (hd : xs.drop (p + 1) = ys.drop (p + 1)) (h : xs[p] < ys[p]) : vl b xs < vl b ys := by
  have e1 : xs = xs.take p ++ (xs[p] :: xs.drop (p + 1)) := by rw [List.getElem_cons_drop, List.take_append_drop]
  have e2 : ys = ys.take p ++ (ys[p] :: ys.drop (p + 1)) := by rw [List.getElem_cons_drop, List.take_append_drop]
  have l1 : (xs.take p).length = p := by rw [List.length_take]; omega
  have l2 : (ys.take p).length = p := by rw [List.length_take]; omega
  have h1 := vl_lt b (xs.take p) (fun x hxx => hx x (List.mem_of_mem_take hxx))
  rw [l1] at h1
  have v1 : vl b xs = vl b (xs.take p) + b ^ p * (xs[p] + b * vl b (xs.drop (p + 1))) := by
    conv => lhs; rw [e1]
    rw [vl_append, l1, vl]
  have v2 : vl b ys = vl b (ys.take p) + b ^ p * (ys[p] + b * vl b (ys.drop (p + 1))) := by
    conv => lhs; rw [e2]
    rw [vl_append, l2, vl]
  rw [v1, v2, hd]
  generalize vl b (ys.drop (p + 1)) = t
  have h3 : b ^ p * (xs[p] + b * t + 1) ≤ b ^ p * (ys[p] + b * t) := Nat.mul_le_mul_left _ (by omega)
  rw [Nat.mul_add, Nat.mul_one] at h3
  omega

end Go.Proofs.YtmdppblhbmbakaaGreatDoor.Nm
