/- What the reference's digit and cmp do, and the mathematics of plus. -/
import Derived.Test.YtdkpcjfadabkbaaGreatDoorR2
import Derived.Test.YtdkpcjfadabkbaaGreatDoorR5
import Derived.Laws.AppendOwnNone
set_option linter.unusedVariables false
set_option linter.unusedSimpArgs false
namespace Go.Proofs.YtdkpcjfadabkbaaGreatDoor
open Go.RowKit _root_.Go.Proofs.YtdkpcjfadabkbaaGreatDoor.Nm

/-- The digit with a weight of ten to the power i. -/
def dgt (xs : List Nat) (i : Nat) : Nat := xs.reverse.getD i 0

theorem dgt_lt (xs : List Nat) (h : ∀ x ∈ xs, x < 10) (i : Nat) : dgt xs i < 10 := by
  unfold dgt
  rw [List.getD_eq_getElem?_getD]
  by_cases hi : i < xs.reverse.length
  · rw [List.getElem?_eq_getElem hi]; exact h _ (List.mem_reverse.1 (List.getElem_mem hi))
  · rw [List.getElem?_eq_none (by omega)]; simp

theorem dgt_at (xs : List Nat) (i : Nat) (h : i < xs.length) : dgt xs i = xs[xs.length - 1 - i] := by
  unfold dgt
  rw [List.getD_eq_getElem?_getD, List.getElem?_reverse h, List.getElem?_eq_getElem (by omega)]
  rfl

theorem dgt_end (xs : List Nat) (i : Nat) (h : xs.length ≤ i) : dgt xs i = 0 := by
  unfold dgt
  rw [List.getD_eq_getElem?_getD, List.getElem?_eq_none (by rw [List.length_reverse]; exact h)]
  rfl

/-- The number of the last i digits. -/
def lo (xs : List Nat) (i : Nat) : Nat := vl 10 (xs.reverse.take i)

theorem lo_zero (xs : List Nat) : lo xs 0 = 0 := rfl
theorem lo_succ (xs : List Nat) (i : Nat) : lo xs (i + 1) = lo xs i + 10 ^ i * dgt xs i := by
  unfold lo dgt
  by_cases hi : i < xs.reverse.length
  · rw [List.take_add_one, List.getElem?_eq_getElem hi, List.getD_eq_getElem?_getD, List.getElem?_eq_getElem hi, vl_append, List.length_take, Nat.min_eq_left (by omega)]
    simp [vl]
  · rw [List.take_of_length_le (by omega), List.take_of_length_le (by omega), List.getD_eq_getElem?_getD, List.getElem?_eq_none (by omega)]
    simp
theorem lo_all (xs : List Nat) (i : Nat) (h : xs.length ≤ i) : lo xs i = dval xs := by
  unfold lo dval; rw [List.take_of_length_le (by rw [List.length_reverse]; exact h)]

/-- The state of plus. -/
structure Pl (xs ys : List Nat) (f : Int) (i : Nat) (out : List Nat) (carry : Int) : Prop where
  len : out.length = i
  lt : ∀ x ∈ out, x < 10
  c : -1 ≤ carry ∧ carry ≤ 1
  cf : (f = 1 → 0 ≤ carry) ∧ (f = -1 → carry ≤ 0)
  val : (dval out : Int) + carry * (10 ^ i : Nat) = lo xs i + f * lo ys i

theorem Pl.start (xs ys : List Nat) (f : Int) : Pl xs ys f 0 [] 0 := ⟨rfl, by simp, by omega, by omega, by rw [lo_zero, lo_zero, dval_nil]; simp⟩

theorem Pl.next {xs ys : List Nat} {f : Int} {i : Nat} {out : List Nat} {carry : Int} (h : Pl xs ys f i out carry) (hf : f = 1 ∨ f = -1) (hx : ∀ x ∈ xs, x < 10) (hy : ∀ y ∈ ys, y < 10) (d : Nat) (c' : Int) (hd : d < 10)
    (he : (d : Int) + 10 * c' = dgt xs i + f * dgt ys i + carry) : Pl xs ys f (i + 1) (d :: out) c' := by
  obtain ⟨h1, h2, h3, h4, h5⟩ := h
  have k1 := dgt_lt xs hx i
  have k2 := dgt_lt ys hy i
  refine ⟨by rw [List.length_cons, h1], ?_, ?_, ?_, ?_⟩
  · intro x hx'
    rcases List.mem_cons.1 hx' with rfl | hx'
    · exact hd
    · exact h2 x hx'
  · rcases hf with rfl | rfl <;> omega
  · rcases hf with rfl | rfl <;> omega
  · rw [dval_cons, h1, lo_succ, lo_succ, Nat.pow_succ]
    generalize 10 ^ i = P at *
    generalize dgt xs i = X at *
    generalize dgt ys i = Y at *
    have e : (d : Int) = X + f * Y + carry - 10 * c' := by omega
    push_cast
    rw [e]
    grind

theorem Pl.last {xs ys : List Nat} {f : Int} {i : Nat} {out : List Nat} {carry : Int} (h : Pl xs ys f i out carry) (hf : f = 1 ∨ f = -1) (hx : ∀ x ∈ xs, x < 10) (hy : ∀ y ∈ ys, y < 10)
    (hle : f = -1 → dval ys ≤ dval xs) (M : Nat) (hmx : xs.length ≤ M) (hmy : ys.length ≤ M) (hi : M + 1 ≤ i) : carry = 0 := by
  obtain ⟨h1, h2, h3, h4, h5⟩ := h
  rw [lo_all xs i (by omega), lo_all ys i (by omega)] at h5
  have k1 := dval_lt xs hx
  have k2 := dval_lt ys hy
  have k3 := dval_lt out h2
  rw [h1] at k3
  have k4 : 10 ^ xs.length ≤ 10 ^ M := Nat.pow_le_pow_right (by omega) hmx
  have k5 : 10 ^ ys.length ≤ 10 ^ M := Nat.pow_le_pow_right (by omega) hmy
  have k6 : 10 ^ (M + 1) ≤ 10 ^ i := Nat.pow_le_pow_right (by omega) hi
  rw [Nat.pow_succ] at k6
  generalize 10 ^ i = P at *
  generalize 10 ^ M = Q at *
  rcases hf with rfl | rfl
  · have h6 := h4.1 rfl
    have h7 : carry = 0 ∨ carry = 1 := by omega
    rcases h7 with rfl | rfl
    · rfl
    · omega
  · have h6 := h4.2 rfl
    have h8 := hle rfl
    have h7 : carry = 0 ∨ carry = -1 := by omega
    rcases h7 with rfl | rfl
    · rfl
    · omega

theorem Pl.done {xs ys : List Nat} {f : Int} {i : Nat} {out : List Nat} (h : Pl xs ys f i out 0) (hmx : xs.length ≤ i) (hmy : ys.length ≤ i) : (dval out : Int) = dval xs + f * dval ys := by
  have := h.val
  rw [lo_all xs i hmx, lo_all ys i hmy] at this
  omega

set_option maxHeartbeats 800000 in
theorem digit_any (v : Value) (xs : List Nat) (i : Nat) (w : World) (hr : Rd .i64 w v xs) (hi : i ≤ 100000) :
    Calls Tryz.prog 56 #[v, .int .i64 i] w fun e w' => e = .returned (.int .i64 (dgt xs i : Nat)) ∧ w' = w := by
  have hl := hr.length
  rcases hr.cases with ⟨rfl, a, c, rfl, hcap⟩ | ⟨h0, g, off, c, rfl, hxc, hcap, hg, hrow⟩
  · have HD : Hid (dgt [] i = 0) := Lib.hid (dgt_end [] i (by simp))
    clear hr hcap
    go_enter Tryz.func56, Tryz.ntmps56
    go_wp2
    go_ret
    exact ⟨by rw [HD.out]; rfl, rfl⟩
  · by_cases hlt : i < xs.length
    · obtain ⟨j, hj⟩ : ∃ j, xs.length - 1 - i = j := ⟨_, rfl⟩
      have hjl : j < xs.length := by omega
      have hc2 := hrow j hjl
      have HD : Hid (dgt xs i = xs[j]) := Lib.hid (by rw [dgt_at xs i hlt]; simp only [hj])
      have hj' : (xs.length : Int) - 1 - i = j := by omega
      have hlt' : ¬ (xs.length : Int) ≤ i := by omega
      have hjl' : (j : Int) < xs.length := by omega
      clear hr hrow hcap hj
      go_enter Tryz.func56, Tryz.ntmps56
      go_wp2
      go_ret
      exact ⟨by rw [HD.out]; rfl, rfl⟩
    · have hlt' : (xs.length : Int) ≤ i := by omega
      have HD : Hid (dgt xs i = 0) := Lib.hid (dgt_end xs i (by omega))
      clear hr hrow hcap
      go_enter Tryz.func56, Tryz.ntmps56
      go_wp2
      go_ret
      exact ⟨by rw [HD.out]; rfl, rfl⟩

end Go.Proofs.YtdkpcjfadabkbaaGreatDoor
