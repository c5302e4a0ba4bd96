/- What Add, Sub, Mul, Of and Neg do. -/
import Derived.Test.YtpnofebhpeiepaaGreatDoorI8
set_option linter.unusedVariables false
set_option linter.unusedSimpArgs false
namespace Go.Proofs.YtpnofebhpeiepaaGreatDoor
open Go.RowKit _root_.Go.Proofs.YtpnofebhpeiepaaGreatDoor.Nm

/-- An integer of at most K digits. -/
def Ten (K : Nat) (z : Int) : Prop := ∃ k, k ≤ K ∧ z.natAbs < 10 ^ k

theorem Ten.mono {K L : Nat} {z : Int} (h : Ten K z) (hl : K ≤ L) : Ten L z := by
  obtain ⟨k, h1, h2⟩ := h
  exact ⟨k, Nat.le_trans h1 hl, h2⟩
theorem Ten.neg {K : Nat} {z : Int} (h : Ten K z) : Ten K (-z) := by
  obtain ⟨k, h1, h2⟩ := h
  exact ⟨k, h1, by rwa [Int.natAbs_neg]⟩
theorem Ten.mul {K L : Nat} {a b : Int} (h : Ten K a) (h' : Ten L b) : Ten (K + L) (a * b) := by
  obtain ⟨k, h1, h2⟩ := h
  obtain ⟨l, h3, h4⟩ := h'
  refine ⟨k + l, by omega, ?_⟩
  rw [Int.natAbs_mul, Nat.pow_add]
  exact Nat.mul_lt_mul'' h2 h4
theorem ten_up (k K n : Nat) (h : k ≤ K) (hn : n < 10 ^ k) : n < 10 ^ K := Nat.lt_of_lt_of_le hn (Nat.pow_le_pow_right (by omega) h)
theorem Ten.add {K : Nat} {a b : Int} (h : Ten K a) (h' : Ten K b) : Ten (K + 1) (a + b) := by
  obtain ⟨k, h1, h2⟩ := h
  obtain ⟨l, h3, h4⟩ := h'
  refine ⟨K + 1, by omega, ?_⟩
  have e1 := ten_up _ _ _ h1 h2
  have e2 := ten_up _ _ _ h3 h4
  have e3 := Int.natAbs_add_le a b
  rw [Nat.pow_succ]
  generalize 10 ^ K = X at *
  omega
theorem Ten.sub {K : Nat} {a b : Int} (h : Ten K a) (h' : Ten K b) : Ten (K + 1) (a - b) := by
  rw [Int.sub_eq_add_neg]; exact h.add h'.neg
theorem ds_ten (m k n : Nat) (h : n < 10 ^ k) (hk : k ≤ 9 * m) : (ds 1000000000 n).length ≤ m := by
  refine ds_length_le _ (by omega) n m (Nat.lt_of_lt_of_le h ?_)
  rw [show 1000000000 = 10 ^ 9 from rfl, ← Nat.pow_mul]
  exact Nat.pow_le_pow_right (by omega) hk
theorem Ten.ds {K : Nat} {z : Int} (h : Ten K z) (hK : K ≤ 9000) : (ds 1000000000 z.natAbs).length ≤ 1000 := by
  obtain ⟨k, h1, h2⟩ := h
  exact ds_ten 1000 k _ h2 (by omega)
theorem zv_ten (l : List UInt8) (h : canon l = true) : Ten 400 (zv l) := by
  by_cases h45 : l.head? = some 45
  · obtain ⟨r, rfl⟩ := cons_of_head l h45
    rw [canon_neg] at h
    simp only [Bool.and_eq_true, decide_eq_true_eq] at h
    have h1 := tv_lt r (canonN_parts h.1.1).1
    exact ⟨r.length, h.2, by rw [zv_neg, show (-(tv r : Int)).natAbs = tv r from by omega]; exact h1⟩
  · rw [canon_pos l h45] at h
    simp only [Bool.and_eq_true, decide_eq_true_eq] at h
    have h1 := tv_lt l (canonN_parts h.1).1
    exact ⟨l.length, h.2, by rw [zv_pos l h45, Int.natAbs_natCast]; exact h1⟩

/-- What an operation returns whose result is r. -/
def opVal (s t : ByteArray) (r : Int) : Value :=
  if (canon s.data.toList && canon t.data.toList) = true then (if canon (Lib.itoa r) = true then .tuple #[.string ⟨(Lib.itoa r).toArray⟩, .int .i64 0] else .tuple #[.string ⟨#[]⟩, .int .i64 5]) else .tuple #[.string ⟨#[]⟩, .int .i64 3]

/-- All blocks. -/
def Ev (k : Nat) : Prop := True
theorem Ev.all {w : World} (k : Nat) (hk : w.heap.size ≤ k) : Ev k := trivial

/-- The function f computes op of the integers of two texts. -/
def OpIs (f : Nat) (s t : ByteArray) (r : Int) : Prop :=
  ∀ (x y : Value) (w : World), IsInt Ev w x (zv s.data.toList) → IsInt Ev w y (zv t.data.toList) → Calls Tryz.prog f #[x, y] w (IntPost Ev r w)

end Go.Proofs.YtpnofebhpeiepaaGreatDoor
