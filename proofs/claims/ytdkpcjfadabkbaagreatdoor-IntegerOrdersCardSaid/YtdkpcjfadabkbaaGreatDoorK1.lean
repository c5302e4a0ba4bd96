/- The law IntegerSmalls. -/
import Derived.Test.YtdkpcjfadabkbaaGreatDoorJ9
import Derived.Test.YtdkpcjfadabkbaaGreatDoorV11
import Derived.Deep.Cut
import Derived.Deep.CutRange
import Derived.Deep.DeepCutAuto
set_option linter.unusedVariables false
set_option linter.unusedSimpArgs false
namespace Go.Proofs.YtdkpcjfadabkbaaGreatDoor
open Go.RowKit _root_.Go.Proofs.YtdkpcjfadabkbaaGreatDoor.Nm

/-- An integer of int64. -/
def I64 (z : Int) : Prop := -9223372036854775808 ≤ z ∧ z ≤ 9223372036854775807

theorem I64.ten {z : Int} (h : I64 z) : Ten 20 z := by
  obtain ⟨h1, h2⟩ := h
  exact ⟨19, by omega, by
    have : z.natAbs ≤ 9223372036854775808 := by omega
    exact Nat.lt_of_le_of_lt this (by decide)⟩
theorem I64.str {z : Int} (h : I64 z) : ∃ s, IsStr s z := str_ex h.ten (by omega)

theorem Of_to (z : Int) (s : ByteArray) (h : Hid (I64 z)) (hs : Hid (IsStr s z)) (w : World) (htab : Tab w) :
    Calls Tryz.prog 27 #[.int .i64 z] w fun e w' => e = .returned (.string s) ∧ Below w.heap.size w w' := by
  have := Of_any z h.out.1 h.out.2 w htab
  rwa [← hs.out.text] at this

/-- The variable ErrRange holds an interface value. -/
def Erg (w : World) : Prop := ∃ ev, w.cell? ⟨1, 0, none⟩ = some ev ∧ (ev = .nilIface ∨ ∃ te pe, ev = .iface te pe) ∧ 1 < w.heap.size

theorem Erg.keep {w w' : World} (h : Erg w) (hb : Below w.heap.size w w') : Erg w' := by
  obtain ⟨ev, h1, h2, h3⟩ := h
  exact ⟨ev, (hb.cell (p := ⟨1, 0, none⟩) h3).trans h1, h2, Nat.lt_of_lt_of_le h3 hb.size⟩

/-- What Small returns. -/
def smallVal (z : Int) (f : Bool) : Value := if f = true then .tuple #[.int .i64 z, .bool true] else .tuple #[.int .i64 0, .bool false]

theorem Small_in (s : ByteArray) (z : Int) (h : Hid (I64 z)) (hs : Hid (IsStr s z)) (w : World) :
    Calls Tryz.prog 21 #[.string s] w fun e w' => e = .returned (.tuple #[.int .i64 z, .bool true]) ∧ Below w.heap.size w w' := by
  have := Small_ok s hs.out.1 (by rw [hs.out.2]; exact h.out) w
  rwa [hs.out.2] at this

theorem Small_out (s : ByteArray) (z : Int) (h : Hid (¬ I64 z)) (hs : Hid (IsStr s z)) (w : World) (he : Erg w) :
    Calls Tryz.prog 21 #[.string s] w fun e w' => e = .returned (.tuple #[.int .i64 0, .bool false]) ∧ Below w.heap.size w w' := by
  obtain ⟨ev, h1, h2, _⟩ := he
  exact Small_range s hs.out.1 (by rw [hs.out.2]; exact h.out) ev w h1 h2

theorem Cmp_lt (s t : ByteArray) (x y : Int) (hs : Hid (IsStr s x)) (ht : Hid (IsStr t y)) (h : x < y) (w : World) :
    Calls Tryz.prog 22 #[.string s, .string t] w fun e w' => e = .returned (.int .i64 (-1)) ∧ Below w.heap.size w w' :=
  Cmp_to s t x y (-1) hs ht (Lib.hid (by unfold sgn2; rw [if_pos h])) w
theorem Cmp_gt (s t : ByteArray) (x y : Int) (hs : Hid (IsStr s x)) (ht : Hid (IsStr t y)) (h : y < x) (w : World) :
    Calls Tryz.prog 22 #[.string s, .string t] w fun e w' => e = .returned (.int .i64 1) ∧ Below w.heap.size w w' :=
  Cmp_to s t x y 1 hs ht (Lib.hid (by unfold sgn2; rw [if_neg (by omega), if_pos h])) w
theorem Cmp_eq (s t : ByteArray) (x y : Int) (hs : Hid (IsStr s x)) (ht : Hid (IsStr t y)) (h : x = y) (w : World) :
    Calls Tryz.prog 22 #[.string s, .string t] w fun e w' => e = .returned (.int .i64 0) ∧ Below w.heap.size w w' :=
  Cmp_to s t x y 0 hs ht (Lib.hid (by unfold sgn2; rw [if_neg (by omega), if_neg (by omega)])) w

/-- The quotient and the remainder as the law reckons them. -/
theorem dv_adjust (a b : Int) (hb : b ≠ 0) : Dv a b (if a.tmod b ≠ 0 ∧ ¬ (a.tmod b < 0 ↔ b < 0) then a.tdiv b - 1 else a.tdiv b) (if a.tmod b ≠ 0 ∧ ¬ (a.tmod b < 0 ↔ b < 0) then a.tmod b + b else a.tmod b) := by
  have h := tv_tdiv a b hb
  generalize a.tdiv b = u at *
  generalize a.tmod b = v at *
  by_cases k : v ≠ 0 ∧ ¬ (v < 0 ↔ b < 0)
  · rw [if_pos k, if_pos k]
    refine h.down ?_
    rw [beq_iff_eq]; unfold sg
    obtain ⟨k1, k2⟩ := k
    by_cases k3 : v < 0 <;> by_cases k4 : b < 0 <;> simp [k3, k4] at k2 ⊢ <;> (try omega)
  · rw [if_neg k, if_neg k]
    refine h.stay ?_
    rw [beq_eq_false_iff_ne]; unfold sg
    by_cases k3 : v < 0 <;> by_cases k4 : b < 0 <;> by_cases k5 : 0 < v <;> by_cases k6 : 0 < b <;> simp [k3, k4, k5, k6] at k ⊢ <;> (try omega)

theorem tdiv_i64 (a b : Int) (ha : I64 a) (hb : b ≠ 0) (h : ¬ (a = -9223372036854775808 ∧ b = -1)) : I64 (a.tdiv b) ∧ I64 (a.tmod b) := by
  have h1 := tv_tdiv a b hb
  have h2 := h1.size
  obtain ⟨h3, h4, h5⟩ := h1
  have e1 := Int.natAbs_tmod a b
  have e2 := Nat.mod_le a.natAbs b.natAbs
  have e3 : (a.tdiv b).natAbs = a.natAbs / b.natAbs := Int.natAbs_tdiv a b
  obtain ⟨g1, g2⟩ := ha
  refine ⟨?_, by unfold I64; omega⟩
  by_cases k : b.natAbs = 1
  · rw [k, Nat.div_one] at e3
    by_cases k1 : b = 1
    · rw [k1, Int.tdiv_one]; exact ⟨g1, g2⟩
    · have k2 : b = -1 := by omega
      unfold I64; omega
  · have e4 : a.natAbs / b.natAbs ≤ a.natAbs / 2 := Nat.div_le_div_left (by omega) (by omega)
    rw [← e3] at e4
    unfold I64; omega

theorem adj_ways {q r U V b : Int} (hu : q = if V ≠ 0 ∧ ¬ (V < 0 ↔ b < 0) then U - 1 else U) (hv : r = if V ≠ 0 ∧ ¬ (V < 0 ↔ b < 0) then V + b else V) :
    ((V != 0) = false ∧ (V == 0) = true ∧ q = U ∧ r = V) ∨ ((V != 0) = true ∧ (V == 0) = false ∧ V < 0 ∧ b < 0 ∧ q = U ∧ r = V) ∨ ((V != 0) = true ∧ (V == 0) = false ∧ ¬ V < 0 ∧ ¬ b < 0 ∧ q = U ∧ r = V) ∨
    ((V != 0) = true ∧ (V == 0) = false ∧ V < 0 ∧ ¬ b < 0 ∧ q = U - 1 ∧ r = V + b) ∨ ((V != 0) = true ∧ (V == 0) = false ∧ ¬ V < 0 ∧ b < 0 ∧ q = U - 1 ∧ r = V + b) := by
  by_cases h : V = 0
  · rw [if_neg (by omega)] at hu hv
    exact .inl ⟨by simp [h], by simp [h], hu, hv⟩
  · have e1 : (V != 0) = true := by simp [h]
    have e2 : (V == 0) = false := by simp [h]
    by_cases h1 : V < 0 <;> by_cases h2 : b < 0
    · rw [if_neg (by omega)] at hu hv; exact .inr (.inl ⟨e1, e2, h1, h2, hu, hv⟩)
    · rw [if_pos (by omega)] at hu hv; exact .inr (.inr (.inr (.inl ⟨e1, e2, h1, h2, hu, hv⟩)))
    · rw [if_pos (by omega)] at hu hv; exact .inr (.inr (.inr (.inr ⟨e1, e2, h1, h2, hu, hv⟩)))
    · rw [if_neg (by omega)] at hu hv; exact .inr (.inr (.inl ⟨e1, e2, h1, h2, hu, hv⟩))

end Go.Proofs.YtdkpcjfadabkbaaGreatDoor
