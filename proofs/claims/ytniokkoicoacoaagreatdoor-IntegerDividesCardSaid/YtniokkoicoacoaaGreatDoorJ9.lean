/- The law IntegerQuotients. -/
import Derived.Test.YtniokkoicoacoaaGreatDoorJ5
import Derived.Test.YtniokkoicoacoaaGreatDoorJ7
import Derived.Test.YtniokkoicoacoaaGreatDoorJ8
set_option linter.unusedVariables false
set_option linter.unusedSimpArgs false
namespace Go.Proofs.YtniokkoicoacoaaGreatDoor
open Go.RowKit _root_.Go.Proofs.YtniokkoicoacoaaGreatDoor.Nm

theorem str_zero : IsStr ⟨#[48]⟩ 0 := ⟨by decide +kernel, by decide +kernel⟩

theorem Cmp_to (s t : ByteArray) (x y r : Int) (hs : Hid (IsStr s x)) (ht : Hid (IsStr t y)) (hr : Hid (r = sgn2 x y)) (w : World) :
    Calls Tryz.prog 22 #[.string s, .string t] w fun e w' => e = .returned (.int .i64 r) ∧ Below w.heap.size w w' :=
  Cmp_any s t r w (Lib.hid (by rw [hs.out.1, ht.out.1, hs.out.2, ht.out.2]; simp; exact hr.out))

theorem DivMod_to (s t : ByteArray) (x y : Int) (K : Nat) (hK : K ≤ 400) (hs : Hid (IsStr s x)) (ht : Hid (IsStr t y)) (hx : Ten K x) (hy : Ten K y) (h0 : y ≠ 0) (w : World) (htab : Tab w) :
    Calls Tryz.prog 16 #[.string s, .string t] w fun e w' => ∃ (q r : Int) (Q R : ByteArray), Dv x y q r ∧ IsStr Q q ∧ IsStr R r ∧ Ten K q ∧ Ten K r ∧ e = .returned (.tuple #[.string Q, .string R, .int .i64 0]) ∧ Below w.heap.size w w' := by
  have h := DivMod_good s t w (by rw [hs.out.1, ht.out.1]; rfl) (by rw [ht.out.2]; exact h0) (by rw [hs.out.2, ht.out.2]; exact divIs x y h0 (by obtain ⟨k, h1, h2⟩ := hx; exact ds_ten 900 k _ h2 (by omega))) htab
  rw [hs.out.2, ht.out.2] at h
  refine h.mono ?_
  rintro e w' ⟨q, r, hd, rfl, hb⟩
  have hq := hx.le hd.qsize
  have hr := hy.le (Nat.le_of_lt hd.size)
  exact ⟨q, r, _, _, hd, ⟨hq.canon hK, zv_itoa q⟩, ⟨hr.canon hK, zv_itoa r⟩, hq, hr, rfl, hb⟩

theorem not_zero_str {s : ByteArray} {x : Int} (h : IsStr s x) (hx : x ≠ 0) : (s.toList == [48]) = false := by
  rw [beq_eq_false_iff_ne]
  intro e
  rw [Lib.toList_data] at e
  have h2 := h.2
  rw [e] at h2
  exact hx (h2.symm.trans (by decide +kernel))

theorem sgn2_zero (r y q x : Int) (h : Dv x y q r) (hr : r ≠ 0) : sgn2 r 0 = sgn2 y 0 ∧ sgn2 r y = -sgn2 y 0 ∧ -1 ≤ sgn2 y 0 ∧ sgn2 y 0 ≤ 1 := by
  obtain ⟨h1, h2, h3⟩ := h
  by_cases hy : y < 0
  · have k : r < 0 := by omega
    have k2 : y < r := by omega
    have e1 : sgn2 r 0 = -1 := by unfold sgn2; rw [if_pos k]
    have e2 : sgn2 y 0 = -1 := by unfold sgn2; rw [if_pos hy]
    have e3 : sgn2 r y = 1 := by unfold sgn2; rw [if_neg (by omega), if_pos k2]
    rw [e1, e2, e3]; omega
  · have k : 0 < r := by omega
    have k2 : r < y := by omega
    have k3 : 0 < y := by omega
    have e1 : sgn2 r 0 = 1 := by unfold sgn2; rw [if_neg (by omega), if_pos k]
    have e2 : sgn2 y 0 = 1 := by unfold sgn2; rw [if_neg (by omega), if_pos k3]
    have e3 : sgn2 r y = -1 := by unfold sgn2; rw [if_pos k2]
    rw [e1, e2, e3]; omega

end Go.Proofs.YtniokkoicoacoaaGreatDoor
