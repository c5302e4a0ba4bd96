/- What divide does with a divisor of one limb. -/
import Derived.Test.YtdkpcjfadabkbaaDoorD6
set_option linter.unusedVariables false
set_option linter.unusedSimpArgs false
namespace Go.Proofs.YtdkpcjfadabkbaaDoor
open Go.RowKit _root_.Go.Proofs.YtdkpcjfadabkbaaDoor.Nm

theorem own_one (k : IntKind) (t : TypeId) (w : World) (a : Nat) : Own k t (w.alloc (.cells #[.int k (a : Nat)] t)) w.heap.size [a] := by
  unfold Own
  rw [heap_alloc_new]
  rfl

theorem sgn_ge (a b : Int) (h : ¬ a < b) : decide (sgn a b < 0) = false := by
  unfold sgn; rw [if_neg h]; split <;> decide

set_option maxRecDepth 100000 in
set_option maxHeartbeats 1600000 in
theorem divide_one (va : Value) (g off c a y : Nat) (w : World) (ha : IsNat w va a) (hb : IsNat w (.slice (some ⟨g, off, none⟩) 1 c) y) (hg : g < w.heap.size) (hc : w.cell? ⟨g, off, none⟩ = some (.int .u32 (y : Nat))) (hge : y ≤ a) (hy : 0 < y) (hy2 : y < 1000000000) (la : (ds 1000000000 a).length ≤ 1000) :
    Calls Tryd.prog 67 #[va, .slice (some ⟨g, off, none⟩) 1 c] w (QuoPost (a / y) (a % y) w) := by
  have HA := Lib.hid ha
  have HB := Lib.hid hb
  have hd := sgn_ge a y (by omega)
  obtain ⟨r, hr⟩ : ∃ r, sgn a y = r := ⟨_, rfl⟩
  rw [hr] at hd
  have HR := Lib.hid hr
  clear ha hb hr
  go_enter Tryd.func67, Tryd.ntmps67
  go_wp2_with fail
  refine (compare_any _ _ a y _ HA.out HB.out).mono ?_
  rintro e w1 ⟨rfl, n, hw⟩
  rw [HR.out]
  have HW := Lib.hid (show Below w.heap.size w w1 from by rw [hw]; exact ⟨rfl, rfl, rfl, Nat.le_refl _, fun _ _ => rfl⟩)
  have hc1 : w1.cell? ⟨g, off, none⟩ = some (.int .u32 (y : Nat)) := (HW.out.cell (p := ⟨g, off, none⟩) hg).trans hc
  clear hw hc
  go_wp2_with fail
  refine (divideByLimb_any _ a y _ (HA.out.keep HW.out (Nat.le_refl _)) la hy hy2).mono ?_
  rintro e w2 ⟨v, rfl, hv, hf, hb2⟩
  have hm : a % y < 1000000000 := Nat.lt_trans (Nat.mod_lt a hy) hy2
  have HV := Lib.hid hv
  have HF := Lib.hid (hf.mono HW.out.size)
  have HW2 := Lib.hid (HW.out.trans (hb2.mono HW.out.size))
  generalize hrm : a % y = rm at hm ⊢
  have HRM := Lib.hid hrm
  clear hv hf hb2 hrm hc1
  have HO := Lib.hid (own_one .u32 87 w2 rm)
  have HA2 := Lib.hid ((Below.refl w2.heap.size w2).alloc (Nat.le_refl _) (.cells #[.int .u32 ((rm : Nat) : Int)] 87))
  go_wp2_with fail
  refine (trim_any _ [rm] (by intro x hx; simp at hx; omega) _ (by exact HO.out.rd 1 1 (by simp) (by omega) (by omega))).mono ?_
  rintro e w3 ⟨⟨v', rfl, hv, hsm⟩, rfl⟩
  rw [show vl 1000000000 [rm] = rm from by simp [vl]] at hv
  have HV3 := Lib.hid hv
  have HF3 := Lib.hid (Fr.of_same hsm (Nat.le_refl _))
  clear hv hsm
  go_wp2
  go_ret2
  exact ⟨_, _, rfl, HV.out.keep HA2.out (Nat.le_refl _), HF.out, (by rw [HRM.out]; exact HV3.out), HF3.out.mono HW2.out.size, HW2.out.trans (HA2.out.mono HW2.out.size)⟩

end Go.Proofs.YtdkpcjfadabkbaaDoor
