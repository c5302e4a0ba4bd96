/- The examples hold. -/
import Derived.Test.YtniokkoicoacoaaGreatDoorJ3
import Derived.ProofKit
set_option linter.unusedVariables false
set_option linter.unusedSimpArgs false
namespace Go.Proofs.YtniokkoicoacoaaGreatDoor
open Go.RowKit _root_.Go.Proofs.YtniokkoicoacoaaGreatDoor.Nm

def S999 : ByteArray := ⟨#[57, 57, 57]⟩
def M1000 : ByteArray := ⟨#[45, 49, 48, 48, 48]⟩

theorem ex_add : opVal ⟨#[57, 57, 57]⟩ ⟨#[45, 49, 48, 48, 48]⟩ (zv (⟨#[57, 57, 57]⟩ : ByteArray).data.toList + zv (⟨#[45, 49, 48, 48, 48]⟩ : ByteArray).data.toList) = .tuple #[.string ⟨#[45, 49]⟩, .int .i64 0] := by kernel_rfl

theorem ex_div : Dv (-7) 2 (-4) 1 := ⟨by omega, by omega, .inr (by omega)⟩

theorem ex_div_any (w : World) (htab : Tab w) : Calls Tryz.prog 16 #[.string ⟨#[45, 55]⟩, .string ⟨#[50]⟩] w fun e w' => e = .returned (.tuple #[.string ⟨#[45, 52]⟩, .string ⟨#[49]⟩, .int .i64 0]) ∧ Below w.heap.size w w' := by
  have h1 : zv (⟨#[45, 55]⟩ : ByteArray).data.toList = -7 := by decide +kernel
  have h2 : zv (⟨#[50]⟩ : ByteArray).data.toList = 2 := by decide +kernel
  refine (DivMod_good ⟨#[45, 55]⟩ ⟨#[50]⟩ w (by decide +kernel) (by rw [h2]; omega) (by rw [h1, h2]; exact divIs_short _ _ (by omega) (by omega) (by omega)) htab).mono ?_
  rintro e w' ⟨q, r, hd, rfl, hb⟩
  rw [h1, h2] at hd
  obtain ⟨rfl, rfl⟩ := hd.unique ex_div
  exact ⟨by kernel_rfl, hb⟩

theorem ex_zero (w : World) : Calls Tryz.prog 16 #[.string ⟨#[49]⟩, .string ⟨#[48]⟩] w fun e w' => e = .returned (.tuple #[.string ⟨#[]⟩, .string ⟨#[]⟩, .int .i64 24]) ∧ Below w.heap.size w w' :=
  DivMod_zero ⟨#[49]⟩ ⟨#[48]⟩ w (by decide +kernel) (by decide +kernel)

theorem ex_gcd (w : World) (htab : Tab w) : Calls Tryz.prog 17 #[.string ⟨#[45, 49, 50]⟩, .string ⟨#[49, 56]⟩] w fun e w' => e = .returned (.tuple #[.string ⟨#[54]⟩, .int .i64 0]) ∧ Below w.heap.size w w' := by
  have h1 : zv (⟨#[45, 49, 50]⟩ : ByteArray).data.toList = -12 := by decide +kernel
  have h2 : zv (⟨#[49, 56]⟩ : ByteArray).data.toList = 18 := by decide +kernel
  refine (Gcd_good ⟨#[45, 49, 50]⟩ ⟨#[49, 56]⟩ w (by decide +kernel) (by rw [h1, h2]; exact gcdIs_short _ _ (by omega) (by omega)) htab).mono ?_
  rintro e w' ⟨rfl, hb⟩
  rw [h1, h2]
  exact ⟨by kernel_rfl, hb⟩

theorem ex_of (w : World) (htab : Tab w) : Calls Tryz.prog 27 #[.int .i64 (-5)] w fun e w' => e = .returned (.string ⟨#[45, 53]⟩) ∧ Below w.heap.size w w' := by
  refine (Of_any (-5) (by omega) (by omega) w htab).mono ?_
  rintro e w' ⟨rfl, hb⟩
  exact ⟨by kernel_rfl, hb⟩

theorem ex_valid (w : World) : Calls Tryz.prog 10 #[.string ⟨#[45, 48]⟩] w fun e w' => e = .returned (.bool false) ∧ w = w' := by
  have h := Valid_any ⟨#[45, 48]⟩ w
  rwa [show canon (⟨#[45, 48]⟩ : ByteArray).data.toList = false from by decide +kernel] at h

theorem ex_sum (w : World) (htab : Tab w) : Calls Tryz.prog 8 #[.string ⟨#[57, 57, 57]⟩, .string ⟨#[45, 49, 48, 48, 48]⟩] w fun e w' => e = .returned (.tuple #[.string ⟨#[45, 49]⟩, .int .i64 0]) ∧ Below w.heap.size w w' := by
  have h := Add_any ⟨#[57, 57, 57]⟩ ⟨#[45, 49, 48, 48, 48]⟩ w htab
  rwa [ex_add] at h

set_option maxRecDepth 100000 in
set_option maxHeartbeats 1600000 in
theorem awake_any (w : World) (htab : Tab w) : Calls Tryz.prog 6 #[] w fun e w' => e = .returned (.bool true) ∧ Below w.heap.size w w' := by
  have HT := Lib.hid htab
  clear htab
  go_enter Tryz.func6, Tryz.ntmps6
  go_wp2_with fail
  refine (ex_sum _ HT.out).mono ?_
  rintro e w1 ⟨rfl, hb1⟩
  have HB1 := Lib.hid hb1
  clear hb1
  go_wp2_with fail
  refine (ex_div_any _ (tab_keep HT.out HB1.out)).mono ?_
  rintro e w2 ⟨rfl, hb2⟩
  have HB2 := Lib.hid (HB1.out.trans (hb2.mono HB1.out.size))
  clear hb2
  go_wp2_with fail
  refine (ex_zero _).mono ?_
  rintro e w3 ⟨rfl, hb3⟩
  have HB3 := Lib.hid (HB2.out.trans (hb3.mono HB2.out.size))
  clear hb3
  go_wp2_with fail
  refine (ex_gcd _ (tab_keep HT.out HB3.out)).mono ?_
  rintro e w4 ⟨rfl, hb4⟩
  have HB4 := Lib.hid (HB3.out.trans (hb4.mono HB3.out.size))
  clear hb4
  go_wp2_with fail
  refine (ex_valid _).mono ?_
  rintro e w5 ⟨rfl, rfl⟩
  go_wp2_with fail
  refine (ex_of _ (tab_keep HT.out HB4.out)).mono ?_
  rintro e w6 ⟨rfl, hb6⟩
  have HB6 := Lib.hid (HB4.out.trans (hb6.mono HB4.out.size))
  clear hb6
  go_wp2
  go_ret
  exact ⟨rfl, HB6.out⟩

end Go.Proofs.YtniokkoicoacoaaGreatDoor
