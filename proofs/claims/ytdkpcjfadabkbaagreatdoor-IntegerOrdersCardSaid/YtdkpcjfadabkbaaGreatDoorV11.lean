/- What Small does. -/
import Derived.Test.YtdkpcjfadabkbaaGreatDoorI9
import Derived.Test.YtdkpcjfadabkbaaGreatDoorCn
set_option linter.unusedVariables false
set_option linter.unusedSimpArgs false
namespace Go.Proofs.YtdkpcjfadabkbaaGreatDoor
open Go.RowKit _root_.Go.Proofs.YtdkpcjfadabkbaaGreatDoor.Nm

set_option maxHeartbeats 800000 in
theorem Small_bad (s : ByteArray) (h : canon s.data.toList = false) (w : World) :
    Calls Tryz.prog 21 #[.string s] w fun e w' => e = .returned (.tuple #[.int .i64 0, .bool false]) ∧ Below w.heap.size w w' := by
  have H := Lib.hid h
  clear h
  go_enter Tryz.func21, Tryz.ntmps21
  go_wp2_with (go_at_call 10; refine (Valid_any _ _).mono ?_; rintro e w' ⟨rfl, rfl⟩; rw [H.out])
  go_ret2
  exact ⟨rfl, Below.refl _ _⟩

set_option maxHeartbeats 800000 in
theorem Small_ok (s : ByteArray) (h : canon s.data.toList = true) (hr : -9223372036854775808 ≤ zv s.data.toList ∧ zv s.data.toList ≤ 9223372036854775807) (w : World) :
    Calls Tryz.prog 21 #[.string s] w fun e w' => e = .returned (.tuple #[.int .i64 (zv s.data.toList), .bool true]) ∧ Below w.heap.size w w' := by
  have H := Lib.hid h
  have hp := parse_canon _ h
  rw [if_pos hr] at hp
  have hsz := canon_size s h
  have HP := Lib.hid hp
  clear h hp hr
  generalize zv s.data.toList = z at HP ⊢
  go_enter Tryz.func21, Tryz.ntmps21
  go_wp2_with (go_at_call 10; refine (Valid_any _ _).mono ?_; rintro e w' ⟨rfl, rfl⟩; rw [H.out])
  refine (Tryz.strconv_ParseInt_10_at64_ok s (by omega) z HP.out _).mono ?_
  rintro e w1 ⟨rfl, hw⟩
  have HB := Lib.hid (below_of_parse hw)
  clear hw
  go_wp2
  go_ret2
  exact ⟨rfl, HB.out⟩

set_option maxHeartbeats 800000 in
theorem Small_range (s : ByteArray) (h : canon s.data.toList = true) (hr : ¬ (-9223372036854775808 ≤ zv s.data.toList ∧ zv s.data.toList ≤ 9223372036854775807)) (ev : Value) (w : World)
    (hv : w.cell? ⟨1, 0, none⟩ = some ev) (hev : ev = .nilIface ∨ ∃ te pe, ev = .iface te pe) :
    Calls Tryz.prog 21 #[.string s] w fun e w' => e = .returned (.tuple #[.int .i64 0, .bool false]) ∧ Below w.heap.size w w' := by
  have H := Lib.hid h
  have hp := parse_canon _ h
  rw [if_neg hr] at hp
  have hsz := canon_size s h
  have HP := Lib.hid hp
  have HV := Lib.hid hv
  have HE := Lib.hid hev
  clear h hp hr hv hev
  go_enter Tryz.func21, Tryz.ntmps21
  go_wp2_with (go_at_call 10; refine (Valid_any _ _).mono ?_; rintro e w' ⟨rfl, rfl⟩; rw [H.out])
  refine (Tryz.strconv_ParseInt_10_at64_range s (by omega) HP.out ev _ HV.out HE.out).mono ?_
  rintro e w1 ⟨N, rfl, _, _, hb⟩
  have HB := Lib.hid hb
  clear hb
  go_wp2
  go_ret2
  exact ⟨rfl, HB.out⟩

end Go.Proofs.YtdkpcjfadabkbaaGreatDoor
