/- The examples of the chapter. -/
import Derived.Test.YtbhbjjkpbdplpaaW4
set_option linter.unusedVariables false
set_option linter.unusedSimpArgs false
namespace Go.Proofs.Ytbhbjjkpbdplpaa
open Go.RowKit

def src0 : ByteArray := ⟨#[97, 98, 10, 99, 100, 10]⟩

theorem ex1 : lineColOf src0 4 = .tuple #[.int .i64 1, .int .i64 1, .int .i64 0] := rfl
theorem ex2 : lineColOf src0 2 = .tuple #[.int .i64 0, .int .i64 2, .int .i64 0] := rfl
theorem ex3 : Ex.starts src0.data.toList 1 = some 3 := rfl
theorem ex4 : Ex.excerpt src0.data.toList 3 5 = [99, 100, 10, 94, 94] := by decide +kernel
theorem ex5 : Ex.excerpt src0.data.toList 6 6 = [10, 94] := by decide +kernel

set_option maxHeartbeats 1000000 in
theorem awake_any (w : World) : Calls Try.prog 10 #[] w fun e w' => e = .returned (.bool true) ∧ Below w.heap.size w w' := by
  go_enter Try.func10, Try.ntmps10
  go_wp2_with fail
  refine (LineCol_in src0 4 (by decide) (by decide) _).mono ?_
  rintro e w' ⟨rfl, rfl⟩
  rw [ex1]
  go_wp2_with fail
  refine (LineCol_in src0 2 (by decide) (by decide) _).mono ?_
  rintro e w' ⟨rfl, rfl⟩
  rw [ex2]
  go_wp2_with fail
  refine (Offset_in src0 1 3 2 (by decide) (by decide) ex3 (by decide) _).mono ?_
  rintro e w' ⟨rfl, rfl⟩
  go_wp2_with fail
  refine (Excerpt_in src0 3 5 (by decide) (by decide) (by decide) _).mono ?_
  rintro e w1 ⟨rfl, hb1⟩
  rw [ex4]
  have HB1 := Lib.hid hb1
  clear hb1
  go_wp2_with fail
  refine (Excerpt_in src0 6 6 (by decide) (by decide) (by decide) _).mono ?_
  rintro e w2 ⟨rfl, hb2⟩
  rw [ex5]
  have HB2 := Lib.hid (HB1.out.trans (hb2.mono (by have := HB1.out.size; omega)))
  clear hb2
  go_wp2
  go_ret
  exact ⟨rfl, HB2.out⟩

end Go.Proofs.Ytbhbjjkpbdplpaa
