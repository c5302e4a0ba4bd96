/- The walks of the laws ExcerptPlaces and ExcerptReturns. -/
import Derived.Test.YtbhbjjkpbdplpaaW2
import Derived.Test.YtbhbjjkpbdplpaaW5
set_option linter.unusedVariables false
set_option linter.unusedSimpArgs false
namespace Go.Proofs.Ytbhbjjkpbdplpaa
open Go.RowKit

theorem nat_of (o : Int) (h : 0 ≤ o) : ∃ n : Nat, o = n := ⟨o.toNat, by omega⟩

set_option maxHeartbeats 800000 in
theorem law_ExcerptPlaces (a0 : ByteArray) (a1 : Int) (w0 : a0.size ≤ maxLen) (w1 : (Lit.int .i64 a1).wf = true) (w : World) :
    Calls Try.prog 3 #[.string a0, .int .i64 a1] w fun e w' => e = .returned (.bool true) ∧ Below w.heap.size w w' := by
  unfold maxLen at w0
  by_cases hbig : 1000 < a0.size
  · have hbig' : (1000 : Int) < a0.size := by omega
    go_enter Try.func3, Try.ntmps3
    go_wp2_with fail
    refine (awake_any _).mono ?_
    rintro e wa ⟨rfl, hb⟩
    have HB := Lib.hid hb
    clear hb
    go_wp2
    go_ret
    exact ⟨rfl, HB.out⟩
  · have hs : a0.size ≤ 4000 := by omega
    have hsm : (a0.size : Int) ≤ 1000 := by omega
    by_cases ho : a1 < 0 ∨ (a0.size : Int) < a1
    · have HO := Lib.hid ho
      clear ho
      go_enter Try.func3, Try.ntmps3
      go_wp2_with fail
      refine (awake_any _).mono ?_
      rintro e wa ⟨rfl, hb⟩
      have HB := Lib.hid hb
      clear hb
      go_wp2_with (first | (go_at_call 11; refine (LineCol_out _ _ HO.out hs _).mono ?_; rintro e w' ⟨rfl, rfl⟩) | (go_at_call 12; refine (RefLineCol_out _ _ HO.out hs _).mono ?_; rintro e w' ⟨rfl, rfl⟩))
      go_ret
      exact ⟨rfl, HB.out⟩
    · obtain ⟨o, rfl⟩ := nat_of a1 (by omega)
      have ho2 : o ≤ a0.size := by omega
      have HL : Hid (∀ v, v = lineColOf a0 o → v = .tuple #[.int .i64 (Ex.cnt a0.data.toList o), .int .i64 ((o : Int) - Ex.lineStart a0.data.toList o), .int .i64 0]) := Lib.hid (fun v h => h)
      clear ho
      generalize ((Ex.cnt a0.data.toList o : Nat) : Int) = x at HL
      generalize (o : Int) - ((Ex.lineStart a0.data.toList o : Nat) : Int) = y at HL
      go_enter Try.func3, Try.ntmps3
      go_wp2_with fail
      refine (awake_any _).mono ?_
      rintro e wa ⟨rfl, hb⟩
      have HB := Lib.hid hb
      clear hb
      go_wp2_with (first | (go_at_call 11; refine (LineCol_in _ _ ho2 hs _).mono ?_; rintro e w' ⟨rfl, rfl⟩; rw [HL.out _ rfl]) | (go_at_call 12; refine (RefLineCol_in _ _ ho2 hs _).mono ?_; rintro e w' ⟨rfl, rfl⟩; rw [HL.out _ rfl]))
      go_ret
      exact ⟨rfl, HB.out⟩

end Go.Proofs.Ytbhbjjkpbdplpaa
