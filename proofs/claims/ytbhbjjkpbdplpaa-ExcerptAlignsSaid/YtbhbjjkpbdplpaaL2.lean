/- The walk of the law ExcerptReturns. -/
import Derived.Test.YtbhbjjkpbdplpaaL1
import Derived.OpenShut
set_option linter.unusedVariables false
set_option linter.unusedSimpArgs false
namespace Go.Proofs.Ytbhbjjkpbdplpaa
open Go.RowKit

theorem wf_le (a : Int) (h : (Lit.int .i64 a).wf = true) : -9223372036854775808 ≤ a ∧ a ≤ 9223372036854775807 := by
  exact bounds_i64 h

set_option maxHeartbeats 1600000 in
theorem law_ExcerptReturns (a0 : ByteArray) (a1 a2 : Int) (w0 : a0.size ≤ maxLen) (w1 : (Lit.int .i64 a1).wf = true) (w2 : (Lit.int .i64 a2).wf = true) (w : World) :
    Calls Try.prog 4 #[.string a0, .int .i64 a1, .int .i64 a2] w fun e w' => e = .returned (.bool true) ∧ Below w.heap.size w w' := by
  unfold maxLen at w0
  have b1 := wf_le a1 w1
  by_cases hbig : 1000 < a0.size
  · have hbig' : (1000 : Int) < a0.size := by omega
    clear b1
    go_enter Try.func4, Try.ntmps4
    go_wp2_with fail
    refine (awake_any _).mono ?_
    rintro e wa ⟨rfl, hb⟩
    have HB := Lib.hid hb
    clear hb
    go_wp2
    go_ret
    exact ⟨rfl, HB.out⟩
  · have hs : a0.size ≤ 4000 := by omega
    have hsm : (a0.size : Int) ≤ 1000 := by omega
    by_cases hn : a1 < 0
    · clear b1
      go_enter Try.func4, Try.ntmps4
      go_wp2_with fail
      refine (awake_any _).mono ?_
      rintro e wa ⟨rfl, hb⟩
      have HB := Lib.hid hb
      clear hb
      go_wp2_with (first | (go_at_call 13; refine (Offset_neg _ _ _ hn _).mono ?_; rintro e w' ⟨rfl, rfl⟩) | (go_at_call 14; refine (RefOffset_neg _ _ _ hn _).mono ?_; rintro e w' ⟨rfl, rfl⟩) | (go_at_call 15; refine (Line_neg _ _ hn _).mono ?_; rintro e wb ⟨rfl, hbb⟩; have HBB := Lib.hid (HB.out.trans (hbb.mono (by have := HB.out.size; omega))); clear hbb) | (go_at_call 16; refine (RefLine_neg _ _ hn _).mono ?_; rintro e w' ⟨rfl, rfl⟩))
      go_ret
      exact ⟨rfl, by exact Hid.out (by assumption)⟩
    · obtain ⟨n, rfl⟩ := nat_of a1 (by omega)
      have hb : (n : Int) ≤ 9223372036854775807 := b1.2
      clear b1 hn
      cases hst : Ex.starts a0.data.toList n with
      | none =>
        have HST := Lib.hid hst
        clear hst
        go_enter Try.func4, Try.ntmps4
        go_wp2_with fail
        refine (awake_any _).mono ?_
        rintro e wa ⟨rfl, hbw⟩
        have HB := Lib.hid hbw
        clear hbw
        go_wp2_with (first | (go_at_call 13; refine (Offset_none _ _ _ hb hs HST.out _).mono ?_; rintro e w' ⟨rfl, rfl⟩) | (go_at_call 14; refine (RefOffset_none _ _ _ hs HST.out _).mono ?_; rintro e w' ⟨rfl, rfl⟩) | (go_at_call 15; refine (Line_none _ _ hb hs HST.out _).mono ?_; rintro e wb ⟨rfl, hbb⟩; have HBB := Lib.hid (HB.out.trans (hbb.mono (by have := HB.out.size; omega))); clear hbb) | (go_at_call 16; refine (RefLine_none _ _ hs HST.out _).mono ?_; rintro e w' ⟨rfl, rfl⟩))
        go_ret
        exact ⟨rfl, by exact Hid.out (by assumption)⟩
      | some f =>
        have HST := Lib.hid hst
        clear hst
        by_cases hc : a2 < 0 ∨ (Ex.lineEnd a0.data.toList f : Int) - f < a2
        · have HC := Lib.hid hc
          clear hc
          go_enter Try.func4, Try.ntmps4
          go_wp2_with fail
          refine (awake_any _).mono ?_
          rintro e wa ⟨rfl, hbw⟩
          have HB := Lib.hid hbw
          clear hbw
          go_wp2_with (first | (go_at_call 13; refine (Offset_out _ _ _ _ hb hs HST.out HC.out _).mono ?_; rintro e w' ⟨rfl, rfl⟩) | (go_at_call 14; refine (RefOffset_out _ _ _ _ hs HST.out HC.out _).mono ?_; rintro e w' ⟨rfl, rfl⟩) | (go_at_call 15; refine (Line_some _ _ _ hb hs HST.out _).mono ?_; rintro e wb ⟨rfl, hbb⟩; have HBB := Lib.hid (HB.out.trans (hbb.mono (by have := HB.out.size; omega))); clear hbb) | (go_at_call 16; refine (RefLine_some _ _ _ hs HST.out _).mono ?_; rintro e w' ⟨rfl, rfl⟩))
          go_ret
          exact ⟨rfl, by exact Hid.out (by assumption)⟩
        · obtain ⟨c, rfl⟩ := nat_of a2 (by omega)
          have HC := Lib.hid (show (c : Int) ≤ (Ex.lineEnd a0.data.toList f : Int) - f by omega)
          clear hc
          go_enter Try.func4, Try.ntmps4
          go_wp2_with fail
          refine (awake_any _).mono ?_
          rintro e wa ⟨rfl, hbw⟩
          have HB := Lib.hid hbw
          clear hbw
          go_wp2_with (first | (go_at_call 13; refine (Offset_in _ _ _ _ hb hs HST.out HC.out _).mono ?_; rintro e w' ⟨rfl, rfl⟩) | (go_at_call 14; refine (RefOffset_in _ _ _ _ hs HST.out HC.out _).mono ?_; rintro e w' ⟨rfl, rfl⟩) | (go_at_call 15; refine (Line_some _ _ _ hb hs HST.out _).mono ?_; rintro e wb ⟨rfl, hbb⟩; have HBB := Lib.hid (HB.out.trans (hbb.mono (by have := HB.out.size; omega))); clear hbb) | (go_at_call 16; refine (RefLine_some _ _ _ hs HST.out _).mono ?_; rintro e w' ⟨rfl, rfl⟩))
          go_ret
          exact ⟨rfl, by exact Hid.out (by assumption)⟩

end Go.Proofs.Ytbhbjjkpbdplpaa
