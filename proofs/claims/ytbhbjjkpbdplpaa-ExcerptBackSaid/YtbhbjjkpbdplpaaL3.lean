/- The walks of the laws ExcerptShows and ExcerptBack. -/
import Derived.Test.YtbhbjjkpbdplpaaL2
import Derived.Test.YtbhbjjkpbdplpaaW6
set_option linter.unusedVariables false
set_option linter.unusedSimpArgs false
namespace Go.Proofs.Ytbhbjjkpbdplpaa
open Go.RowKit

set_option maxHeartbeats 1600000 in
theorem law_ExcerptShows (a0 : ByteArray) (a1 a2 : Int) (w0 : a0.size ≤ maxLen) (w1 : (Lit.int .i64 a1).wf = true) (w2 : (Lit.int .i64 a2).wf = true) (w : World) :
    Calls Try.prog 5 #[.string a0, .int .i64 a1, .int .i64 a2] w fun e w' => e = .returned (.bool true) ∧ Below w.heap.size w w' := by
  unfold maxLen at w0
  by_cases hbig : 1000 < a0.size
  · have hbig' : (1000 : Int) < a0.size := by omega
    go_enter Try.func5, Try.ntmps5
    go_wp2_with fail
    refine (awake_any _).mono ?_
    rintro e wa ⟨rfl, hb⟩
    have HB := Lib.hid hb
    clear hb
    go_wp2
    go_ret
    exact ⟨rfl, HB.out⟩
  · have hs : a0.size ≤ 4000 := by omega
    have hsm : (a0.size : Int) ≤ 1000 := by omega
    by_cases ho : a1 < 0 ∨ a2 < a1 ∨ (a0.size : Int) < a2
    · have HO := Lib.hid ho
      clear ho
      go_enter Try.func5, Try.ntmps5
      go_wp2_with fail
      refine (awake_any _).mono ?_
      rintro e wa ⟨rfl, hb⟩
      have HB := Lib.hid hb
      clear hb
      go_wp2_with (first | (go_at_call 17; refine (Excerpt_out _ _ _ HO.out hs _).mono ?_; rintro e wb ⟨rfl, hbb⟩; have HBB := Lib.hid (HB.out.trans (hbb.mono (by have := HB.out.size; omega))); clear hbb) | (go_at_call 18; refine (RefExcerpt_out _ _ _ HO.out hs _).mono ?_; rintro e w' ⟨rfl, rfl⟩))
      go_ret
      exact ⟨rfl, by exact Hid.out (by assumption)⟩
    · obtain ⟨a, rfl⟩ := nat_of a1 (by omega)
      obtain ⟨b, rfl⟩ := nat_of a2 (by omega)
      have hab : a ≤ b := by omega
      have hbs : b ≤ a0.size := by omega
      clear ho
      go_enter Try.func5, Try.ntmps5
      go_wp2_with fail
      refine (awake_any _).mono ?_
      rintro e wa ⟨rfl, hb⟩
      have HB := Lib.hid hb
      clear hb
      obtain ⟨X, hX⟩ : ∃ X : ByteArray, X = ⟨(Ex.excerpt a0.data.toList a b).toArray⟩ := ⟨_, rfl⟩
      have HX := Lib.hid hX
      clear hX
      go_wp2_with (first | (go_at_call 17; refine (Excerpt_in _ _ _ hab hbs hs _).mono ?_; rintro e wb ⟨rfl, hbb⟩; rw [← HX.out]; have HBB := Lib.hid (HB.out.trans (hbb.mono (by have := HB.out.size; omega))); clear hbb) | (go_at_call 18; refine (RefExcerpt_in _ _ _ hab hbs hs _).mono ?_; rintro e w' ⟨rfl, rfl⟩; rw [← HX.out]))
      go_ret
      exact ⟨rfl, by exact Hid.out (by assumption)⟩

set_option maxHeartbeats 1600000 in
theorem law_ExcerptBack (a0 : ByteArray) (a1 : Int) (w0 : a0.size ≤ maxLen) (w1 : (Lit.int .i64 a1).wf = true) (w : World) :
    Calls Try.prog 6 #[.string a0, .int .i64 a1] w fun e w' => e = .returned (.bool true) ∧ Below w.heap.size w w' := by
  unfold maxLen at w0
  by_cases hbig : 1000 < a0.size
  · have hbig' : (1000 : Int) < a0.size := by omega
    go_enter Try.func6, Try.ntmps6
    go_wp2_with fail
    refine (awake_any _).mono ?_
    rintro e wa ⟨rfl, hb⟩
    have HB := Lib.hid hb
    clear hb
    go_wp2
    go_ret
    exact ⟨rfl, HB.out⟩
  · have hs : a0.size ≤ 4000 := by omega
    have hsm : (a0.size : Int) ≤ 1000 := by omega
    by_cases h1 : a1 < 0
    · have d1 : decide (a1 < 0) = true := by simpa using h1
      have HO := Lib.hid (show a1 < 0 ∨ (a0.size : Int) < a1 from .inl h1)
      go_enter Try.func6, Try.ntmps6
      go_wp2_with fail
      refine (awake_any _).mono ?_
      rintro e wa ⟨rfl, hb⟩
      have HB := Lib.hid hb
      clear hb
      go_wp2_with (go_at_call 11; refine (LineCol_out _ _ HO.out hs _).mono ?_; rintro e w' ⟨rfl, rfl⟩)
      go_ret
      exact ⟨rfl, HB.out⟩
    · by_cases h2 : (a0.size : Int) < a1
      · have d1 : decide (a1 < 0) = false := by simpa using h1
        have HO := Lib.hid (show a1 < 0 ∨ (a0.size : Int) < a1 from .inr h2)
        go_enter Try.func6, Try.ntmps6
        go_wp2_with fail
        refine (awake_any _).mono ?_
        rintro e wa ⟨rfl, hb⟩
        have HB := Lib.hid hb
        clear hb
        go_wp2_with (go_at_call 11; refine (LineCol_out _ _ HO.out hs _).mono ?_; rintro e w' ⟨rfl, rfl⟩)
        go_ret
        exact ⟨rfl, HB.out⟩
      · obtain ⟨o, rfl⟩ := nat_of a1 (by omega)
        have ho2 : o ≤ a0.size := by omega
        have hlen : o ≤ a0.data.toList.length := by rw [Ex.size_len]; exact ho2
        have HS := Lib.hid (Ex.starts_cnt a0.data.toList o hlen)
        have HL := Lib.hid (lineColOf_nat a0 o)
        have g1 := Ex.lineStart_le a0.data.toList o
        have g2 := Ex.cnt_le a0.data.toList o
        have hcb : (Ex.cnt a0.data.toList o : Int) ≤ 9223372036854775807 := by omega
        have HC : Hid (((o - Ex.lineStart a0.data.toList o : Nat) : Int) ≤ (Ex.lineEnd a0.data.toList (Ex.lineStart a0.data.toList o) : Int) - Ex.lineStart a0.data.toList o) := Lib.hid (by
          rw [lineEnd_start _ _ hlen]
          have := Ex.lineEnd_ge a0.data.toList o
          omega)
        have HR : Hid (((Ex.lineStart a0.data.toList o : Nat) : Int) + ((o - Ex.lineStart a0.data.toList o : Nat) : Int) = o) := Lib.hid (by omega)
        clear h1 h2
        go_enter Try.func6, Try.ntmps6
        go_wp2_with fail
        refine (awake_any _).mono ?_
        rintro e wa ⟨rfl, hb⟩
        have HB := Lib.hid hb
        clear hb
        go_wp2_with (first | (go_at_call 11; refine (LineCol_in _ _ ho2 hs _).mono ?_; rintro e w' ⟨rfl, rfl⟩; rw [HL.out]) | (go_at_call 13; refine (Offset_in _ _ _ _ hcb hs HS.out HC.out _).mono ?_; rintro e w' ⟨rfl, rfl⟩; rw [HR.out]))
        go_ret
        exact ⟨rfl, HB.out⟩

end Go.Proofs.Ytbhbjjkpbdplpaa
