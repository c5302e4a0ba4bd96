/- What Check does. -/
import Derived.Test.YtphlokjhfbfogaaZA
import Derived.Test.YtphlokjhfbfogaaZC
set_option linter.unusedVariables false
set_option linter.unusedSimpArgs false
namespace Go.Proofs.Ytphlokjhfbfogaa
open Go.RowKit Go.Shelf

namespace Dt
noncomputable def finB (d : List DataM) : Bool := @decide (AllFin d) (Classical.propDecidable _)
theorem finB_iff (d : List DataM) : finB d = true ↔ AllFin d := by unfold finB; exact @decide_eq_true_iff _ (Classical.propDecidable _)
/-- The number of the first error of a table. -/
noncomputable def check (d : List DataM) : Int := if many d then 6 else if !form d then 3 else if twice d then 8 else if !typed d then 10 else if !finB d then 7 else 0
theorem check_range (d : List DataM) : 0 ≤ check d ∧ check d ≤ 10 := by
  unfold check
  repeat' split
  all_goals omega
end Dt

set_option maxRecDepth 100000 in
set_option maxHeartbeats 3200000 in
theorem Check_any (v : Value) (d : List DataM) (w : World) (hv : DsAt w v d) (hd : Sm d) :
    Calls Try.prog 6 #[v] w fun e w' => e = .returned (.int .i64 (Dt.check d)) ∧ Below w.heap.size w w' := by
  obtain ⟨b1, h1⟩ : ∃ b, Dt.many d = b := ⟨_, rfl⟩
  obtain ⟨b2, h2⟩ : ∃ b, Dt.form d = b := ⟨_, rfl⟩
  obtain ⟨b3, h3⟩ : ∃ b, Dt.twice d = b := ⟨_, rfl⟩
  obtain ⟨b4, h4⟩ : ∃ b, Dt.typed d = b := ⟨_, rfl⟩
  obtain ⟨b5, h5⟩ : ∃ b, Dt.finB d = b := ⟨_, rfl⟩
  obtain ⟨E, hE⟩ : ∃ E, Dt.check d = E := ⟨_, rfl⟩
  have h := hE
  unfold Dt.check at h
  rw [h1, h2, h3, h4, h5] at h
  rw [hE]
  have c1 := fun W (hW : Below w.heap.size w W) => hasTooMany_any v d b1 W (hv.keep hW (Nat.le_refl _)) hd (Lib.hid h1)
  have c2 := fun W (hW : Below w.heap.size w W) => hasForm_any v d b2 W (hv.keep hW (Nat.le_refl _)) hd (Lib.hid h2)
  have c3 := fun W (hW : Below w.heap.size w W) => hasTwice_any v d b3 W (hv.keep hW (Nat.le_refl _)) hd (Lib.hid h3)
  have c4 := fun W (hW : Below w.heap.size w W) => hasFieldTypes_any v d b4 W (hv.keep hW (Nat.le_refl _)) hd (Lib.hid h4)
  have c5 := fun W (hW : Below w.heap.size w W) (ht : b4 = true) => hasFinite_any v d b5 W (hv.keep hW (Nat.le_refl _)) hd (h4.trans ht) (Lib.hid (by rw [← h5]; exact Dt.finB_iff d))
  have C1 := Lib.hid c1
  have C2 := Lib.hid c2
  have C3 := Lib.hid c3
  have C4 := Lib.hid c4
  have C5 := Lib.hid c5
  obtain ⟨ad, cap, rfl⟩ := hv.slice
  generalize d.length = n at C1 C2 C3 C4 C5
  clear h1 h2 h3 h4 h5 hE c1 c2 c3 c4 c5 hv hd
  have B0 := Lib.hid (Below.refl w.heap.size w)
  cases b1 with
  | true =>
    obtain rfl : E = 6 := by rw [← h]; rfl
    clear h
    go_enter Try.func6, Try.ntmps6
    go_wp2_with fail
    refine (C1.out _ B0.out).mono ?_
    rintro e w1 ⟨rfl, hb⟩
    have B1 := Lib.hid (B0.out.trans (hb.mono B0.out.size))
    clear hb
    go_wp2
    go_ret
    exact ⟨rfl, B1.out⟩
  | false =>
    cases b2 with
    | false =>
      obtain rfl : E = 3 := by rw [← h]; rfl
      clear h
      go_enter Try.func6, Try.ntmps6
      go_wp2_with fail
      refine (C1.out _ B0.out).mono ?_
      rintro e w1 ⟨rfl, hb⟩
      have B1 := Lib.hid (B0.out.trans (hb.mono B0.out.size))
      clear hb
      go_wp2_with fail
      refine (C2.out _ B1.out).mono ?_
      rintro e w2 ⟨rfl, hb⟩
      have B2 := Lib.hid (B1.out.trans (hb.mono B1.out.size))
      clear hb
      go_wp2
      go_ret
      exact ⟨rfl, B2.out⟩
    | true =>
      cases b3 with
      | true =>
        obtain rfl : E = 8 := by rw [← h]; rfl
        clear h
        go_enter Try.func6, Try.ntmps6
        go_wp2_with fail
        refine (C1.out _ B0.out).mono ?_
        rintro e w1 ⟨rfl, hb⟩
        have B1 := Lib.hid (B0.out.trans (hb.mono B0.out.size))
        clear hb
        go_wp2_with fail
        refine (C2.out _ B1.out).mono ?_
        rintro e w2 ⟨rfl, hb⟩
        have B2 := Lib.hid (B1.out.trans (hb.mono B1.out.size))
        clear hb
        go_wp2_with fail
        refine (C3.out _ B2.out).mono ?_
        rintro e w3 ⟨rfl, hb⟩
        have B3 := Lib.hid (B2.out.trans (hb.mono B2.out.size))
        clear hb
        go_wp2
        go_ret
        exact ⟨rfl, B3.out⟩
      | false =>
        cases b4 with
        | false =>
          obtain rfl : E = 10 := by rw [← h]; rfl
          clear h
          go_enter Try.func6, Try.ntmps6
          go_wp2_with fail
          refine (C1.out _ B0.out).mono ?_
          rintro e w1 ⟨rfl, hb⟩
          have B1 := Lib.hid (B0.out.trans (hb.mono B0.out.size))
          clear hb
          go_wp2_with fail
          refine (C2.out _ B1.out).mono ?_
          rintro e w2 ⟨rfl, hb⟩
          have B2 := Lib.hid (B1.out.trans (hb.mono B1.out.size))
          clear hb
          go_wp2_with fail
          refine (C3.out _ B2.out).mono ?_
          rintro e w3 ⟨rfl, hb⟩
          have B3 := Lib.hid (B2.out.trans (hb.mono B2.out.size))
          clear hb
          go_wp2_with fail
          refine (C4.out _ B3.out).mono ?_
          rintro e w4 ⟨rfl, hb⟩
          have B4 := Lib.hid (B3.out.trans (hb.mono B3.out.size))
          clear hb
          go_wp2
          go_ret
          exact ⟨rfl, B4.out⟩
        | true =>
          cases b5 with
          | false =>
            obtain rfl : E = 7 := by rw [← h]; rfl
            clear h
            go_enter Try.func6, Try.ntmps6
            go_wp2_with fail
            refine (C1.out _ B0.out).mono ?_
            rintro e w1 ⟨rfl, hb⟩
            have B1 := Lib.hid (B0.out.trans (hb.mono B0.out.size))
            clear hb
            go_wp2_with fail
            refine (C2.out _ B1.out).mono ?_
            rintro e w2 ⟨rfl, hb⟩
            have B2 := Lib.hid (B1.out.trans (hb.mono B1.out.size))
            clear hb
            go_wp2_with fail
            refine (C3.out _ B2.out).mono ?_
            rintro e w3 ⟨rfl, hb⟩
            have B3 := Lib.hid (B2.out.trans (hb.mono B2.out.size))
            clear hb
            go_wp2_with fail
            refine (C4.out _ B3.out).mono ?_
            rintro e w4 ⟨rfl, hb⟩
            have B4 := Lib.hid (B3.out.trans (hb.mono B3.out.size))
            clear hb
            go_wp2_with fail
            refine (C5.out _ B4.out (by first | rfl | trivial)).mono ?_
            rintro e w5 ⟨rfl, hb⟩
            have B5 := Lib.hid (B4.out.trans (hb.mono B4.out.size))
            clear hb
            go_wp2
            go_ret
            exact ⟨rfl, B5.out⟩
          | true =>
            obtain rfl : E = 0 := by rw [← h]; rfl
            clear h
            go_enter Try.func6, Try.ntmps6
            go_wp2_with fail
            refine (C1.out _ B0.out).mono ?_
            rintro e w1 ⟨rfl, hb⟩
            have B1 := Lib.hid (B0.out.trans (hb.mono B0.out.size))
            clear hb
            go_wp2_with fail
            refine (C2.out _ B1.out).mono ?_
            rintro e w2 ⟨rfl, hb⟩
            have B2 := Lib.hid (B1.out.trans (hb.mono B1.out.size))
            clear hb
            go_wp2_with fail
            refine (C3.out _ B2.out).mono ?_
            rintro e w3 ⟨rfl, hb⟩
            have B3 := Lib.hid (B2.out.trans (hb.mono B2.out.size))
            clear hb
            go_wp2_with fail
            refine (C4.out _ B3.out).mono ?_
            rintro e w4 ⟨rfl, hb⟩
            have B4 := Lib.hid (B3.out.trans (hb.mono B3.out.size))
            clear hb
            go_wp2_with fail
            refine (C5.out _ B4.out (by first | rfl | trivial)).mono ?_
            rintro e w5 ⟨rfl, hb⟩
            have B5 := Lib.hid (B4.out.trans (hb.mono B4.out.size))
            clear hb
            go_wp2
            go_ret
            exact ⟨rfl, B5.out⟩

end Go.Proofs.Ytphlokjhfbfogaa
