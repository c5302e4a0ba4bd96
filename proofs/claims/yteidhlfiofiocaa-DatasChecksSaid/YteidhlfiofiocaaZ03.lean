/- The reference's Check; the law DatasChecks. -/
import Derived.Test.YteidhlfiofiocaaZY
import Derived.Test.YteidhlfiofiocaaZ01
import Derived.Test.YteidhlfiofiocaaZ02
set_option linter.unusedVariables false
set_option linter.unusedSimpArgs false
namespace Go.Proofs.Yteidhlfiofiocaa
open Go.RowKit Go.Shelf

set_option maxRecDepth 100000 in
set_option maxHeartbeats 3200000 in
theorem rCheck_any (v : Value) (d : List DataM) (w : World) (hv : DsAt w v d) (hd : Sm d) :
    Calls Try.prog 18 #[v] w fun e w' => e = .returned (.int .i64 (Dt.check d)) ∧ Below w.heap.size w w' := by
  obtain ⟨b1, h1⟩ : ∃ b, Dt.many d = b := ⟨_, rfl⟩
  obtain ⟨b2, h2⟩ : ∃ b, Dt.form d = b := ⟨_, rfl⟩
  obtain ⟨b3, h3⟩ : ∃ b, Dt.twice d = b := ⟨_, rfl⟩
  obtain ⟨b4, h4⟩ : ∃ b, Dt.typed d = b := ⟨_, rfl⟩
  obtain ⟨b5, h5⟩ : ∃ b, Dt.finB d = b := ⟨_, rfl⟩
  obtain ⟨E, hE⟩ : ∃ E, Dt.check d = E := ⟨_, rfl⟩
  have h := hE
  unfold Dt.check at h
  rw [h1, h2, h3, h4, h5] at h
  rw [hE]
  have HB1 := Lib.hid h1
  have HB2 := Lib.hid h2
  have HB3 := Lib.hid h3
  have HB4 := Lib.hid h4
  have HB5 : Hid (b5 = true ↔ AllFin d) := Lib.hid (by rw [← h5]; exact Dt.finB_iff d)
  have HV := Lib.hid hv
  have HD := Lib.hid hd
  obtain ⟨ad, cap, rfl⟩ := hv.slice
  generalize d.length = n at HV ⊢
  clear h1 h2 h3 h4 h5 hE hv hd
  cases b1 with
  | true =>
    obtain rfl : E = 6 := by rw [← h]; rfl
    clear h
    go_enter Try.func18, Try.ntmps18
    go_wp2_with fail
    refine (rMany_any _ d true w HV.out HD.out HB1).mono ?_
    rintro e w' ⟨rfl, hw⟩
    rw [hw]
    clear hw w'
    go_wp2
    go_ret
    exact ⟨rfl, Below.refl _ _⟩
  | false =>
    cases b2 with
    | false =>
      obtain rfl : E = 3 := by rw [← h]; rfl
      clear h
      go_enter Try.func18, Try.ntmps18
      go_wp2_with fail
      refine (rMany_any _ d false w HV.out HD.out HB1).mono ?_
      rintro e w' ⟨rfl, hw⟩
      rw [hw]
      clear hw w'
      go_wp2_with fail
      refine (rFormed_any _ d false w HV.out HD.out HB2).mono ?_
      rintro e w1 ⟨rfl, hb⟩
      have HBB := Lib.hid hb
      clear hb
      go_wp2
      go_ret
      exact ⟨rfl, HBB.out⟩
    | true =>
      cases b3 with
      | true =>
        obtain rfl : E = 8 := by rw [← h]; rfl
        clear h
        go_enter Try.func18, Try.ntmps18
        go_wp2_with fail
        refine (rMany_any _ d false w HV.out HD.out HB1).mono ?_
        rintro e w' ⟨rfl, hw⟩
        rw [hw]
        clear hw w'
        go_wp2_with fail
        refine (rFormed_any _ d true w HV.out HD.out HB2).mono ?_
        rintro e w1 ⟨rfl, hb⟩
        have HBB := Lib.hid hb
        have HV1 := Lib.hid (HV.out.keep hb (Nat.le_refl _))
        clear hb
        go_wp2_with fail
        refine (rTwice_any _ d true w1 HV1.out HD.out HB3).mono ?_
        rintro e w2 ⟨rfl, hb⟩
        have HBC := Lib.hid (HBB.out.trans (hb.mono HBB.out.size))
        clear hb
        go_wp2
        go_ret
        exact ⟨rfl, HBC.out⟩
      | false =>
        cases b4 with
        | false =>
          obtain rfl : E = 10 := by rw [← h]; rfl
          clear h
          go_enter Try.func18, Try.ntmps18
          go_wp2_with fail
          refine (rMany_any _ d false w HV.out HD.out HB1).mono ?_
          rintro e w' ⟨rfl, hw⟩
          rw [hw]
          clear hw w'
          go_wp2_with fail
          refine (rFormed_any _ d true w HV.out HD.out HB2).mono ?_
          rintro e w1 ⟨rfl, hb⟩
          have HBB := Lib.hid hb
          have HV1 := Lib.hid (HV.out.keep hb (Nat.le_refl _))
          clear hb
          go_wp2_with fail
          refine (rTwice_any _ d false w1 HV1.out HD.out HB3).mono ?_
          rintro e w2 ⟨rfl, hb⟩
          have HBC := Lib.hid (HBB.out.trans (hb.mono HBB.out.size))
          have HV2 := Lib.hid (HV1.out.keep hb (Nat.le_refl _))
          clear hb
          go_wp2_with fail
          refine (rTyped_any _ d false w2 HV2.out HD.out HB4).mono ?_
          rintro e w' ⟨rfl, hw⟩
          rw [hw]
          clear hw w'
          go_wp2
          go_ret
          exact ⟨rfl, HBC.out⟩
        | true =>
          cases b5 with
          | false =>
            obtain rfl : E = 7 := by rw [← h]; rfl
            clear h
            go_enter Try.func18, Try.ntmps18
            go_wp2_with fail
            refine (rMany_any _ d false w HV.out HD.out HB1).mono ?_
            rintro e w' ⟨rfl, hw⟩
            rw [hw]
            clear hw w'
            go_wp2_with fail
            refine (rFormed_any _ d true w HV.out HD.out HB2).mono ?_
            rintro e w1 ⟨rfl, hb⟩
            have HBB := Lib.hid hb
            have HV1 := Lib.hid (HV.out.keep hb (Nat.le_refl _))
            clear hb
            go_wp2_with fail
            refine (rTwice_any _ d false w1 HV1.out HD.out HB3).mono ?_
            rintro e w2 ⟨rfl, hb⟩
            have HBC := Lib.hid (HBB.out.trans (hb.mono HBB.out.size))
            have HV2 := Lib.hid (HV1.out.keep hb (Nat.le_refl _))
            clear hb
            go_wp2_with fail
            refine (rTyped_any _ d true w2 HV2.out HD.out HB4).mono ?_
            rintro e w' ⟨rfl, hw⟩
            rw [hw]
            clear hw w'
            go_wp2_with fail
            refine (rFinite_any _ d false w2 HV2.out HD.out HB4.out HB5).mono ?_
            rintro e w3 ⟨rfl, hb⟩
            have HBD := Lib.hid (HBC.out.trans (hb.mono HBC.out.size))
            clear hb
            go_wp2
            go_ret
            exact ⟨rfl, HBD.out⟩
          | true =>
            obtain rfl : E = 0 := by rw [← h]; rfl
            clear h
            go_enter Try.func18, Try.ntmps18
            go_wp2_with fail
            refine (rMany_any _ d false w HV.out HD.out HB1).mono ?_
            rintro e w' ⟨rfl, hw⟩
            rw [hw]
            clear hw w'
            go_wp2_with fail
            refine (rFormed_any _ d true w HV.out HD.out HB2).mono ?_
            rintro e w1 ⟨rfl, hb⟩
            have HBB := Lib.hid hb
            have HV1 := Lib.hid (HV.out.keep hb (Nat.le_refl _))
            clear hb
            go_wp2_with fail
            refine (rTwice_any _ d false w1 HV1.out HD.out HB3).mono ?_
            rintro e w2 ⟨rfl, hb⟩
            have HBC := Lib.hid (HBB.out.trans (hb.mono HBB.out.size))
            have HV2 := Lib.hid (HV1.out.keep hb (Nat.le_refl _))
            clear hb
            go_wp2_with fail
            refine (rTyped_any _ d true w2 HV2.out HD.out HB4).mono ?_
            rintro e w' ⟨rfl, hw⟩
            rw [hw]
            clear hw w'
            go_wp2_with fail
            refine (rFinite_any _ d true w2 HV2.out HD.out HB4.out (Lib.hid ⟨fun _ => HB5.out.1 trivial, fun _ => rfl⟩)).mono ?_
            rintro e w3 ⟨rfl, hb⟩
            have HBD := Lib.hid (HBC.out.trans (hb.mono HBC.out.size))
            clear hb
            go_wp2
            go_ret
            exact ⟨rfl, HBD.out⟩

set_option maxRecDepth 100000 in
set_option maxHeartbeats 3200000 in
theorem law_DatasChecks (v : Value) (d : List DataM) (w : World) (hv : DsAt w v d) (h64 : H64 d) :
    Calls Try.prog 3 #[v] w fun e w' => e = .returned (.bool true) ∧ Below w.heap.size w w' := by
  obtain ⟨ad, cap, hE⟩ := hv.slice
  have HV := Lib.hid hv
  generalize d.length = n at hE
  subst hE
  cases hf : Dt.few d with
  | false =>
    have HF := Lib.hid hf
    clear hv h64 hf
    go_enter Try.func3, Try.ntmps3
    go_wp2_with fail
    refine (awake_any w).mono ?_
    rintro e w1 ⟨rfl, hb⟩
    have HB := Lib.hid hb
    have HV1 := Lib.hid (HV.out.keep hb (Nat.le_refl _))
    clear hb
    go_wp2_with fail
    refine (Few_any _ d false w1 HV1.out HF).mono ?_
    rintro e w2 ⟨rfl, rfl⟩
    go_wp2
    go_ret
    exact ⟨rfl, HB.out⟩
  | true =>
    have HF := Lib.hid hf
    have HS := Lib.hid (Dt.few_sm hf h64)
    obtain ⟨hr1, hr2⟩ := Dt.check_range d
    obtain ⟨E, hE⟩ : ∃ E, Dt.check d = E := ⟨_, rfl⟩
    rw [hE] at hr1 hr2
    have HE := Lib.hid hE
    clear hv h64 hf hE
    go_enter Try.func3, Try.ntmps3
    go_wp2_with fail
    refine (awake_any w).mono ?_
    rintro e w1 ⟨rfl, hb⟩
    have HB := Lib.hid hb
    have HV1 := Lib.hid (HV.out.keep hb (Nat.le_refl _))
    clear hb
    go_wp2_with fail
    refine (Few_any _ d true w1 HV1.out HF).mono ?_
    rintro e w2 ⟨rfl, h⟩
    rw [h]
    clear h w2
    have HCK := Lib.hid (Check_any _ d w1 HV1.out HS.out)
    rw [HE.out] at HCK
    go_wp2_with fail
    refine HCK.out.mono ?_
    rintro e w3 ⟨rfl, hb⟩
    have HB3 := Lib.hid (HB.out.trans (hb.mono HB.out.size))
    have HV3 := Lib.hid (HV1.out.keep hb (Nat.le_refl _))
    clear hb
    have HRC := Lib.hid (rCheck_any _ d w3 HV3.out HS.out)
    rw [HE.out] at HRC
    go_wp2_with fail
    refine HRC.out.mono ?_
    rintro e w4 ⟨rfl, hb⟩
    have HB4 := Lib.hid (HB3.out.trans (hb.mono HB3.out.size))
    clear hb
    go_wp2
    go_ret
    exact ⟨rfl, HB4.out⟩

end Go.Proofs.Yteidhlfiofiocaa
