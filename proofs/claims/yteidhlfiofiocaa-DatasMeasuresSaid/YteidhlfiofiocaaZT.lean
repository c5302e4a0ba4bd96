/- The laws DatasMeasures and DatasFinds. -/
import Derived.Test.YteidhlfiofiocaaZO
import Derived.Test.YteidhlfiofiocaaZP
import Derived.Test.YteidhlfiofiocaaZS
set_option linter.unusedVariables false
set_option linter.unusedSimpArgs false
namespace Go.Proofs.Yteidhlfiofiocaa
open Go.RowKit Go.Shelf

/-- The fields of a table are numbers of 64 bits. -/
def H64 (d : List DataM) : Prop := ∀ x ∈ d, ∀ c ∈ x.cons, ∀ f ∈ c.fields, In64 f

set_option maxRecDepth 100000 in
set_option maxHeartbeats 3200000 in
theorem law_DatasMeasures (v : Value) (d : List DataM) (t con : Int) (w : World) (hv : DsAt w v d) (h64 : H64 d) (ht : In64 t) (hc : In64 con) :
    Calls Try.prog 4 #[v, .int .i64 t, .int .i64 con] w fun e w' => e = .returned (.bool true) ∧ Below w.heap.size w w' := by
  obtain ⟨ad, cap, hE⟩ := hv.slice
  have HV := Lib.hid hv
  have HC := Lib.hid hc
  generalize d.length = n at hE
  subst hE
  cases hf : Dt.few d with
  | false =>
    have HF := Lib.hid hf
    clear hv h64 ht hc hf
    go_enter Try.func4, Try.ntmps4
    go_wp2_with fail
    refine (awake_any w).mono ?_
    rintro e w1 ⟨rfl, hb⟩
    have HB := Lib.hid hb
    have HV1 := Lib.hid (HV.out.keep hb (Nat.le_refl _))
    clear hb
    go_wp2_with fail
    refine (Few_any _ d false w1 HV1.out HF).mono ?_
    rintro e w2 ⟨rfl, rfl⟩
    go_wp2
    go_ret
    exact ⟨rfl, HB.out⟩
  | true =>
    have HF := Lib.hid hf
    have HS := Lib.hid (Dt.few_sm hf h64)
    clear hv h64 ht hc hf
    go_enter Try.func4, Try.ntmps4
    go_wp2_with fail
    refine (awake_any w).mono ?_
    rintro e w1 ⟨rfl, hb⟩
    have HB := Lib.hid hb
    have HV1 := Lib.hid (HV.out.keep hb (Nat.le_refl _))
    clear hb
    go_wp2_with fail
    refine (Few_any _ d true w1 HV1.out HF).mono ?_
    rintro e w2 ⟨rfl, h⟩
    rw [h]
    clear h w2
    go_wp2_with fail
    obtain ⟨b, hbE⟩ : ∃ b, Dt.flat d t = b := ⟨_, rfl⟩
    refine (Flat_any _ d t b w1 HV1.out HS.out (Lib.hid hbE)).mono ?_
    rintro e w3 ⟨rfl, hb⟩
    have HB3 := Lib.hid (HB.out.trans (hb.mono HB.out.size))
    have HV3 := Lib.hid (HV1.out.keep hb (Nat.le_refl _))
    have HBE := Lib.hid hbE
    clear hb hbE
    go_wp2_with fail
    refine (rFlat_any _ d t b w3 HV3.out HS.out HBE).mono ?_
    rintro e w4 ⟨rfl, h⟩
    rw [h]
    clear h w4
    go_wp2_with fail
    refine (Cells_any _ d t con w3 HV3.out HS.out HC.out).mono ?_
    rintro e w5 ⟨rfl, hb⟩
    have HB5 := Lib.hid (HB3.out.trans (hb.mono HB3.out.size))
    have HV5 := Lib.hid (HV3.out.keep hb (Nat.le_refl _))
    have HR := Lib.hid (rCells_any _ d t con w5 HV5.out HS.out)
    generalize Dt.cells d t con = q at HR ⊢
    clear hb
    go_wp2_with fail
    refine HR.out.mono ?_
    rintro e w6 ⟨rfl, h⟩
    rw [h]
    clear h w6
    go_wp2
    go_ret
    exact ⟨rfl, HB5.out⟩

set_option maxRecDepth 100000 in
set_option maxHeartbeats 3200000 in
theorem law_DatasFinds (v : Value) (d : List DataM) (s : ByteArray) (t : Int) (w : World) (hv : DsAt w v d) (h64 : H64 d) (ht : In64 t) :
    Calls Try.prog 5 #[v, .string s, .int .i64 t] w fun e w' => e = .returned (.bool true) ∧ Below w.heap.size w w' := by
  obtain ⟨ad, cap, hE⟩ := hv.slice
  have HV := Lib.hid hv
  generalize d.length = n at hE
  subst hE
  cases hf : Dt.few d with
  | false =>
    have HF := Lib.hid hf
    clear hv h64 ht hf
    go_enter Try.func5, Try.ntmps5
    go_wp2_with fail
    refine (awake_any w).mono ?_
    rintro e w1 ⟨rfl, hb⟩
    have HB := Lib.hid hb
    have HV1 := Lib.hid (HV.out.keep hb (Nat.le_refl _))
    clear hb
    go_wp2_with fail
    refine (Few_any _ d false w1 HV1.out HF).mono ?_
    rintro e w2 ⟨rfl, rfl⟩
    go_wp2
    go_ret
    exact ⟨rfl, HB.out⟩
  | true =>
    have HF := Lib.hid hf
    have HS := Lib.hid (Dt.few_sm hf h64)
    clear hv h64 ht hf
    by_cases hlen : 100 < s.size
    · have hlen2 : (100 : Int) < s.size := by omega
      go_enter Try.func5, Try.ntmps5
      go_wp2_with fail
      refine (awake_any w).mono ?_
      rintro e w1 ⟨rfl, hb⟩
      have HB := Lib.hid hb
      have HV1 := Lib.hid (HV.out.keep hb (Nat.le_refl _))
      clear hb
      go_wp2_with fail
      refine (Few_any _ d true w1 HV1.out HF).mono ?_
      rintro e w2 ⟨rfl, rfl⟩
      go_wp2
      go_ret
      exact ⟨rfl, HB.out⟩
    · have hlen2 : ¬ (100 : Int) < s.size := by omega
      go_enter Try.func5, Try.ntmps5
      go_wp2_with fail
      refine (awake_any w).mono ?_
      rintro e w1 ⟨rfl, hb⟩
      have HB := Lib.hid hb
      have HV1 := Lib.hid (HV.out.keep hb (Nat.le_refl _))
      clear hb
      go_wp2_with fail
      refine (Few_any _ d true w1 HV1.out HF).mono ?_
      rintro e w2 ⟨rfl, h⟩
      rw [h]
      clear h w2
      have HT := Lib.hid (Type_any _ d s w1 HV1.out HS.out)
      have HTR := Lib.hid (fun w' h => rType_any (.slice ad n cap) d s w' h HS.out)
      obtain ⟨a, ha⟩ : ∃ a, Dt.typeOf d s = a := ⟨_, rfl⟩
      rw [ha] at HT HTR
      clear ha
      obtain ⟨a1, a2⟩ := a
      dsimp only at HT HTR
      go_wp2_with fail
      refine HT.out.mono ?_
      rintro e w3 ⟨rfl, hb⟩
      have HB3 := Lib.hid (HB.out.trans (hb.mono HB.out.size))
      have HV3 := Lib.hid (HV1.out.keep hb (Nat.le_refl _))
      clear hb
      go_wp2_with fail
      refine (HTR.out w3 HV3.out).mono ?_
      rintro e w4 ⟨rfl, h⟩
      rw [h]
      clear h w4
      have HC := Lib.hid (Con_any _ d s w3 HV3.out HS.out)
      have HCR := Lib.hid (fun w' h => rCon_any (.slice ad n cap) d s w' h HS.out)
      obtain ⟨c, hc⟩ : ∃ c, Dt.conOf d s = c := ⟨_, rfl⟩
      rw [hc] at HC HCR
      clear hc
      obtain ⟨c1, c2, c3⟩ := c
      dsimp only at HC HCR
      go_wp2_with fail
      refine HC.out.mono ?_
      rintro e w5 ⟨rfl, hb⟩
      have HB5 := Lib.hid (HB3.out.trans (hb.mono HB3.out.size))
      have HV5 := Lib.hid (HV3.out.keep hb (Nat.le_refl _))
      clear hb
      go_wp2_with fail
      refine (HCR.out w5 HV5.out).mono ?_
      rintro e w6 ⟨rfl, h⟩
      rw [h]
      clear h w6
      have HN := Lib.hid (Name_any _ d t w5 HV5.out HS.out)
      have HNR := Lib.hid (rName_any _ d t w5 HV5.out HS.out)
      generalize Dt.nameOf d t = nm at HN HNR
      go_wp2_with fail
      refine HN.out.mono ?_
      rintro e w7 ⟨rfl, h⟩
      rw [h]
      clear h w7
      go_wp2_with fail
      refine HNR.out.mono ?_
      rintro e w8 ⟨rfl, h⟩
      rw [h]
      clear h w8
      go_wp2
      go_ret
      exact ⟨rfl, HB5.out⟩

end Go.Proofs.Yteidhlfiofiocaa
