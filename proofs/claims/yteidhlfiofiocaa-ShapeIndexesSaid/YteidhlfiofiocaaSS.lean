/- The laws ShapeIndexes and ShapeCloses. -/
import Derived.Test.YteidhlfiofiocaaSR
import Derived.Deep.SlicePairs
import Derived.Lib.SmallJoins
set_option linter.unusedVariables false
set_option linter.unusedSimpArgs false
namespace Go.Proofs.Yteidhlfiofiocaa
open Go.RowKit Go.Shelf

set_option maxRecDepth 100000 in
set_option maxHeartbeats 6400000 in
theorem law_ShapeIndexes (v : Value) (d : List DataM) (t a b : Int) (w : World) (hv : DsAt w v d) (h64 : H64 d) (hl : d.length ≤ maxLen) (ht : In64 t) (ha : In64 a) (hb0 : In64 b) :
    Calls Try.prog 11 #[v, .int .i64 t, .agg #[.int .i64 a, .int .i64 b]] w fun e w' => e = .returned (.bool true) ∧ Below w.heap.size w w' := by
  obtain ⟨ad, cap, hE⟩ := hv.slice
  have HT := Lib.hid ht
  have HPA := Lib.hid (And.intro ha hb0)
  obtain ⟨q, hq⟩ : ∃ q, Dt.fewS d = q := ⟨_, rfl⟩
  have HFW : Hid (∀ W : World, DsAt W v d → Calls Try.prog 36 #[v] W fun e w' => e = .returned (.bool q) ∧ w' = W) := Lib.hid fun W h => sFew_any v d q W h hl (Lib.hid hq)
  have HS : Hid (q = true → Sm d) := Lib.hid fun h => Dt.fewS_sm (hq.trans h) h64
  have hA := (Below.refl w.heap.size w).alloc (Nat.le_refl _) (.cells #[.int .i64 a, .int .i64 b] 50)
  have HV := Lib.hid (hv.keep hA (Nat.le_refl _))
  have hx0 : (w.alloc (.cells #[.int .i64 a, .int .i64 b] 50)).cell? ⟨w.heap.size, 0, none⟩ = some (.int .i64 a) := by simp
  have hx1 : (w.alloc (.cells #[.int .i64 a, .int .i64 b] 50)).cell? ⟨w.heap.size, 0 + 1, none⟩ = some (.int .i64 b) := by simp
  have hlt : w.heap.size < (w.alloc (.cells #[.int .i64 a, .int .i64 b] 50)).heap.size := by simp
  have HA := Lib.hid hA
  have HX := Lib.hid (And.intro hx0 (And.intro hx1 hlt))
  generalize d.length = n at hE
  subst hE
  clear hv h64 ht ha hb0 hq hl hA hx0 hx1 hlt
  go_enter Try.func11, Try.ntmps11
  go_wp2_with fail
  refine (sawake_any _).mono ?_
  rintro e w1 ⟨rfl, hb⟩
  have HB := Lib.hid (HA.out.trans (hb.mono HA.out.size))
  have HV1 := Lib.hid (HV.out.keep hb (Nat.le_refl _))
  have HX1 : Hid (w1.cell? ⟨w.heap.size, 0, none⟩ = some (.int .i64 a) ∧ w1.cell? ⟨w.heap.size, 0 + 1, none⟩ = some (.int .i64 b) ∧ w.heap.size < w1.heap.size) := Lib.hid ⟨(hb.cell (p := ⟨w.heap.size, 0, none⟩) HX.out.2.2).trans HX.out.1, (hb.cell (p := ⟨w.heap.size, 0 + 1, none⟩) HX.out.2.2).trans HX.out.2.1, Nat.lt_of_lt_of_le HX.out.2.2 hb.size⟩
  clear hb HX HA HV
  go_wp2_with fail
  refine (HFW.out w1 HV1.out).mono ?_
  rintro e w2 ⟨rfl, hw⟩
  rw [hw]
  clear hw w2 HFW
  cases q with
  | false =>
    go_wp2
    go_ret
    exact ⟨rfl, HB.out⟩
  | true =>
    have HSM := Lib.hid (HS.out rfl)
    obtain ⟨z, hz⟩ : ∃ z, Dt.pidx (a, b) (Dt.ofM d t) = z := ⟨_, rfl⟩
    have HIX : Hid (∀ W : World, DsAt W (.slice ad n cap) d → Calls Try.prog 41 #[.slice ad n cap, .int .i64 t, .agg #[.int .i64 a, .int .i64 b]] W fun e w' => e = .returned (.int .i64 z) ∧ Below W.heap.size W w') := Lib.hid fun W h => by rw [← hz]; exact Index_any _ d t (a, b) W h HSM.out HT.out HPA.out.1 HPA.out.2
    have HRX : Hid (∀ W : World, DsAt W (.slice ad n cap) d → Calls Try.prog 42 #[.slice ad n cap, .int .i64 t, .agg #[.int .i64 a, .int .i64 b]] W fun e w' => e = .returned (.int .i64 z) ∧ Below W.heap.size W w') := Lib.hid fun W h => by rw [← hz]; exact rIndex_any _ d t (a, b) W h HSM.out HPA.out.1 HPA.out.2
    obtain ⟨x0, x1, hlt⟩ := HX1.out
    clear hz HX1
    go_wp2
    obtain ⟨s0, hs0⟩ : ∃ s0, w.heap.size = s0 := ⟨_, rfl⟩
    rw [hs0] at x0 x1 hlt HB ⊢
    have HS0 : Hid (s0 = w.heap.size) := Lib.hid hs0.symm
    clear hs0
    go_region_held3 (fun w' => w'.cell? ⟨s0, 0, none⟩ = some (.int .i64 a) ∧ w'.cell? ⟨s0, 0 + 1, none⟩ = some (.int .i64 b)) (first | ((try dsimp only); (repeat' apply And.intro); all_goals with_reducible assumption) | go_keep) (first | (go_at_call 41; refine (HIX.out _ (by first | exact HV1.out.keep (Below.refl _ _).drew (Nat.le_refl _) | exact HV1.out)).mono ?_; rintro e w3 ⟨rfl, hb⟩; have HB3 := Lib.hid (bchain (Nat.le_of_eq HS0.out) HB.out hb (by first | exact .inr rfl | exact .inl rfl)); have HV3 := Lib.hid (HV1.out.keep (Below.trans (Below.refl w1.heap.size w1).drew hb) (Nat.le_refl _)); have k0 := (hb.cell (p := ⟨s0, 0, none⟩) hlt).trans x0; have k1 := (hb.cell (p := ⟨s0, 0 + 1, none⟩) hlt).trans x1; have hl1 : s0 < w3.heap.size := Nat.lt_of_lt_of_le hlt hb.size) | (go_at_call 42; refine (HRX.out _ (by first | exact HV3.out | exact HV3.out.keep (Below.refl _ _).drew (Nat.le_refl _))).mono ?_; rintro e w4 ⟨rfl, hb2⟩; have HB4 := Lib.hid (bchain (Nat.le_of_eq HS0.out) HB3.out hb2 (by first | exact .inl rfl | exact .inr rfl)); have m0 := (hb2.cell (p := ⟨s0, 0, none⟩) hl1).trans k0; have m1 := (hb2.cell (p := ⟨s0, 0 + 1, none⟩) hl1).trans k1; clear k0 k1))
    all_goals (go_wp2; go_ret; exact ⟨by simp, by rw [← HS0.out]; exact HB4.out⟩)

set_option maxRecDepth 100000 in
theorem place_arg {H : Type} {enc : TypeId × Value → H} {W : World} {base : Nat} {v : Value} {d : DataW H} {p : List MemPlace}
    (hv : Value.okWide Try.prog W .any base 50 v) (h : DataW.Trod enc Try.prog W 0 (fun _ => true) true 50 v d p) :
    ∃ a b : Int, v = .agg #[.int .i64 a, .int .i64 b] ∧ In64 a ∧ In64 b := by
  obtain ⟨v0, v1, y0, y1, k, rfl, _, _, h0, h1⟩ := Go.Joins.open_agg2 Try.underlying50 (by kernel_rfl) (by kernel_rfl) hv h
  obtain ⟨a, ha, _, wa⟩ := DataW.trod_int Try.underlying28 h0
  obtain ⟨b, hb, _, wb⟩ := DataW.trod_int Try.underlying3 h1
  obtain rfl : v0 = .int .i64 a := by simpa using ha
  obtain rfl : v1 = .int .i64 b := by simpa using hb
  exact ⟨a, b, rfl, bounds_i64 wa, bounds_i64 wb⟩

end Go.Proofs.Yteidhlfiofiocaa
