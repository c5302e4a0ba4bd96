/- What the reference's Small does. -/
import Derived.Test.YtdkpcjfadabkbaaGreatDoorR14
import Derived.Deep.DeepCutAuto
import Derived.Deep.RegionWith
set_option linter.unusedVariables false
set_option linter.unusedSimpArgs false
namespace Go.Proofs.YtdkpcjfadabkbaaGreatDoor
open Go.RowKit _root_.Go.Proofs.YtdkpcjfadabkbaaGreatDoor.Nm

def maxText : ByteArray := ⟨#[57, 50, 50, 51, 51, 55, 50, 48, 51, 54, 56, 53, 52, 55, 55, 53, 56, 48, 55]⟩
def minText : ByteArray := ⟨#[45, 57, 50, 50, 51, 51, 55, 50, 48, 51, 54, 56, 53, 52, 55, 55, 53, 56, 48, 56]⟩

theorem max_ref (w : World) : Calls Tryz.prog 12 #[.string ⟨#[57, 50, 50, 51, 51, 55, 50, 48, 51, 54, 56, 53, 52, 55, 55, 53, 56, 48, 55]⟩] w (RefPost 9223372036854775807 w) := by
  have h := rOf_any maxText (by decide +kernel) w
  rwa [show zv maxText.data.toList = 9223372036854775807 from by decide +kernel] at h
theorem min_ref (w : World) : Calls Tryz.prog 12 #[.string ⟨#[45, 57, 50, 50, 51, 51, 55, 50, 48, 51, 54, 56, 53, 52, 55, 55, 53, 56, 48, 56]⟩] w (RefPost (-9223372036854775808) w) := by
  have h := rOf_any minText (by decide +kernel) w
  rwa [show zv minText.data.toList = -9223372036854775808 from by decide +kernel] at h
theorem max_len : (dg (9223372036854775807 : Int).natAbs).length ≤ 2000 := by decide +kernel
theorem min_len : (dg (-9223372036854775808 : Int).natAbs).length ≤ 2000 := by decide +kernel

theorem dval_take_le (xs : List Nat) (k : Nat) : dval (xs.take k) ≤ dval xs := by
  have h := dval_append (xs.take k) (xs.drop k)
  rw [List.take_append_drop] at h
  have h2 : 1 * dval (xs.take k) ≤ 10 ^ (xs.drop k).length * dval (xs.take k) := Nat.mul_le_mul_right _ (Nat.one_le_pow _ _ (by omega))
  omega

theorem dval_take_succ (xs : List Nat) (k : Nat) (h : k < xs.length) : dval (xs.take (k + 1)) = xs[k] + 10 * dval (xs.take k) := by
  rw [List.take_add_one, List.getElem?_eq_getElem h]
  exact dval_snoc _ _

/-- What Small returns, and whether the number is in the range. -/
def SmallPost (z : Int) (w : World) (e : Ending) (w' : World) : Prop :=
  ((I64 z ∧ e = .returned (.tuple #[.int .i64 z, .bool true])) ∨ (¬ I64 z ∧ e = .returned (.tuple #[.int .i64 0, .bool false]))) ∧ Below w.heap.size w w'

set_option maxRecDepth 100000 in
set_option maxHeartbeats 6400000 in
theorem rSmall_any (v : Value) (z : Int) (w : World) (h : Ref w v z) (lz : (dg z.natAbs).length ≤ 2000) :
    Calls Tryz.prog 24 #[v] w (SmallPost z w) := by
  obtain ⟨aa, ca, rfl⟩ := h.form
  obtain ⟨sv, hv, hr⟩ := id h
  simp only [Value.agg.injEq, Array.mk.injEq, List.cons.injEq, and_true] at hv
  obtain ⟨_, rfl⟩ := hv
  obtain ⟨nz, hnz⟩ : ∃ b, isNeg z = b := ⟨_, rfl⟩
  obtain ⟨la, hla⟩ : ∃ l, (dg z.natAbs).length = l := ⟨_, rfl⟩
  rw [hnz, hla] at h ⊢
  rw [hla] at hr
  have HNZ := Lib.hid (And.intro trivial hnz)
  have HLA := Lib.hid (And.intro trivial hla)
  have HLZ := Lib.hid (And.intro trivial lz)
  have HMX := Lib.hid (And.intro trivial max_len)
  have HMN := Lib.hid (And.intro trivial min_len)
  have HB0 := Lib.hid (((Below.refl w.heap.size w).alloc (Nat.le_refl _) (.cells #[.bool nz, .slice aa la ca] 30)).drew)
  have HBX := Lib.hid (Bx.new w (.bool nz) (.slice aa la ca) 30).drew
  have HZ := Lib.hid (h.keep HB0.out (Nat.le_refl _))
  have HR0 := Lib.hid hr
  have HR := Lib.hid (hr.keep HB0.out (Nat.le_refl _))
  clear h hr hnz hla lz
  obtain ⟨c0, c1, c2, c3⟩ := HBX.out.cell
  obtain ⟨t1, ht1⟩ : ∃ t, sgn2 z 9223372036854775807 = t := ⟨_, rfl⟩
  obtain ⟨t2, ht2⟩ : ∃ t, sgn2 z (-9223372036854775808) = t := ⟨_, rfl⟩
  have HT1 := Lib.hid (And.intro trivial ht1.symm)
  have HT2 := Lib.hid (And.intro trivial ht2.symm)
  have hways : ∃ bad : Bool, (bad = true ∧ ¬ I64 z ∧ 0 < t1) ∨ (bad = true ∧ ¬ I64 z ∧ ¬ 0 < t1 ∧ t2 < 0) ∨ (bad = false ∧ I64 z ∧ ¬ 0 < t1 ∧ ¬ t2 < 0) := by
    unfold sgn2 at ht1 ht2
    unfold I64
    by_cases k1 : z < 9223372036854775807
    · rw [if_pos k1] at ht1
      by_cases k2 : z < -9223372036854775808
      · rw [if_pos k2] at ht2; exact ⟨true, .inr (.inl ⟨rfl, by omega⟩)⟩
      · rw [if_neg k2] at ht2
        refine ⟨false, .inr (.inr ⟨rfl, by omega, ?_⟩)⟩
        split at ht2 <;> omega
    · rw [if_neg k1] at ht1
      by_cases k3 : 9223372036854775807 < z
      · rw [if_pos k3] at ht1; exact ⟨true, .inl ⟨rfl, by omega⟩⟩
      · rw [if_neg k3] at ht1
        rw [if_neg (by omega)] at ht2
        refine ⟨false, .inr (.inr ⟨rfl, by omega, ?_⟩)⟩
        split at ht2 <;> omega
  clear ht1 ht2
  obtain ⟨bad, hways⟩ := hways
  have HW := Lib.hid hways
  clear hways
  go_enter Tryz.func24, Tryz.ntmps24
  go_upto_region 1 with fail
  go_cut [15] (fun s wx => s = .bool bad ∧ Hid (Below w.heap.size w wx) ∧ Hid (Bx wx w.heap.size (.bool nz) (.slice aa la ca)))
  case first =>
    rcases HW.out with ⟨rfl, k, q1⟩ | ⟨rfl, k, q1, q2⟩ | ⟨rfl, k, q1, q2⟩
    · clear k
      have hd1 : decide ((0 : Int) < t1) = true := decide_eq_true q1
      clear q1
      go_region_with (first | (go_at_call 12; refine (max_ref _).mono ?_; rintro e w5 ⟨v5, rfl, hv5, hb5⟩; have hB5 := HBX.out.below hb5 HBX.out.lt; have hw5 := HB0.out.trans (hb5.mono HB0.out.size); have hz5 := HZ.out.keep hb5 (Nat.le_refl _); obtain ⟨d0, d1, d2, d3⟩ := hB5.cell; obtain ⟨a5, k5, rfl⟩ := hv5.form) | (go_at_call 26; refine (rCmp_any _ _ z 9223372036854775807 t1 _ (by exact hz5) (by exact hv5) HLZ.out.2 HMX.out.2 HT1).mono ?_; rintro e w6 ⟨rfl, hb6⟩; have hB6 := hB5.below hb6 hB5.lt; have hw6 := hw5.trans (hb6.mono hw5.size); have hz6 := hz5.keep hb6 (Nat.le_refl _); obtain ⟨e0, e1, e2, e3⟩ := hB6.cell))
      all_goals (go_wp2_with fail; go_meet; case rel => exact ⟨rfl, Lib.hid hw6, Lib.hid hB6⟩)
    · clear k
      have hd1 : decide ((0 : Int) < t1) = false := decide_eq_false q1
      have hd2 : decide (t2 < (0 : Int)) = true := decide_eq_true q2
      clear q1 q2
      go_region_with (first | (go_at_call 26; have hgd := hw7; clear hgd; refine (rCmp_any _ _ z (-9223372036854775808) t2 _ (by exact hz7) (by exact hv7) HLZ.out.2 HMN.out.2 HT2).mono ?_; rintro e w8 ⟨rfl, hb8⟩; have hB8 := hB7.below hb8 hB7.lt; have hw8 := hw7.trans (hb8.mono hw7.size); obtain ⟨g0, g1, g2, g3⟩ := hB8.cell) | (go_at_call 12; have hgd := hw6; clear hgd; refine (min_ref _).mono ?_; rintro e w7 ⟨v7, rfl, hv7, hb7⟩; have hB7 := hB6.below hb7 hB6.lt; have hw7 := hw6.trans (hb7.mono hw6.size); have hz7 := hz6.keep hb7 (Nat.le_refl _); obtain ⟨f0, f1, f2, f3⟩ := hB7.cell; obtain ⟨a7, k7, rfl⟩ := hv7.form) | (go_at_call 12; refine (max_ref _).mono ?_; rintro e w5 ⟨v5, rfl, hv5, hb5⟩; have hB5 := HBX.out.below hb5 HBX.out.lt; have hw5 := HB0.out.trans (hb5.mono HB0.out.size); have hz5 := HZ.out.keep hb5 (Nat.le_refl _); obtain ⟨d0, d1, d2, d3⟩ := hB5.cell; obtain ⟨a5, k5, rfl⟩ := hv5.form) | (go_at_call 26; refine (rCmp_any _ _ z 9223372036854775807 t1 _ (by exact hz5) (by exact hv5) HLZ.out.2 HMX.out.2 HT1).mono ?_; rintro e w6 ⟨rfl, hb6⟩; have hB6 := hB5.below hb6 hB5.lt; have hw6 := hw5.trans (hb6.mono hw5.size); have hz6 := hz5.keep hb6 (Nat.le_refl _); obtain ⟨e0, e1, e2, e3⟩ := hB6.cell))
      all_goals (go_wp2_with fail; go_meet; case rel => exact ⟨rfl, Lib.hid hw8, Lib.hid hB8⟩)
    · clear k
      have hd1 : decide ((0 : Int) < t1) = false := decide_eq_false q1
      have hd2 : decide (t2 < (0 : Int)) = false := decide_eq_false q2
      clear q1 q2
      go_region_with (first | (go_at_call 26; have hgd := hw7; clear hgd; refine (rCmp_any _ _ z (-9223372036854775808) t2 _ (by exact hz7) (by exact hv7) HLZ.out.2 HMN.out.2 HT2).mono ?_; rintro e w8 ⟨rfl, hb8⟩; have hB8 := hB7.below hb8 hB7.lt; have hw8 := hw7.trans (hb8.mono hw7.size); obtain ⟨g0, g1, g2, g3⟩ := hB8.cell) | (go_at_call 12; have hgd := hw6; clear hgd; refine (min_ref _).mono ?_; rintro e w7 ⟨v7, rfl, hv7, hb7⟩; have hB7 := hB6.below hb7 hB6.lt; have hw7 := hw6.trans (hb7.mono hw6.size); have hz7 := hz6.keep hb7 (Nat.le_refl _); obtain ⟨f0, f1, f2, f3⟩ := hB7.cell; obtain ⟨a7, k7, rfl⟩ := hv7.form) | (go_at_call 12; refine (max_ref _).mono ?_; rintro e w5 ⟨v5, rfl, hv5, hb5⟩; have hB5 := HBX.out.below hb5 HBX.out.lt; have hw5 := HB0.out.trans (hb5.mono HB0.out.size); have hz5 := HZ.out.keep hb5 (Nat.le_refl _); obtain ⟨d0, d1, d2, d3⟩ := hB5.cell; obtain ⟨a5, k5, rfl⟩ := hv5.form) | (go_at_call 26; refine (rCmp_any _ _ z 9223372036854775807 t1 _ (by exact hz5) (by exact hv5) HLZ.out.2 HMX.out.2 HT1).mono ?_; rintro e w6 ⟨rfl, hb6⟩; have hB6 := hB5.below hb6 hB5.lt; have hw6 := hw5.trans (hb6.mono hw5.size); have hz6 := hz5.keep hb6 (Nat.le_refl _); obtain ⟨e0, e1, e2, e3⟩ := hB6.cell))
      all_goals (go_wp2_with fail; go_meet; case rel => exact ⟨rfl, Lib.hid hw8, Lib.hid hB8⟩)
  case rest =>
  obtain ⟨rfl, HWX, HBC⟩ := hcut
  clear c0 c1 c2 c3 HBX HB0 HZ HR
  have HRX := Lib.hid (HR0.out.keep HWX.out (Nat.le_refl _))
  obtain ⟨f0, f1, f2, f3⟩ := HBC.out.cell
  have hsplit : (bad = true ∧ Hid (¬ I64 z)) ∨ (bad = false ∧ Hid (I64 z)) := by
    rcases HW.out with ⟨h, k, _⟩ | ⟨h, k, _⟩ | ⟨h, k, _⟩
    · exact .inl ⟨h, Lib.hid k⟩
    · exact .inl ⟨h, Lib.hid k⟩
    · exact .inr ⟨h, Lib.hid k⟩
  clear HW
  rcases hsplit with ⟨rfl, HK⟩ | ⟨rfl, HK⟩
  · go_wp2
    refine bodyPost_ret (v := .tuple #[.int .i64 0, .bool false]) (by simp [results, Tryz.results24, go_sem]) rfl ?_
    exact ⟨.inr ⟨HK.out, rfl⟩, HWX.out⟩
  · obtain ⟨xs, hx⟩ : ∃ xs, dg z.natAbs = xs := ⟨_, rfl⟩
    have HV : Hid (True ∧ dval xs = z.natAbs) := Lib.hid ⟨trivial, by rw [← hx]; exact dval_dg _⟩
    have HD : Hid (∀ x ∈ xs, x < 10) := Lib.hid (by rw [← hx]; exact dg_lt _)
    rw [hx] at HLA HLZ HRX
    clear hx HR0
    have hla : la ≤ 2000 := by rw [← HLA.out.2]; exact HLZ.out.2
    go_wp2
    go_loopw [4, 5] (fun s i wr => ∃ (k : Nat) (N : Int), k ≤ la ∧ i = .int .i64 k ∧ s = .int .i64 N ∧ Hid (True ∧ N = -(dval (xs.take k) : Nat)) ∧ Hid (∃ n, wr = wc.drewN n)) (fun _ i _ => la - (intOf i).toNat)
    case atStart => exact ⟨0, 0, by omega, rfl, rfl, Lib.hid ⟨trivial, by simp [dval_nil]⟩, Lib.hid ⟨0, rfl⟩⟩
    case round =>
      obtain ⟨k, N, hk, rfl, rfl, HN, HWN⟩ := hrel
      obtain ⟨n, rfl⟩ := HWN.out
      by_cases hlt : k < la
      · rcases HRX.out.cases with ⟨h0, _⟩ | ⟨h0, g, off, c, hsl, hyc, hc, hg, hrow⟩
        · exfalso; have := HLA.out.2; rw [h0] at this; simp at this; omega
        · simp only [Value.slice.injEq] at hsl
          obtain ⟨rfl, hll, rfl⟩ := hsl
          have hlx : k < xs.length := by omega
          have HROW := Lib.hid hrow
          obtain ⟨d, hdd⟩ : ∃ d, xs[k] = d := ⟨_, rfl⟩
          have hd10 : d < 10 := by rw [← hdd]; exact HD.out _ (List.getElem_mem hlx)
          have c0 : wc.cell? ⟨g, off + k, none⟩ = some (.int .i64 (d : Nat)) := by rw [← hdd]; exact HROW.out k hlx
          have hs1 := dval_take_succ xs k hlx
          have hs2 := dval_take_le xs (k + 1)
          rw [hdd] at hs1
          rw [HV.out.2] at hs2
          have hK := HK.out
          unfold I64 at hK
          have hN := HN.out.2
          have e1 : IntKind.i64.wrap (10 * N) = 10 * N := IntWalk.i64_in _ (by omega)
          have e2 : IntKind.i64.wrap (10 * N - (d : Int)) = 10 * N - d := IntWalk.i64_in _ (by omega)
          have HN2 : Hid (True ∧ 10 * N - (d : Int) = -(dval (xs.take (k + 1)) : Nat)) := Lib.hid ⟨trivial, by omega⟩
          have hlt' : (k : Int) < la := by omega
          clear hs1 hs2 hK hN hdd hll hd10 hrow hyc hc
          go_wp2
          go_roundw
          case rel => exact ⟨k + 1, 10 * N - d, by omega, by go_num, rfl, HN2, Lib.hid ⟨n, rfl⟩⟩
          case measure => simp [intOf]; omega
      · have hlt' : ¬ (k : Int) < la := by omega
        have hN : N = -(z.natAbs : Nat) := by
          have h1 := HN.out.2
          rw [List.take_of_length_le (by have := HLA.out.2; omega), HV.out.2] at h1
          exact h1
        have HP : Hid (Below w.heap.size w (wc.drewN n)) := Lib.hid (HWX.out.trans ⟨rfl, rfl, rfl, Nat.le_refl _, fun _ _ => rfl⟩)
        have hnz := HNZ.out.2
        unfold isNeg at hnz
        cases nz
        · have hz : 0 ≤ z := by simpa using hnz
          have hK := HK.out
          unfold I64 at hK
          have e1 : IntKind.i64.wrap (-N) = z := by rw [show -N = z from by omega]; exact IntWalk.i64_in _ (by omega)
          clear hnz hz hK hN
          go_wp2
          refine bodyPost_ret (v := .tuple #[.int .i64 z, .bool true]) (by simp [results, Tryz.results24, go_sem]) rfl ?_
          exact ⟨.inl ⟨HK.out, rfl⟩, HP.out⟩
        · have hz : z < 0 := by simpa using hnz
          obtain rfl : N = z := by omega
          clear hnz hz hN
          go_wp2
          refine bodyPost_ret (v := .tuple #[.int .i64 N, .bool true]) (by simp [results, Tryz.results24, go_sem]) rfl ?_
          exact ⟨.inl ⟨HK.out, rfl⟩, HP.out⟩

end Go.Proofs.YtdkpcjfadabkbaaGreatDoor
