/- The law IntegerOrders. -/
import Derived.Test.YtdkpcjfadabkbaaGreatDoorR7
import Derived.Test.YtdkpcjfadabkbaaGreatDoorR14
import Derived.Test.YtdkpcjfadabkbaaGreatDoorR15
set_option linter.unusedVariables false
set_option linter.unusedSimpArgs false
namespace Go.Proofs.YtdkpcjfadabkbaaGreatDoor
open Go.RowKit _root_.Go.Proofs.YtdkpcjfadabkbaaGreatDoor.Nm

/-- The machine integer of a number, and whether there is one. -/
def SmallIs (z n : Int) (f : Bool) : Prop := (I64 z ∧ n = z ∧ f = true) ∨ (¬ I64 z ∧ n = 0 ∧ f = false)

theorem SmallIs.ex (z : Int) : ∃ n f, SmallIs z n f := by
  by_cases h : I64 z
  · exact ⟨z, true, .inl ⟨h, rfl, rfl⟩⟩
  · exact ⟨0, false, .inr ⟨h, rfl, rfl⟩⟩

theorem Small_is (s : ByteArray) (z n : Int) (f : Bool) (hp : Hid (SmallIs z n f)) (hs : Hid (IsStr s z)) (w : World) (he : Erg w) :
    Calls Tryz.prog 21 #[.string s] w fun e w' => e = .returned (.tuple #[.int .i64 n, .bool f]) ∧ Below w.heap.size w w' := by
  rcases hp.out with ⟨h, rfl, rfl⟩ | ⟨h, rfl, rfl⟩
  · exact Small_in s n (Lib.hid h) hs w
  · exact Small_out s z (Lib.hid h) hs w he

theorem rSmall_is (v : Value) (z n : Int) (f : Bool) (w : World) (h : Ref w v z) (lz : (dg z.natAbs).length ≤ 2000) (hp : Hid (SmallIs z n f)) :
    Calls Tryz.prog 24 #[v] w fun e w' => e = .returned (.tuple #[.int .i64 n, .bool f]) ∧ Below w.heap.size w w' := by
  refine (rSmall_any v z w h lz).mono ?_
  rintro e w' ⟨h1, h2⟩
  refine ⟨?_, h2⟩
  rcases hp.out with ⟨k, rfl, rfl⟩ | ⟨k, rfl, rfl⟩
  · rcases h1 with ⟨_, h1⟩ | ⟨h3, _⟩
    · exact h1
    · exact absurd k h3
  · rcases h1 with ⟨h3, _⟩ | ⟨_, h1⟩
    · exact absurd h3 k
    · exact h1

theorem Neg_to (s t : ByteArray) (z y : Int) (hs : Hid (IsStr s z)) (hy : Hid (True ∧ -z = y)) (ht : Hid (True ∧ t = ⟨(Lib.itoa y).toArray⟩)) (w : World) (htab : Tab w) :
    Calls Tryz.prog 23 #[.string s] w fun e w' => e = .returned (.string t) ∧ Below w.heap.size w w' := by
  have h := Neg_good s w (Lib.hid hs.out.1) htab
  rw [hs.out.2, hy.out.2] at h
  rw [ht.out.2]
  exact h

theorem rNeg_to (v : Value) (z y : Int) (w : World) (h : Ref w v z) (hy : Hid (True ∧ -z = y)) :
    Calls Tryz.prog 25 #[v] w (RefPost y w) := by
  have h1 := rNeg_any v z w h
  rwa [hy.out.2] at h1

theorem rText_to (v : Value) (y : Int) (t : ByteArray) (w : World) (h : Ref w v y) (hl : (dg y.natAbs).length ≤ 2000) (ht : Hid (True ∧ t = ⟨(Lib.itoa y).toArray⟩)) :
    Calls Tryz.prog 20 #[v] w fun e w' => e = .returned (.string t) ∧ Below w.heap.size w w' := by
  rw [ht.out.2]
  exact rText_any v y w h (by omega)

theorem rOf_to (s : ByteArray) (z : Int) (hs : Hid (IsStr s z)) (w : World) :
    Calls Tryz.prog 12 #[.string s] w (RefPost z w) := by
  have h := rOf_any s hs.out.1 w
  rwa [hs.out.2] at h

set_option maxRecDepth 100000 in
set_option maxHeartbeats 6400000 in
theorem law_IntegerOrders (a b : ByteArray) (w : World) (htab : Tab w) (herg : Erg w) :
    Calls Tryz.prog 5 #[.string a, .string b] w fun e w' => e = .returned (.bool true) ∧ Below w.heap.size w w' := by
  have HT := Lib.hid htab
  have HE := Lib.hid herg
  clear htab herg
  obtain ⟨l, hl⟩ : ∃ l, decide (420 < a.size ∨ 420 < b.size) = l := ⟨_, rfl⟩
  have HL := Lib.hid (And.intro trivial hl)
  clear hl
  cases l
  case true =>
    go_enter Tryz.func5, Tryz.ntmps5
    go_wp2_with fail
    refine (awake_any _ HT.out).mono ?_
    rintro e w0 ⟨rfl, hb⟩
    have HW0 := Lib.hid hb
    clear hb
    go_wp2_with fail
    refine (long_any a b _ HL _).mono ?_
    rintro e w9 ⟨rfl, rfl⟩
    go_wp2
    go_ret
    exact ⟨rfl, HW0.out⟩
  case false =>
  obtain ⟨c, hc⟩ : ∃ c, (if (canon a.data.toList && canon b.data.toList) = true then sgn2 (zv a.data.toList) (zv b.data.toList) else 0) = c := ⟨_, rfl⟩
  have HC := Lib.hid hc.symm
  cases ka : canon a.data.toList
  · have KA := Lib.hid ka
    obtain rfl : 0 = c := by rw [← hc, ka]; simp
    clear ka hc
    go_enter Tryz.func5, Tryz.ntmps5
    go_wp2_with fail
    refine (awake_any _ HT.out).mono ?_
    rintro e w0 ⟨rfl, hb⟩
    have HW0 := Lib.hid hb
    clear hb
    go_wp2_with fail
    refine (long_any a b _ HL _).mono ?_
    rintro e w9 ⟨rfl, rfl⟩
    go_wp2_with fail
    refine (Small_bad a KA.out _).mono ?_
    rintro e w1 ⟨rfl, hb⟩
    have HW1 := Lib.hid (HW0.out.trans (hb.mono HW0.out.size))
    clear hb
    go_wp2_with fail
    refine (Cmp_any a b _ _ HC).mono ?_
    rintro e w2 ⟨rfl, hb⟩
    have HW2 := Lib.hid (HW1.out.trans (hb.mono HW1.out.size))
    clear hb
    go_wp2_with fail
    refine (Neg_none a _ KA).mono ?_
    rintro e w99 ⟨rfl, rfl⟩
    go_wp2_with fail
    refine (rValid_to a _ KA _).mono ?_
    rintro e w99 ⟨rfl, rfl⟩
    go_wp2
    go_ret
    exact ⟨rfl, HW2.out⟩
  · obtain ⟨z, hz⟩ : ∃ z, zv a.data.toList = z := ⟨_, rfl⟩
    obtain ⟨y, hy⟩ : ∃ y, -z = y := ⟨_, rfl⟩
    obtain ⟨t, ht⟩ : ∃ t : ByteArray, t = ⟨(Lib.itoa y).toArray⟩ := ⟨_, rfl⟩
    obtain ⟨n, f, hp⟩ := SmallIs.ex z
    have la := dg_1000 a ka
    have LZ : Hid (True ∧ (dg z.natAbs).length ≤ 2000) := Lib.hid ⟨trivial, by rw [← hz]; omega⟩
    have LY : Hid (True ∧ (dg y.natAbs).length ≤ 2000) := Lib.hid ⟨trivial, by rw [show y.natAbs = z.natAbs from by omega]; exact LZ.out.2⟩
    have HS : Hid (IsStr a z) := Lib.hid ⟨ka, hz⟩
    have HY := Lib.hid (And.intro trivial hy)
    have HTX := Lib.hid (And.intro trivial ht)
    have HP := Lib.hid hp
    have KA := Lib.hid ka
    have hnn : (n != n) = false := by simp
    have hff : (f != f) = false := by simp
    cases kb : canon b.data.toList
    · have KB := Lib.hid kb
      obtain rfl : 0 = c := by rw [← hc, kb]; simp
      clear ka kb hc hz hy ht hp la
      go_enter Tryz.func5, Tryz.ntmps5
      go_wp2_with fail
      refine (awake_any _ HT.out).mono ?_
      rintro e w0 ⟨rfl, hb⟩
      have HW0 := Lib.hid hb
      clear hb
      go_wp2_with fail
      refine (long_any a b _ HL _).mono ?_
      rintro e w9 ⟨rfl, rfl⟩
      go_wp2_with fail
      refine (Small_is a z n f HP HS _ (HE.out.keep HW0.out)).mono ?_
      rintro e w1 ⟨rfl, hb⟩
      have HW1 := Lib.hid (HW0.out.trans (hb.mono HW0.out.size))
      clear hb
      go_wp2_with fail
      refine (Cmp_any a b _ _ HC).mono ?_
      rintro e w2 ⟨rfl, hb⟩
      have HW2 := Lib.hid (HW1.out.trans (hb.mono HW1.out.size))
      clear hb
      go_wp2_with fail
      refine (Neg_to a t z y HS HY HTX _ (tab_keep HT.out HW2.out)).mono ?_
      rintro e w3 ⟨rfl, hb⟩
      have HW3 := Lib.hid (HW2.out.trans (hb.mono HW2.out.size))
      clear hb
      go_wp2_with fail
      refine (rValid_to a _ KA _).mono ?_
      rintro e w99 ⟨rfl, rfl⟩
      go_wp2_with fail
      refine (rOf_to a z HS _).mono ?_
      rintro e w4 ⟨v4, rfl, hv, hb⟩
      have HV4 := Lib.hid hv
      have HB4 := Lib.hid hb
      have HW4 := Lib.hid (HW3.out.trans (hb.mono HW3.out.size))
      clear hb hv
      go_wp2_with fail
      refine (rSmall_is _ z n f _ HV4.out LZ.out.2 HP).mono ?_
      rintro e w5 ⟨rfl, hb⟩
      have HW5 := Lib.hid (HW4.out.trans (hb.mono HW4.out.size))
      clear hb
      go_wp2_with fail
      refine (rOf_to a z HS _).mono ?_
      rintro e w6 ⟨v6, rfl, hv, hb⟩
      have HV6 := Lib.hid hv
      have HB6 := Lib.hid hb
      have HW6 := Lib.hid (HW5.out.trans (hb.mono HW5.out.size))
      clear hb hv
      go_wp2_with fail
      refine (rNeg_to _ z y _ HV6.out HY).mono ?_
      rintro e w7 ⟨v7, rfl, hv, hb⟩
      have HV7 := Lib.hid hv
      have HB7 := Lib.hid hb
      have HW7 := Lib.hid (HW6.out.trans (hb.mono HW6.out.size))
      clear hb hv
      go_wp2_with fail
      refine (rText_to _ y t _ HV7.out LY.out.2 HTX).mono ?_
      rintro e w8 ⟨rfl, hb⟩
      have HW8 := Lib.hid (HW7.out.trans (hb.mono HW7.out.size))
      clear hb
      go_wp2_with fail
      refine (rValid_to b _ KB _).mono ?_
      rintro e w99 ⟨rfl, rfl⟩
      go_wp2
      go_ret
      exact ⟨rfl, HW8.out⟩
    · have KB := Lib.hid kb
      obtain ⟨u, hu⟩ : ∃ u, zv b.data.toList = u := ⟨_, rfl⟩
      have lb := dg_1000 b kb
      have LU : Hid (True ∧ (dg u.natAbs).length ≤ 2000) := Lib.hid ⟨trivial, by rw [← hu]; omega⟩
      have HU : Hid (IsStr b u) := Lib.hid ⟨kb, hu⟩
      have HSG : Hid (True ∧ c = sgn2 z u) := Lib.hid ⟨trivial, by rw [← hc, ka, kb, hz, hu]; simp⟩
      have hcc : (c == c) = true := by simp
      clear ka kb hc hz hy ht hp la hu lb
      go_enter Tryz.func5, Tryz.ntmps5
      go_wp2_with fail
      refine (awake_any _ HT.out).mono ?_
      rintro e w0 ⟨rfl, hb⟩
      have HW0 := Lib.hid hb
      clear hb
      go_wp2_with fail
      refine (long_any a b _ HL _).mono ?_
      rintro e w9 ⟨rfl, rfl⟩
      go_wp2_with fail
      refine (Small_is a z n f HP HS _ (HE.out.keep HW0.out)).mono ?_
      rintro e w1 ⟨rfl, hb⟩
      have HW1 := Lib.hid (HW0.out.trans (hb.mono HW0.out.size))
      clear hb
      go_wp2_with fail
      refine (Cmp_any a b _ _ HC).mono ?_
      rintro e w2 ⟨rfl, hb⟩
      have HW2 := Lib.hid (HW1.out.trans (hb.mono HW1.out.size))
      clear hb
      go_wp2_with fail
      refine (Neg_to a t z y HS HY HTX _ (tab_keep HT.out HW2.out)).mono ?_
      rintro e w3 ⟨rfl, hb⟩
      have HW3 := Lib.hid (HW2.out.trans (hb.mono HW2.out.size))
      clear hb
      go_wp2_with fail
      refine (rValid_to a _ KA _).mono ?_
      rintro e w99 ⟨rfl, rfl⟩
      go_wp2_with fail
      refine (rOf_to a z HS _).mono ?_
      rintro e w4 ⟨v4, rfl, hv, hb⟩
      have HV4 := Lib.hid hv
      have HB4 := Lib.hid hb
      have HW4 := Lib.hid (HW3.out.trans (hb.mono HW3.out.size))
      clear hb hv
      go_wp2_with fail
      refine (rSmall_is _ z n f _ HV4.out LZ.out.2 HP).mono ?_
      rintro e w5 ⟨rfl, hb⟩
      have HW5 := Lib.hid (HW4.out.trans (hb.mono HW4.out.size))
      clear hb
      go_wp2_with fail
      refine (rOf_to a z HS _).mono ?_
      rintro e w6 ⟨v6, rfl, hv, hb⟩
      have HV6 := Lib.hid hv
      have HB6 := Lib.hid hb
      have HW6 := Lib.hid (HW5.out.trans (hb.mono HW5.out.size))
      clear hb hv
      go_wp2_with fail
      refine (rNeg_to _ z y _ HV6.out HY).mono ?_
      rintro e w7 ⟨v7, rfl, hv, hb⟩
      have HV7 := Lib.hid hv
      have HB7 := Lib.hid hb
      have HW7 := Lib.hid (HW6.out.trans (hb.mono HW6.out.size))
      clear hb hv
      go_wp2_with fail
      refine (rText_to _ y t _ HV7.out LY.out.2 HTX).mono ?_
      rintro e w8 ⟨rfl, hb⟩
      have HW8 := Lib.hid (HW7.out.trans (hb.mono HW7.out.size))
      clear hb
      go_wp2_with fail
      refine (rValid_to b _ KB _).mono ?_
      rintro e w99 ⟨rfl, rfl⟩
      go_wp2_with fail
      refine (rOf_to a z HS _).mono ?_
      rintro e w10 ⟨v10, rfl, hv, hb⟩
      have HV10 := Lib.hid hv
      have HB10 := Lib.hid hb
      have HW10 := Lib.hid (HW8.out.trans (hb.mono HW8.out.size))
      clear hb hv
      go_wp2_with fail
      refine (rOf_to b u HU _).mono ?_
      rintro e w11 ⟨v11, rfl, hv, hb⟩
      have HV11 := Lib.hid hv
      have HB11 := Lib.hid hb
      have HW11 := Lib.hid (HW10.out.trans (hb.mono HW10.out.size))
      clear hb hv
      go_wp2_with fail
      refine (rCmp_any _ _ z u c _ (HV10.out.keep HB11.out (Nat.le_refl _)) HV11.out LZ.out.2 LU.out.2 HSG).mono ?_
      rintro e w12 ⟨rfl, hb⟩
      have HW12 := Lib.hid (HW11.out.trans (hb.mono HW11.out.size))
      clear hb
      go_wp2
      go_ret
      exact ⟨rfl, HW12.out⟩

end Go.Proofs.YtdkpcjfadabkbaaGreatDoor
