/- The law IntegerDivisors. -/
import Derived.Test.YtdkpcjfadabkbaaDoorJ9
import Derived.Test.YtdkpcjfadabkbaaDoorK7
set_option linter.unusedVariables false
set_option linter.unusedSimpArgs false
namespace Go.Proofs.YtdkpcjfadabkbaaDoor
open Go.RowKit _root_.Go.Proofs.YtdkpcjfadabkbaaDoor.Nm

theorem ten_ds9 {z : Int} (h : Ten 400 z) : (ds 1000000000 z.natAbs).length ≤ 900 := by
  obtain ⟨k, h1, h2⟩ := h
  exact ds_ten 900 k _ h2 (by omega)

theorem Gcd_to (s t u : ByteArray) (x y : Int) (hs : Hid (IsStr s x)) (ht : Hid (IsStr t y)) (hu : Hid (IsStr u (Int.gcd x y : Nat))) (w : World) (htab : Tab w) :
    Calls Tryd.prog 19 #[.string s, .string t] w fun e w' => e = .returned (.tuple #[.string u, .int .i64 0]) ∧ Below w.heap.size w w' := by
  have h := Gcd_good s t w (by rw [hs.out.1, ht.out.1]; rfl) (by rw [hs.out.2, ht.out.2]; exact gcdIs x y (ten_ds9 hs.out.ten) (ten_ds9 ht.out.ten)) htab
  rw [hs.out.2, ht.out.2, ← hu.out.text] at h
  exact h

theorem dv_zero (x d : Int) (h : d ∣ x) (hd : d ≠ 0) : Dv x d (x / d) 0 := ⟨by rw [Int.mul_ediv_cancel' h]; omega, by omega, .inl rfl⟩

theorem DivMod_dvd (s t : ByteArray) (x y : Int) (hs : Hid (IsStr s x)) (ht : Hid (IsStr t y)) (h0 : y ≠ 0) (hd : Hid (True ∧ y ∣ x)) (w : World) (htab : Tab w) :
    Calls Tryd.prog 16 #[.string s, .string t] w fun e w' => ∃ Q : ByteArray, e = .returned (.tuple #[.string Q, .string ⟨#[48]⟩, .int .i64 0]) ∧ Below w.heap.size w w' := by
  refine (DivMod_to s t x y 400 (Nat.le_refl _) hs ht hs.out.ten ht.out.ten h0 w htab).mono ?_
  rintro e w' ⟨q, r, Q, R, hdv, hQ, hR, _, _, rfl, hb⟩
  obtain ⟨_, hr⟩ := hdv.unique (dv_zero x y hd.out.2 h0)
  rw [hr] at hR
  rw [hR.unique str_zero]
  exact ⟨Q, rfl, hb⟩

theorem gcd_zero_both (x y : Int) (h : Int.gcd x y = 0) : x = 0 ∧ y = 0 := by
  have h1 := Int.gcd_dvd_left x y
  have h2 := Int.gcd_dvd_right x y
  rw [h] at h1 h2
  exact ⟨Int.zero_dvd.1 (by simpa using h1), Int.zero_dvd.1 (by simpa using h2)⟩

set_option maxRecDepth 100000 in
set_option maxHeartbeats 3200000 in
theorem divisors_out (a b c : ByteArray) (w : World) (htab : Tab w) (h : ¬ (a.size ≤ 60 ∧ b.size ≤ 60 ∧ c.size ≤ 60 ∧ canon a.data.toList = true ∧ canon b.data.toList = true ∧ canon c.data.toList = true)) :
    Calls Tryd.prog 5 #[.string a, .string b, .string c] w fun e w' => e = .returned (.bool true) ∧ Below w.heap.size w w' := by
  have HT := Lib.hid htab
  clear htab
  by_cases ha : (60 : Int) < a.size
  · clear h
    go_enter Tryd.func5, Tryd.ntmps5
    go_wp2_with fail
    refine (awake_any _ HT.out).mono ?_
    rintro e w1 ⟨rfl, hb1⟩
    have HB1 := Lib.hid hb1
    clear hb1
    go_wp2
    go_ret
    exact ⟨rfl, HB1.out⟩
  · by_cases hb : (60 : Int) < b.size
    · clear h
      go_enter Tryd.func5, Tryd.ntmps5
      go_wp2_with fail
      refine (awake_any _ HT.out).mono ?_
      rintro e w1 ⟨rfl, hb1⟩
      have HB1 := Lib.hid hb1
      clear hb1
      go_wp2
      go_ret
      exact ⟨rfl, HB1.out⟩
    · by_cases hc : (60 : Int) < c.size
      · clear h
        go_enter Tryd.func5, Tryd.ntmps5
        go_wp2_with fail
        refine (awake_any _ HT.out).mono ?_
        rintro e w1 ⟨rfl, hb1⟩
        have HB1 := Lib.hid hb1
        clear hb1
        go_wp2
        go_ret
        exact ⟨rfl, HB1.out⟩
      · cases ka : canon a.data.toList
        · have KA := Lib.hid ka
          clear h ka
          go_enter Tryd.func5, Tryd.ntmps5
          go_wp2_with fail
          refine (awake_any _ HT.out).mono ?_
          rintro e w1 ⟨rfl, hb1⟩
          have HB1 := Lib.hid hb1
          clear hb1
          go_wp2_with (go_at_call 15; refine (Valid_to a false KA _).mono ?_; rintro e w2 ⟨rfl, rfl⟩)
          go_ret
          exact ⟨rfl, HB1.out⟩
        · cases kb : canon b.data.toList
          · have KA := Lib.hid ka
            have KB := Lib.hid kb
            clear h ka kb
            go_enter Tryd.func5, Tryd.ntmps5
            go_wp2_with fail
            refine (awake_any _ HT.out).mono ?_
            rintro e w1 ⟨rfl, hb1⟩
            have HB1 := Lib.hid hb1
            clear hb1
            go_wp2_with fail
            refine (Valid_to a true KA _).mono ?_
            rintro e w2 ⟨rfl, rfl⟩
            go_wp2_with fail
            refine (Valid_to b false KB _).mono ?_
            rintro e w2 ⟨rfl, rfl⟩
            go_wp2
            go_ret
            exact ⟨rfl, HB1.out⟩
          · cases kc : canon c.data.toList
            · have KA := Lib.hid ka
              have KB := Lib.hid kb
              have KC := Lib.hid kc
              clear h ka kb kc
              go_enter Tryd.func5, Tryd.ntmps5
              go_wp2_with fail
              refine (awake_any _ HT.out).mono ?_
              rintro e w1 ⟨rfl, hb1⟩
              have HB1 := Lib.hid hb1
              clear hb1
              go_wp2_with fail
              refine (Valid_to a true KA _).mono ?_
              rintro e w2 ⟨rfl, rfl⟩
              go_wp2_with fail
              refine (Valid_to b true KB _).mono ?_
              rintro e w2 ⟨rfl, rfl⟩
              go_wp2_with fail
              refine (Valid_to c false KC _).mono ?_
              rintro e w2 ⟨rfl, rfl⟩
              go_wp2
              go_ret
              exact ⟨rfl, HB1.out⟩
            · exact absurd ⟨by omega, by omega, by omega, ka, kb, kc⟩ h


set_option maxRecDepth 100000 in
set_option maxHeartbeats 6400000 in
theorem divisors_in (a b c : ByteArray) (w : World) (htab : Tab w) (la : a.size ≤ 60) (lb : b.size ≤ 60) (lc : c.size ≤ 60) (ka : canon a.data.toList = true) (kb : canon b.data.toList = true) (kc : canon c.data.toList = true) :
    Calls Tryd.prog 5 #[.string a, .string b, .string c] w fun e w' => e = .returned (.bool true) ∧ Below w.heap.size w w' := by
  have HT := Lib.hid htab
  have KA := Lib.hid ka
  have KB := Lib.hid kb
  have KC := Lib.hid kc
  have ta := size_ten a 60 ka la
  have tb := size_ten b 60 kb lb
  have tc := size_ten c 60 kc lc
  have HA0 := IsStr.of ka
  have HB0 := IsStr.of kb
  have HC0 := IsStr.of kc
  obtain ⟨x, hx⟩ : ∃ x, zv a.data.toList = x := ⟨_, rfl⟩
  obtain ⟨y, hy⟩ : ∃ x, zv b.data.toList = x := ⟨_, rfl⟩
  obtain ⟨z, hz⟩ : ∃ x, zv c.data.toList = x := ⟨_, rfl⟩
  rw [hx] at ta HA0
  rw [hy] at tb HB0
  rw [hz] at tc HC0
  obtain ⟨p, hp⟩ := str_ex (ta.mul tc) (by omega)
  obtain ⟨q, hq⟩ := str_ex (tb.mul tc) (by omega)
  obtain ⟨d, hd⟩ := str_ex (gcd_ten (x * z) (y * z) ((ta.mul tc).mono (by omega)) ((tb.mul tc).mono (by omega))) (Nat.le_refl _)
  have HA := Lib.hid HA0
  have HB := Lib.hid HB0
  have HC := Lib.hid HC0
  have HP := Lib.hid hp
  have HQ := Lib.hid hq
  have HD := Lib.hid hd
  have HZ := Lib.hid str_zero
  clear htab ka kb kc ta tb tc HA0 HB0 HC0 hx hy hz hp hq hd
  obtain ⟨D, hD⟩ : ∃ D, Int.gcd (x * z) (y * z) = D := ⟨_, rfl⟩
  have HDD := Lib.hid (And.intro trivial hD)
  have HDS : Hid (IsStr d (D : Nat)) := Lib.hid (by rw [← hD]; exact HD.out)
  clear hD
  by_cases hD0 : D = 0
  · have hxy := gcd_zero_both _ _ (HDD.out.2.trans hD0)
    have e1 : p = ⟨#[48]⟩ := IsStr.unique (x := 0) (by have h := HP.out; rwa [hxy.1] at h) str_zero
    have e2 : q = ⟨#[48]⟩ := IsStr.unique (x := 0) (by have h := HQ.out; rwa [hxy.2] at h) str_zero
    have e3 : d = ⟨#[48]⟩ := IsStr.unique (x := 0) (by have h := HDS.out; rwa [hD0] at h) str_zero
    subst e1 e2 e3
    have HS : Hid (0 = sgn2 ((D : Nat) : Int) 0) := Lib.hid (by rw [hD0]; rfl)
    clear hxy hD0
    go_enter Tryd.func5, Tryd.ntmps5
    go_wp2_with fail
    refine (awake_any _ HT.out).mono ?_
    rintro e w0 ⟨rfl, hb0⟩
    have HW0 := Lib.hid hb0
    clear hb0
    go_wp2_with fail
    refine (Valid_to a true KA _).mono ?_
    rintro e w1 ⟨rfl, rfl⟩
    go_wp2_with fail
    refine (Valid_to b true KB _).mono ?_
    rintro e w1 ⟨rfl, rfl⟩
    go_wp2_with fail
    refine (Valid_to c true KC _).mono ?_
    rintro e w1 ⟨rfl, rfl⟩
    go_wp2_with fail
    refine (Mul_to a c _ x z (x * z) HA HC HP rfl _ (tab_keep HT.out HW0.out)).mono ?_
    rintro e w4 ⟨rfl, hb0⟩
    have HW4 := Lib.hid (HW0.out.trans (hb0.mono HW0.out.size))
    clear hb0
    go_wp2_with fail
    refine (Mul_to b c _ y z (y * z) HB HC HQ rfl _ (tab_keep HT.out HW4.out)).mono ?_
    rintro e w5 ⟨rfl, hb0⟩
    have HW5 := Lib.hid (HW4.out.trans (hb0.mono HW4.out.size))
    clear hb0
    go_wp2_with fail
    refine (Gcd_to _ _ _ (x * z) (y * z) HP HQ HD _ (tab_keep HT.out HW5.out)).mono ?_
    rintro e w6 ⟨rfl, hb0⟩
    have HW6 := Lib.hid (HW5.out.trans (hb0.mono HW5.out.size))
    clear hb0
    go_wp2_with fail
    refine (Cmp_to _ _ (D : Nat) 0 0 HDS HZ HS _).mono ?_
    rintro e w7 ⟨rfl, hb0⟩
    have HW7 := Lib.hid (HW6.out.trans (hb0.mono HW6.out.size))
    clear hb0
    go_wp2
    go_ret
    exact ⟨rfl, HW7.out⟩
  · have hDi : ((D : Nat) : Int) ≠ 0 := by omega
    have hdn := not_zero_str HDS.out hDi
    have hz0 : z ≠ 0 := by
      rintro rfl
      have h := HDD.out.2
      simp at h
      exact hD0 h.symm
    have HS : Hid (1 = sgn2 ((D : Nat) : Int) 0) := Lib.hid (by unfold sgn2; rw [if_neg (by omega), if_pos (by omega)])
    have V1 : Hid (True ∧ ((D : Nat) : Int) ∣ x * z) := Lib.hid ⟨trivial, by rw [← HDD.out.2]; exact Int.gcd_dvd_left _ _⟩
    have V2 : Hid (True ∧ ((D : Nat) : Int) ∣ y * z) := Lib.hid ⟨trivial, by rw [← HDD.out.2]; exact Int.gcd_dvd_right _ _⟩
    have V3 : Hid (True ∧ z ∣ ((D : Nat) : Int)) := Lib.hid ⟨trivial, by rw [← HDD.out.2]; exact Int.dvd_coe_gcd (Int.dvd_mul_left _ _) (Int.dvd_mul_left _ _)⟩
    have HDI := Lib.hid hDi
    have HZ0 := Lib.hid hz0
    clear hD0 hDi hz0
    go_enter Tryd.func5, Tryd.ntmps5
    go_wp2_with fail
    refine (awake_any _ HT.out).mono ?_
    rintro e w0 ⟨rfl, hb0⟩
    have HW0 := Lib.hid hb0
    clear hb0
    go_wp2_with fail
    refine (Valid_to a true KA _).mono ?_
    rintro e w1 ⟨rfl, rfl⟩
    go_wp2_with fail
    refine (Valid_to b true KB _).mono ?_
    rintro e w1 ⟨rfl, rfl⟩
    go_wp2_with fail
    refine (Valid_to c true KC _).mono ?_
    rintro e w1 ⟨rfl, rfl⟩
    go_wp2_with fail
    refine (Mul_to a c _ x z (x * z) HA HC HP rfl _ (tab_keep HT.out HW0.out)).mono ?_
    rintro e w4 ⟨rfl, hb0⟩
    have HW4 := Lib.hid (HW0.out.trans (hb0.mono HW0.out.size))
    clear hb0
    go_wp2_with fail
    refine (Mul_to b c _ y z (y * z) HB HC HQ rfl _ (tab_keep HT.out HW4.out)).mono ?_
    rintro e w5 ⟨rfl, hb0⟩
    have HW5 := Lib.hid (HW4.out.trans (hb0.mono HW4.out.size))
    clear hb0
    go_wp2_with fail
    refine (Gcd_to _ _ _ (x * z) (y * z) HP HQ HD _ (tab_keep HT.out HW5.out)).mono ?_
    rintro e w6 ⟨rfl, hb0⟩
    have HW6 := Lib.hid (HW5.out.trans (hb0.mono HW5.out.size))
    clear hb0
    go_wp2_with fail
    refine (Cmp_to _ _ (D : Nat) 0 1 HDS HZ HS _).mono ?_
    rintro e w7 ⟨rfl, hb0⟩
    have HW7 := Lib.hid (HW6.out.trans (hb0.mono HW6.out.size))
    clear hb0
    go_wp2_with fail
    refine (DivMod_dvd p d (x * z) (D : Nat) HP HDS HDI.out V1 _ (tab_keep HT.out HW7.out)).mono ?_
    rintro e w8 ⟨Q1, rfl, hb0⟩
    have HW8 := Lib.hid (HW7.out.trans (hb0.mono HW7.out.size))
    clear hb0
    go_wp2_with fail
    refine (DivMod_dvd q d (y * z) (D : Nat) HQ HDS HDI.out V2 _ (tab_keep HT.out HW8.out)).mono ?_
    rintro e w9 ⟨Q2, rfl, hb0⟩
    have HW9 := Lib.hid (HW8.out.trans (hb0.mono HW8.out.size))
    clear hb0
    go_wp2_with fail
    refine (DivMod_dvd d c (D : Nat) z HDS HC HZ0.out V3 _ (tab_keep HT.out HW9.out)).mono ?_
    rintro e w10 ⟨Q3, rfl, hb0⟩
    have HW10 := Lib.hid (HW9.out.trans (hb0.mono HW9.out.size))
    clear hb0
    go_wp2
    go_ret
    exact ⟨rfl, HW10.out⟩

theorem law_IntegerDivisors (a b c : ByteArray) (w : World) (htab : Tab w) :
    Calls Tryd.prog 5 #[.string a, .string b, .string c] w fun e w' => e = .returned (.bool true) ∧ Below w.heap.size w w' := by
  by_cases h : a.size ≤ 60 ∧ b.size ≤ 60 ∧ c.size ≤ 60 ∧ canon a.data.toList = true ∧ canon b.data.toList = true ∧ canon c.data.toList = true
  · exact divisors_in a b c w htab h.1 h.2.1 h.2.2.1 h.2.2.2.1 h.2.2.2.2.1 h.2.2.2.2.2
  · exact divisors_out a b c w htab h

end Go.Proofs.YtdkpcjfadabkbaaDoor
