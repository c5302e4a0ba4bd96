/- The law IntegerQuotients. -/
import Derived.Test.YtdkpcjfadabkbaaDoorJ5
import Derived.Test.YtdkpcjfadabkbaaDoorJ7
import Derived.Test.YtdkpcjfadabkbaaDoorJ8
set_option linter.unusedVariables false
set_option linter.unusedSimpArgs false
namespace Go.Proofs.YtdkpcjfadabkbaaDoor
open Go.RowKit _root_.Go.Proofs.YtdkpcjfadabkbaaDoor.Nm

theorem str_zero : IsStr ⟨#[48]⟩ 0 := ⟨by decide +kernel, by decide +kernel⟩

theorem Cmp_to (s t : ByteArray) (x y r : Int) (hs : Hid (IsStr s x)) (ht : Hid (IsStr t y)) (hr : Hid (r = sgn2 x y)) (w : World) :
    Calls Tryd.prog 18 #[.string s, .string t] w fun e w' => e = .returned (.int .i64 r) ∧ Below w.heap.size w w' :=
  Cmp_any s t r w (Lib.hid (by rw [hs.out.1, ht.out.1, hs.out.2, ht.out.2]; simp; exact hr.out))

theorem DivMod_to (s t : ByteArray) (x y : Int) (K : Nat) (hK : K ≤ 400) (hs : Hid (IsStr s x)) (ht : Hid (IsStr t y)) (hx : Ten K x) (hy : Ten K y) (h0 : y ≠ 0) (w : World) (htab : Tab w) :
    Calls Tryd.prog 16 #[.string s, .string t] w fun e w' => ∃ (q r : Int) (Q R : ByteArray), Dv x y q r ∧ IsStr Q q ∧ IsStr R r ∧ Ten K q ∧ Ten K r ∧ e = .returned (.tuple #[.string Q, .string R, .int .i64 0]) ∧ Below w.heap.size w w' := by
  have h := DivMod_good s t w (by rw [hs.out.1, ht.out.1]; rfl) (by rw [ht.out.2]; exact h0) (by rw [hs.out.2, ht.out.2]; exact divIs x y h0 (by obtain ⟨k, h1, h2⟩ := hx; exact ds_ten 900 k _ h2 (by omega))) htab
  rw [hs.out.2, ht.out.2] at h
  refine h.mono ?_
  rintro e w' ⟨q, r, hd, rfl, hb⟩
  have hq := hx.le hd.qsize
  have hr := hy.le (Nat.le_of_lt hd.size)
  exact ⟨q, r, _, _, hd, ⟨hq.canon hK, zv_itoa q⟩, ⟨hr.canon hK, zv_itoa r⟩, hq, hr, rfl, hb⟩

theorem not_zero_str {s : ByteArray} {x : Int} (h : IsStr s x) (hx : x ≠ 0) : (s.toList == [48]) = false := by
  rw [beq_eq_false_iff_ne]
  intro e
  rw [Lib.toList_data] at e
  have h2 := h.2
  rw [e] at h2
  exact hx (h2.symm.trans (by decide +kernel))

theorem sgn2_zero (r y q x : Int) (h : Dv x y q r) (hr : r ≠ 0) : sgn2 r 0 = sgn2 y 0 ∧ sgn2 r y = -sgn2 y 0 ∧ -1 ≤ sgn2 y 0 ∧ sgn2 y 0 ≤ 1 := by
  obtain ⟨h1, h2, h3⟩ := h
  by_cases hy : y < 0
  · have k : r < 0 := by omega
    have k2 : y < r := by omega
    have e1 : sgn2 r 0 = -1 := by unfold sgn2; rw [if_pos k]
    have e2 : sgn2 y 0 = -1 := by unfold sgn2; rw [if_pos hy]
    have e3 : sgn2 r y = 1 := by unfold sgn2; rw [if_neg (by omega), if_pos k2]
    rw [e1, e2, e3]; omega
  · have k : 0 < r := by omega
    have k2 : r < y := by omega
    have k3 : 0 < y := by omega
    have e1 : sgn2 r 0 = 1 := by unfold sgn2; rw [if_neg (by omega), if_pos k]
    have e2 : sgn2 y 0 = 1 := by unfold sgn2; rw [if_neg (by omega), if_pos k3]
    have e3 : sgn2 r y = -1 := by unfold sgn2; rw [if_pos k2]
    rw [e1, e2, e3]; omega

set_option maxRecDepth 100000 in
set_option maxHeartbeats 3200000 in
theorem quot_out (a b : ByteArray) (w : World) (htab : Tab w) (h : ¬ (a.size ≤ 150 ∧ b.size ≤ 150 ∧ canon a.data.toList = true ∧ canon b.data.toList = true ∧ (b.toList == [48]) = false)) :
    Calls Tryd.prog 4 #[.string a, .string b] w fun e w' => e = .returned (.bool true) ∧ Below w.heap.size w w' := by
  have HT := Lib.hid htab
  clear htab
  by_cases ha : (150 : Int) < a.size
  · clear h
    go_enter Tryd.func4, Tryd.ntmps4
    go_wp2_with fail
    refine (awake_any _ HT.out).mono ?_
    rintro e w0 ⟨rfl, hb1⟩
    have HW0 := Lib.hid hb1
    clear hb1
    go_wp2
    go_ret
    exact ⟨rfl, HW0.out⟩
  · by_cases hb : (150 : Int) < b.size
    · clear h
      go_enter Tryd.func4, Tryd.ntmps4
      go_wp2_with fail
      refine (awake_any _ HT.out).mono ?_
      rintro e w0 ⟨rfl, hb1⟩
      have HW0 := Lib.hid hb1
      clear hb1
      go_wp2
      go_ret
      exact ⟨rfl, HW0.out⟩
    · cases ka : canon a.data.toList
      · have KA := Lib.hid ka
        clear h ka
        go_enter Tryd.func4, Tryd.ntmps4
        go_wp2_with fail
        refine (awake_any _ HT.out).mono ?_
        rintro e w0 ⟨rfl, hb1⟩
        have HW0 := Lib.hid hb1
        clear hb1
        go_wp2_with fail
        refine (Valid_to a false KA _).mono ?_
        rintro e w2 ⟨rfl, rfl⟩
        go_wp2
        go_ret
        exact ⟨rfl, HW0.out⟩
      · cases kb : canon b.data.toList
        · have KA := Lib.hid ka
          have KB := Lib.hid kb
          clear h ka kb
          go_enter Tryd.func4, Tryd.ntmps4
          go_wp2_with fail
          refine (awake_any _ HT.out).mono ?_
          rintro e w0 ⟨rfl, hb1⟩
          have HW0 := Lib.hid hb1
          clear hb1
          go_wp2_with fail
          refine (Valid_to a true KA _).mono ?_
          rintro e w2 ⟨rfl, rfl⟩
          go_wp2_with fail
          refine (Valid_to b false KB _).mono ?_
          rintro e w2 ⟨rfl, rfl⟩
          go_wp2
          go_ret
          exact ⟨rfl, HW0.out⟩
        · cases kz : (b.toList == [48])
          · exact absurd ⟨by omega, by omega, ka, kb, kz⟩ h
          · have KA := Lib.hid ka
            have KB := Lib.hid kb
            clear h ka kb
            go_enter Tryd.func4, Tryd.ntmps4
            go_wp2_with fail
            refine (awake_any _ HT.out).mono ?_
            rintro e w0 ⟨rfl, hb1⟩
            have HW0 := Lib.hid hb1
            clear hb1
            go_wp2_with fail
            refine (Valid_to a true KA _).mono ?_
            rintro e w2 ⟨rfl, rfl⟩
            go_wp2_with fail
            refine (Valid_to b true KB _).mono ?_
            rintro e w2 ⟨rfl, rfl⟩
            go_wp2
            go_ret
            exact ⟨rfl, HW0.out⟩

set_option maxRecDepth 100000 in
set_option maxHeartbeats 6400000 in
theorem quot_in (a b : ByteArray) (w : World) (htab : Tab w) (la : a.size ≤ 150) (lb : b.size ≤ 150) (ka : canon a.data.toList = true) (kb : canon b.data.toList = true) (kz : (b.toList == [48]) = false) :
    Calls Tryd.prog 4 #[.string a, .string b] w fun e w' => e = .returned (.bool true) ∧ Below w.heap.size w w' := by
  have HT := Lib.hid htab
  have KA := Lib.hid ka
  have KB := Lib.hid kb
  have ta := size_ten a 150 ka la
  have tb := size_ten b 150 kb lb
  have HA0 := IsStr.of ka
  have HB0 := IsStr.of kb
  obtain ⟨x, hx⟩ : ∃ x, zv a.data.toList = x := ⟨_, rfl⟩
  obtain ⟨y, hy⟩ : ∃ x, zv b.data.toList = x := ⟨_, rfl⟩
  rw [hx] at ta HA0
  rw [hy] at tb HB0
  have hy0 : y ≠ 0 := by
    rintro rfl
    have e := congrArg (fun t : ByteArray => t.data.toList) (HB0.unique str_zero)
    rw [← Lib.toList_data] at e
    rw [beq_eq_false_iff_ne] at kz
    exact kz e
  have HA := Lib.hid HA0
  have HB := Lib.hid HB0
  have TA := Lib.hid ta
  have TB := Lib.hid tb
  have HZ := Lib.hid str_zero
  have HY0 := Lib.hid hy0
  clear htab ka kb ta tb HA0 HB0 hx hy hy0
  go_enter Tryd.func4, Tryd.ntmps4
  go_wp2_with fail
  refine (awake_any _ HT.out).mono ?_
  rintro e w0 ⟨rfl, hb1⟩
  have HW0 := Lib.hid hb1
  clear hb1
  go_wp2_with fail
  refine (Valid_to a true KA _).mono ?_
  rintro e w2 ⟨rfl, rfl⟩
  go_wp2_with fail
  refine (Valid_to b true KB _).mono ?_
  rintro e w2 ⟨rfl, rfl⟩
  go_wp2_with fail
  refine (DivMod_to a b x y 150 (by omega) HA HB TA.out TB.out HY0.out _ (tab_keep HT.out HW0.out)).mono ?_
  rintro e w1 ⟨q, r, Q, R, hd, hQ, hR, tq, tr, rfl, hb⟩
  have HW1 := Lib.hid (HW0.out.trans (hb.mono HW0.out.size))
  have HD := Lib.hid hd
  have HQ := Lib.hid hQ
  have HR := Lib.hid hR
  obtain ⟨p, hp⟩ := str_ex (tq.mul TB.out) (by omega)
  have HP := Lib.hid hp
  have HX := Lib.hid (show x = q * y + r by rw [hd.1, Int.mul_comm])
  clear hb hd hQ hR tq tr hp
  go_wp2_with fail
  refine (Mul_to Q b p q y (q * y) HQ HB HP rfl _ (tab_keep HT.out HW1.out)).mono ?_
  rintro e w2 ⟨rfl, hb⟩
  have HW2 := Lib.hid (HW1.out.trans (hb.mono HW1.out.size))
  clear hb
  go_wp2_with fail
  refine (Add_to p R a (q * y) r x HP HR HA HX.out _ (tab_keep HT.out HW2.out)).mono ?_
  rintro e w3 ⟨rfl, hb⟩
  have HW3 := Lib.hid (HW2.out.trans (hb.mono HW2.out.size))
  clear hb
  by_cases hr0 : r = 0
  · subst hr0
    have hRz := HR.out.unique str_zero
    subst hRz
    go_wp2
    go_ret
    exact ⟨rfl, HW3.out⟩
  · have hRn := not_zero_str HR.out hr0
    obtain ⟨g1, g2, g3, g4⟩ := sgn2_zero r y q x HD.out hr0
    obtain ⟨sg0, hsg⟩ : ∃ z, sgn2 y 0 = z := ⟨_, rfl⟩
    rw [hsg] at g1 g2 g3 g4
    have G1 := Lib.hid hsg.symm
    have G2 := Lib.hid g1.symm
    have G3 := Lib.hid g2.symm
    have hneg : IntKind.i64.wrap (-sg0) = -sg0 := IntWalk.i64_in _ (by omega)
    clear g1 g2 hsg hr0
    go_wp2_with fail
    refine (Cmp_to b _ y 0 sg0 HB HZ G1 _).mono ?_
    rintro e w4 ⟨rfl, hb⟩
    have HW4 := Lib.hid (HW3.out.trans (hb.mono HW3.out.size))
    clear hb
    go_wp2_with fail
    refine (Cmp_to R _ r 0 sg0 HR HZ G2 _).mono ?_
    rintro e w5 ⟨rfl, hb⟩
    have HW5 := Lib.hid (HW4.out.trans (hb.mono HW4.out.size))
    clear hb
    go_wp2_with fail
    refine (Cmp_to R b r y (-sg0) HR HB G3 _).mono ?_
    rintro e w6 ⟨rfl, hb⟩
    have HW6 := Lib.hid (HW5.out.trans (hb.mono HW5.out.size))
    clear hb
    go_wp2
    go_ret
    exact ⟨rfl, HW6.out⟩

theorem law_IntegerQuotients (a b : ByteArray) (w : World) (htab : Tab w) :
    Calls Tryd.prog 4 #[.string a, .string b] w fun e w' => e = .returned (.bool true) ∧ Below w.heap.size w w' := by
  by_cases h : a.size ≤ 150 ∧ b.size ≤ 150 ∧ canon a.data.toList = true ∧ canon b.data.toList = true ∧ (b.toList == [48]) = false
  · exact quot_in a b w htab h.1 h.2.1 h.2.2.1 h.2.2.2.1 h.2.2.2.2
  · exact quot_out a b w htab h

end Go.Proofs.YtdkpcjfadabkbaaDoor
