/- The law IntegerRings, where it calculates. -/
import Derived.Test.YtdkpcjfadabkbaaDoorJ5
set_option linter.unusedVariables false
set_option linter.unusedSimpArgs false
namespace Go.Proofs.YtdkpcjfadabkbaaDoor
open Go.RowKit _root_.Go.Proofs.YtdkpcjfadabkbaaDoor.Nm

set_option maxRecDepth 100000 in
set_option maxHeartbeats 6400000 in
theorem rings_in (a b c : ByteArray) (w : World) (htab : Tab w) (la : a.size ≤ 90) (lb : b.size ≤ 90) (lc : c.size ≤ 90) (ka : canon a.data.toList = true) (kb : canon b.data.toList = true) (kc : canon c.data.toList = true) :
    Calls Tryd.prog 6 #[.string a, .string b, .string c] w fun e w' => e = .returned (.bool true) ∧ Below w.heap.size w w' := by
  have HT := Lib.hid htab
  have KA := Lib.hid ka
  have KB := Lib.hid kb
  have KC := Lib.hid kc
  have ta := size_ten a 90 ka la
  have tb := size_ten b 90 kb lb
  have tc := size_ten c 90 kc lc
  have HA0 := IsStr.of ka
  have HB0 := IsStr.of kb
  have HC0 := IsStr.of kc
  obtain ⟨x, hx⟩ : ∃ x, zv a.data.toList = x := ⟨_, rfl⟩
  obtain ⟨y, hy⟩ : ∃ x, zv b.data.toList = x := ⟨_, rfl⟩
  obtain ⟨z, hz⟩ : ∃ x, zv c.data.toList = x := ⟨_, rfl⟩
  rw [hx] at ta HA0
  rw [hy] at tb HB0
  rw [hz] at tc HC0
  obtain ⟨t1, h1⟩ := str_ex (ta.add tb) (by omega)
  obtain ⟨t2, h2⟩ := str_ex (tb.add tc) (by omega)
  obtain ⟨t3, h3⟩ := str_ex ((ta.add tb).add (tc.mono (Nat.le_succ _))) (by omega)
  obtain ⟨t4, h4⟩ := str_ex (ta.mul tb) (by omega)
  obtain ⟨t5, h5⟩ := str_ex ((ta.mul tb).mul tc) (by omega)
  obtain ⟨t6, h6⟩ := str_ex (tb.mul tc) (by omega)
  obtain ⟨t7, h7⟩ := str_ex (ta.mul (tb.add tc)) (by omega)
  obtain ⟨t8, h8⟩ := str_ex (ta.mul tc) (by omega)
  have HA := Lib.hid HA0
  have HB := Lib.hid HB0
  have HC := Lib.hid HC0
  have H1 := Lib.hid h1
  have H2 := Lib.hid h2
  have H3 := Lib.hid h3
  have H4 := Lib.hid h4
  have H5 := Lib.hid h5
  have H6 := Lib.hid h6
  have H7 := Lib.hid h7
  have H8 := Lib.hid h8
  clear htab ka kb kc ta tb tc HA0 HB0 HC0 hx hy hz h1 h2 h3 h4 h5 h6 h7 h8
  go_enter Tryd.func6, Tryd.ntmps6
  go_wp2_with fail
  refine (awake_any _ HT.out).mono ?_
  rintro e w0 ⟨rfl, hb1⟩
  have HW0 := Lib.hid hb1
  clear hb1
  go_wp2_with fail
  refine (Valid_to a true KA _).mono ?_
  rintro e w2 ⟨rfl, rfl⟩
  go_wp2_with fail
  refine (Valid_to b true KB _).mono ?_
  rintro e w2 ⟨rfl, rfl⟩
  go_wp2_with fail
  refine (Valid_to c true KC _).mono ?_
  rintro e w2 ⟨rfl, rfl⟩
  go_wp2_with fail
  refine (Add_to a b t1 x y (x + y) HA HB H1 (by grind) _ (tab_keep HT.out HW0.out)).mono ?_
  rintro e w1 ⟨rfl, hb⟩
  have HW1 := Lib.hid (HW0.out.trans (hb.mono HW0.out.size))
  clear hb
  go_wp2_with fail
  refine (Add_to b a t1 y x (x + y) HB HA H1 (by grind) _ (tab_keep HT.out HW1.out)).mono ?_
  rintro e w2 ⟨rfl, hb⟩
  have HW2 := Lib.hid (HW1.out.trans (hb.mono HW1.out.size))
  clear hb
  go_wp2_with fail
  refine (Add_to b c t2 y z (y + z) HB HC H2 (by grind) _ (tab_keep HT.out HW2.out)).mono ?_
  rintro e w3 ⟨rfl, hb⟩
  have HW3 := Lib.hid (HW2.out.trans (hb.mono HW2.out.size))
  clear hb
  go_wp2_with fail
  refine (Add_to t1 c t3 (x + y) z (x + y + z) H1 HC H3 (by grind) _ (tab_keep HT.out HW3.out)).mono ?_
  rintro e w4 ⟨rfl, hb⟩
  have HW4 := Lib.hid (HW3.out.trans (hb.mono HW3.out.size))
  clear hb
  go_wp2_with fail
  refine (Add_to a t2 t3 x (y + z) (x + y + z) HA H2 H3 (by grind) _ (tab_keep HT.out HW4.out)).mono ?_
  rintro e w5 ⟨rfl, hb⟩
  have HW5 := Lib.hid (HW4.out.trans (hb.mono HW4.out.size))
  clear hb
  go_wp2_with fail
  refine (Mul_to a b t4 x y (x * y) HA HB H4 (by grind) _ (tab_keep HT.out HW5.out)).mono ?_
  rintro e w6 ⟨rfl, hb⟩
  have HW6 := Lib.hid (HW5.out.trans (hb.mono HW5.out.size))
  clear hb
  go_wp2_with fail
  refine (Mul_to b a t4 y x (x * y) HB HA H4 (by grind) _ (tab_keep HT.out HW6.out)).mono ?_
  rintro e w7 ⟨rfl, hb⟩
  have HW7 := Lib.hid (HW6.out.trans (hb.mono HW6.out.size))
  clear hb
  go_wp2_with fail
  refine (Mul_to t4 c t5 (x * y) z (x * y * z) H4 HC H5 (by grind) _ (tab_keep HT.out HW7.out)).mono ?_
  rintro e w8 ⟨rfl, hb⟩
  have HW8 := Lib.hid (HW7.out.trans (hb.mono HW7.out.size))
  clear hb
  go_wp2_with fail
  refine (Mul_to b c t6 y z (y * z) HB HC H6 (by grind) _ (tab_keep HT.out HW8.out)).mono ?_
  rintro e w9 ⟨rfl, hb⟩
  have HW9 := Lib.hid (HW8.out.trans (hb.mono HW8.out.size))
  clear hb
  go_wp2_with fail
  refine (Mul_to a t6 t5 x (y * z) (x * y * z) HA H6 H5 (by grind) _ (tab_keep HT.out HW9.out)).mono ?_
  rintro e w10 ⟨rfl, hb⟩
  have HW10 := Lib.hid (HW9.out.trans (hb.mono HW9.out.size))
  clear hb
  go_wp2_with fail
  refine (Mul_to a t2 t7 x (y + z) (x * (y + z)) HA H2 H7 (by grind) _ (tab_keep HT.out HW10.out)).mono ?_
  rintro e w11 ⟨rfl, hb⟩
  have HW11 := Lib.hid (HW10.out.trans (hb.mono HW10.out.size))
  clear hb
  go_wp2_with fail
  refine (Mul_to a c t8 x z (x * z) HA HC H8 (by grind) _ (tab_keep HT.out HW11.out)).mono ?_
  rintro e w12 ⟨rfl, hb⟩
  have HW12 := Lib.hid (HW11.out.trans (hb.mono HW11.out.size))
  clear hb
  go_wp2_with fail
  refine (Add_to t4 t8 t7 (x * y) (x * z) (x * (y + z)) H4 H8 H7 (by grind) _ (tab_keep HT.out HW12.out)).mono ?_
  rintro e w13 ⟨rfl, hb⟩
  have HW13 := Lib.hid (HW12.out.trans (hb.mono HW12.out.size))
  clear hb
  go_wp2_with fail
  refine (Sub_to t1 b a (x + y) y x H1 HB HA (by grind) _ (tab_keep HT.out HW13.out)).mono ?_
  rintro e w14 ⟨rfl, hb⟩
  have HW14 := Lib.hid (HW13.out.trans (hb.mono HW13.out.size))
  clear hb
  go_wp2
  go_ret
  exact ⟨rfl, HW14.out⟩

theorem law_IntegerRings (a b c : ByteArray) (w : World) (htab : Tab w) :
    Calls Tryd.prog 6 #[.string a, .string b, .string c] w fun e w' => e = .returned (.bool true) ∧ Below w.heap.size w w' := by
  by_cases h : a.size ≤ 90 ∧ b.size ≤ 90 ∧ c.size ≤ 90 ∧ canon a.data.toList = true ∧ canon b.data.toList = true ∧ canon c.data.toList = true
  · exact rings_in a b c w htab h.1 h.2.1 h.2.2.1 h.2.2.2.1 h.2.2.2.2.1 h.2.2.2.2.2
  · exact rings_out a b c w htab h

end Go.Proofs.YtdkpcjfadabkbaaDoor
