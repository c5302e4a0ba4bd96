/- The law IntegerAdds. -/
import Derived.Test.YtniokkoicoacoaaGreatDoorR7
import Derived.Test.YtniokkoicoacoaaGreatDoorR12
set_option linter.unusedVariables false
set_option linter.unusedSimpArgs false
namespace Go.Proofs.YtniokkoicoacoaaGreatDoor
open Go.RowKit _root_.Go.Proofs.YtniokkoicoacoaaGreatDoor.Nm

/-- The text and the error of a result. -/
def OpS (z : Int) (s : ByteArray) (e : Int) : Prop := ((dg z.natAbs).length ≤ 400 ∧ s = ⟨(Lib.itoa z).toArray⟩ ∧ e = 0) ∨ (400 < (dg z.natAbs).length ∧ s = ⟨#[]⟩ ∧ e = 5)

theorem op_ex (a b : ByteArray) (r : Int) (ka : canon a.data.toList = true) (kb : canon b.data.toList = true) : ∃ s e, opVal a b r = .tuple #[.string s, .int .i64 e] ∧ OpS r s e := by
  by_cases h : (dg r.natAbs).length ≤ 400
  · exact ⟨_, _, opVal_good a b r ka kb h, .inl ⟨h, rfl, rfl⟩⟩
  · exact ⟨_, _, opVal_long a b r ka kb (by omega), .inr ⟨by omega, rfl, rfl⟩⟩

theorem agree_any (s : ByteArray) (e : Int) (v : Value) (z : Int) (w : World) (h : Ref w v z) (ho : Hid (OpS z s e)) :
    Calls Tryz.prog 13 #[.string s, .int .i64 e, v] w fun e w' => e = .returned (.bool true) ∧ Below w.heap.size w w' := by
  rcases ho.out with ⟨h1, h2, rfl⟩ | ⟨h1, rfl, rfl⟩
  · exact agree_short s v z w h (Lib.hid h2) (Lib.hid ⟨trivial, h1⟩)
  · exact agree_long v z w h (Lib.hid ⟨trivial, h1⟩)

set_option maxRecDepth 100000 in
set_option maxHeartbeats 6400000 in
theorem law_IntegerAdds (a b : ByteArray) (w : World) (htab : Tab w) :
    Calls Tryz.prog 3 #[.string a, .string b] w fun e w' => e = .returned (.bool true) ∧ Below w.heap.size w w' := by
  have HT := Lib.hid htab
  clear htab
  obtain ⟨l, hl⟩ : ∃ l, decide (420 < a.size ∨ 420 < b.size) = l := ⟨_, rfl⟩
  have HL := Lib.hid (And.intro trivial hl)
  clear hl
  cases l
  case true =>
    go_enter Tryz.func3, Tryz.ntmps3
    go_wp2_with fail
    refine (awake_any _ HT.out).mono ?_
    rintro e w0 ⟨rfl, hb⟩
    have HW0 := Lib.hid hb
    clear hb
    go_wp2_with fail
    refine (long_any a b _ HL _).mono ?_
    rintro e w1 ⟨rfl, rfl⟩
    go_wp2
    go_ret
    exact ⟨rfl, HW0.out⟩
  case false =>
  cases hab : (canon a.data.toList && canon b.data.toList)
  · have hnn : ((⟨#[]⟩ : ByteArray) ++ (⟨#[]⟩ : ByteArray)).toList = [] := by decide +kernel
    have HO := Lib.hid (And.intro trivial (opVal_bad a b (zv a.data.toList + zv b.data.toList) hab))
    have HP := Lib.hid (And.intro trivial (opVal_bad a b (zv a.data.toList - zv b.data.toList) hab))
    cases ka : canon a.data.toList
    · obtain ⟨kbb, kb⟩ : ∃ k, canon b.data.toList = k := ⟨_, rfl⟩
      have KA := Lib.hid ka
      have KB := Lib.hid kb
      clear hab ka kb
      cases kbb
      · go_enter Tryz.func3, Tryz.ntmps3
        go_wp2_with fail
        refine (awake_any _ HT.out).mono ?_
        rintro e w0 ⟨rfl, hb⟩
        have HW0 := Lib.hid hb
        clear hb
        go_wp2_with fail
        refine (long_any a b _ HL _).mono ?_
        rintro e w9 ⟨rfl, rfl⟩
        go_wp2_with fail
        refine (Add_any a b _ (tab_keep HT.out HW0.out)).mono ?_
        rintro e w1 ⟨rfl, hb⟩
        have HW1 := Lib.hid (HW0.out.trans (hb.mono HW0.out.size))
        clear hb
        rw [HO.out.2]
        go_wp2_with fail
        refine (Sub_any a b _ (tab_keep HT.out HW1.out)).mono ?_
        rintro e w2 ⟨rfl, hb⟩
        have HW2 := Lib.hid (HW1.out.trans (hb.mono HW1.out.size))
        clear hb
        rw [HP.out.2]
        go_wp2_with fail
        refine (Valid_to a _ KA _).mono ?_
        rintro e w9 ⟨rfl, rfl⟩
        go_wp2_with fail
        refine (rValid_to a _ KA _).mono ?_
        rintro e w9 ⟨rfl, rfl⟩
        go_wp2_with fail
        refine (Valid_to b _ KB _).mono ?_
        rintro e w9 ⟨rfl, rfl⟩
        go_wp2_with fail
        refine (rValid_to b _ KB _).mono ?_
        rintro e w9 ⟨rfl, rfl⟩
        go_wp2_with fail
        refine (rValid_to a _ KA _).mono ?_
        rintro e w9 ⟨rfl, rfl⟩
        go_wp2
        go_ret
        exact ⟨rfl, HW2.out⟩
      · go_enter Tryz.func3, Tryz.ntmps3
        go_wp2_with fail
        refine (awake_any _ HT.out).mono ?_
        rintro e w0 ⟨rfl, hb⟩
        have HW0 := Lib.hid hb
        clear hb
        go_wp2_with fail
        refine (long_any a b _ HL _).mono ?_
        rintro e w9 ⟨rfl, rfl⟩
        go_wp2_with fail
        refine (Add_any a b _ (tab_keep HT.out HW0.out)).mono ?_
        rintro e w1 ⟨rfl, hb⟩
        have HW1 := Lib.hid (HW0.out.trans (hb.mono HW0.out.size))
        clear hb
        rw [HO.out.2]
        go_wp2_with fail
        refine (Sub_any a b _ (tab_keep HT.out HW1.out)).mono ?_
        rintro e w2 ⟨rfl, hb⟩
        have HW2 := Lib.hid (HW1.out.trans (hb.mono HW1.out.size))
        clear hb
        rw [HP.out.2]
        go_wp2_with fail
        refine (Valid_to a _ KA _).mono ?_
        rintro e w9 ⟨rfl, rfl⟩
        go_wp2_with fail
        refine (rValid_to a _ KA _).mono ?_
        rintro e w9 ⟨rfl, rfl⟩
        go_wp2_with fail
        refine (Valid_to b _ KB _).mono ?_
        rintro e w9 ⟨rfl, rfl⟩
        go_wp2_with fail
        refine (rValid_to b _ KB _).mono ?_
        rintro e w9 ⟨rfl, rfl⟩
        go_wp2_with fail
        refine (rValid_to a _ KA _).mono ?_
        rintro e w9 ⟨rfl, rfl⟩
        go_wp2
        go_ret
        exact ⟨rfl, HW2.out⟩
    · have kb : canon b.data.toList = false := by rw [ka] at hab; exact hab
      have KA := Lib.hid ka
      have KB := Lib.hid kb
      clear hab ka kb
      go_enter Tryz.func3, Tryz.ntmps3
      go_wp2_with fail
      refine (awake_any _ HT.out).mono ?_
      rintro e w0 ⟨rfl, hb⟩
      have HW0 := Lib.hid hb
      clear hb
      go_wp2_with fail
      refine (long_any a b _ HL _).mono ?_
      rintro e w9 ⟨rfl, rfl⟩
      go_wp2_with fail
      refine (Add_any a b _ (tab_keep HT.out HW0.out)).mono ?_
      rintro e w1 ⟨rfl, hb⟩
      have HW1 := Lib.hid (HW0.out.trans (hb.mono HW0.out.size))
      clear hb
      rw [HO.out.2]
      go_wp2_with fail
      refine (Sub_any a b _ (tab_keep HT.out HW1.out)).mono ?_
      rintro e w2 ⟨rfl, hb⟩
      have HW2 := Lib.hid (HW1.out.trans (hb.mono HW1.out.size))
      clear hb
      rw [HP.out.2]
      go_wp2_with fail
      refine (Valid_to a _ KA _).mono ?_
      rintro e w9 ⟨rfl, rfl⟩
      go_wp2_with fail
      refine (rValid_to a _ KA _).mono ?_
      rintro e w9 ⟨rfl, rfl⟩
      go_wp2_with fail
      refine (Valid_to b _ KB _).mono ?_
      rintro e w9 ⟨rfl, rfl⟩
      go_wp2_with fail
      refine (rValid_to b _ KB _).mono ?_
      rintro e w9 ⟨rfl, rfl⟩
      go_wp2_with fail
      refine (rValid_to a _ KA _).mono ?_
      rintro e w9 ⟨rfl, rfl⟩
      go_wp2_with fail
      refine (rValid_to b _ KB _).mono ?_
      rintro e w9 ⟨rfl, rfl⟩
      go_wp2
      go_ret
      exact ⟨rfl, HW2.out⟩
  · obtain ⟨ka, kb⟩ := Bool.and_eq_true_iff.1 hab
    have la := dg_1000 a ka
    have lb := dg_1000 b kb
    obtain ⟨s1, e1, ho1, ho2⟩ := op_ex a b (zv a.data.toList + zv b.data.toList) ka kb
    obtain ⟨s2, e2, hp1, hp2⟩ := op_ex a b (zv a.data.toList - zv b.data.toList) ka kb
    have HO := Lib.hid (And.intro trivial ho1)
    have HP := Lib.hid (And.intro trivial hp1)
    have HO2 := Lib.hid ho2
    have HP2 := Lib.hid hp2
    have KA := Lib.hid ka
    have KB := Lib.hid kb
    clear hab ka kb ho1 ho2 hp1 hp2
    go_enter Tryz.func3, Tryz.ntmps3
    go_wp2_with fail
    refine (awake_any _ HT.out).mono ?_
    rintro e w0 ⟨rfl, hb⟩
    have HW0 := Lib.hid hb
    clear hb
    go_wp2_with fail
    refine (long_any a b _ HL _).mono ?_
    rintro e w9 ⟨rfl, rfl⟩
    go_wp2_with fail
    refine (Add_any a b _ (tab_keep HT.out HW0.out)).mono ?_
    rintro e w1 ⟨rfl, hb⟩
    have HW1 := Lib.hid (HW0.out.trans (hb.mono HW0.out.size))
    clear hb
    rw [HO.out.2]
    go_wp2_with fail
    refine (Sub_any a b _ (tab_keep HT.out HW1.out)).mono ?_
    rintro e w2 ⟨rfl, hb⟩
    have HW2 := Lib.hid (HW1.out.trans (hb.mono HW1.out.size))
    clear hb
    rw [HP.out.2]
    go_wp2_with fail
    refine (Valid_to a _ KA _).mono ?_
    rintro e w9 ⟨rfl, rfl⟩
    go_wp2_with fail
    refine (rValid_to a _ KA _).mono ?_
    rintro e w9 ⟨rfl, rfl⟩
    go_wp2_with fail
    refine (Valid_to b _ KB _).mono ?_
    rintro e w9 ⟨rfl, rfl⟩
    go_wp2_with fail
    refine (rValid_to b _ KB _).mono ?_
    rintro e w9 ⟨rfl, rfl⟩
    go_wp2_with fail
    refine (rValid_to a _ KA _).mono ?_
    rintro e w9 ⟨rfl, rfl⟩
    go_wp2_with fail
    refine (rValid_to b _ KB _).mono ?_
    rintro e w9 ⟨rfl, rfl⟩
    go_wp2_with fail
    refine (rOf_any a KA.out _).mono ?_
    rintro e w3 ⟨v3, rfl, hv3, hb⟩
    have HV3 := Lib.hid hv3
    have HW3 := Lib.hid (HW2.out.trans (hb.mono HW2.out.size))
    obtain ⟨a3, c3, rfl⟩ := hv3.form
    clear hb hv3
    go_wp2_with fail
    refine (rOf_any b KB.out _).mono ?_
    rintro e w4 ⟨v4, rfl, hv4, hb⟩
    have HV4 := Lib.hid hv4
    have HV3' := Lib.hid (HV3.out.keep hb (Nat.le_refl _))
    have HW4 := Lib.hid (HW3.out.trans (hb.mono HW3.out.size))
    obtain ⟨a4, c4, rfl⟩ := hv4.form
    clear hb hv4
    obtain ⟨x, hx⟩ : ∃ x, zv a.data.toList = x := ⟨_, rfl⟩
    obtain ⟨y, hy⟩ : ∃ x, zv b.data.toList = x := ⟨_, rfl⟩
    rw [hx] at HV3' HO2 HP2 la ⊢
    rw [hy] at HV4 HO2 HP2 lb ⊢
    obtain ⟨n1, hn1⟩ : ∃ b, isNeg x = b := ⟨_, rfl⟩
    obtain ⟨n2, hn2⟩ : ∃ b, isNeg y = b := ⟨_, rfl⟩
    rw [hn1] at HV3' ⊢
    rw [hn2] at HV4 ⊢
    obtain ⟨l1, hl1⟩ : ∃ l, (dg x.natAbs).length = l := ⟨_, rfl⟩
    obtain ⟨l2, hl2⟩ : ∃ l, (dg y.natAbs).length = l := ⟨_, rfl⟩
    rw [hl1] at HV3' ⊢
    rw [hl2] at HV4 ⊢
    have HLX := Lib.hid (And.intro trivial (show (dg x.natAbs).length ≤ 2000 by omega))
    have HLY := Lib.hid (And.intro trivial (show (dg y.natAbs).length ≤ 2000 by omega))
    clear HV3 hx hy hn1 hn2 hl1 hl2 la lb
    have HS := Lib.hid (St2.start w4 (.bool n1) (.slice a3 l1 c3) (.bool n2) (.slice a4 l2 c4) 30 30)
    have HX := Lib.hid (HV3'.out.keep HS.out.1 (Nat.le_refl _))
    have HY := Lib.hid (HV4.out.keep HS.out.1 (Nat.le_refl _))
    have HW5 := Lib.hid (HW4.out.trans (HS.out.1.mono HW4.out.size))
    go_wp2_with fail
    refine (rAdd_any _ _ x y _ HX.out HY.out HLX.out.2 HLY.out.2).mono ?_
    rintro e w6 ⟨v6, rfl, hv6, hb⟩
    have HV6 := Lib.hid hv6
    have HS6 := Lib.hid (HS.out.next hb (Nat.le_refl _))
    have HX6 := Lib.hid (HX.out.keep hb (Nat.le_refl _))
    have HY6 := Lib.hid (HY.out.keep hb (Nat.le_refl _))
    have HW6 := Lib.hid (HW5.out.trans (hb.mono HW5.out.size))
    obtain ⟨a6, c6, rfl⟩ := hv6.form
    clear hb hv6 HS HX HY
    go_wp2_with fail
    refine (agree_any _ _ _ _ _ HV6.out HO2).mono ?_
    rintro e w7 ⟨rfl, hb⟩
    have HS7 := Lib.hid (HS6.out.next hb (Nat.le_refl _))
    have HX7 := Lib.hid (HX6.out.keep hb (Nat.le_refl _))
    have HY7 := Lib.hid (HY6.out.keep hb (Nat.le_refl _))
    have HW7 := Lib.hid (HW6.out.trans (hb.mono HW6.out.size))
    clear hb HS6 HX6 HY6
    obtain ⟨d0, d1, d2, d3, _, _, _, _⟩ := HS7.out.cells
    go_wp2_with fail
    refine (rSub_any _ _ x y (x - y) _ HX7.out HY7.out HLX.out.2 HLY.out.2 rfl).mono ?_
    rintro e w8 ⟨v8, rfl, hv8, hb⟩
    have HV8 := Lib.hid hv8
    have HW8 := Lib.hid (HW7.out.trans (hb.mono HW7.out.size))
    obtain ⟨a8, c8, rfl⟩ := hv8.form
    clear hb hv8
    go_wp2_with fail
    refine (agree_any _ _ _ _ _ HV8.out HP2).mono ?_
    rintro e w9 ⟨rfl, hb⟩
    have HW9 := Lib.hid (HW8.out.trans (hb.mono HW8.out.size))
    clear hb
    go_wp2
    go_ret
    exact ⟨rfl, HW9.out⟩

end Go.Proofs.YtniokkoicoacoaaGreatDoor
