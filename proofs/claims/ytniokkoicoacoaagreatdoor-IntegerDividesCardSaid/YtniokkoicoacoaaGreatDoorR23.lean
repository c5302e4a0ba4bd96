/- The law IntegerDivides. -/
import Derived.Test.YtniokkoicoacoaaGreatDoorK9
import Derived.Test.YtniokkoicoacoaaGreatDoorR7
import Derived.Test.YtniokkoicoacoaaGreatDoorR13
import Derived.Test.YtniokkoicoacoaaGreatDoorR22
import Derived.Test.YtniokkoicoacoaaGreatDoorRT
set_option linter.unusedVariables false
set_option linter.unusedSimpArgs false
namespace Go.Proofs.YtniokkoicoacoaaGreatDoor
open Go.RowKit _root_.Go.Proofs.YtniokkoicoacoaaGreatDoor.Nm

theorem zero_str {s : ByteArray} {x : Int} (h : IsStr s x) (hx : x = 0) : (s.toList == [48]) = true := by
  subst hx
  rw [h.unique str_zero]
  decide +kernel

theorem opS_gcd {s : ByteArray} {z : Int} (h : IsStr s z) : OpS z s 0 := by
  refine .inl ⟨?_, h.text, rfl⟩
  obtain ⟨k, h1, h2⟩ := h.ten
  exact Nat.le_trans (dg_len _ k h2) h1

theorem ten_1000 {z : Int} {K : Nat} (hK : K ≤ 1000) (h : Ten K z) : (dg z.natAbs).length ≤ 1000 := by
  obtain ⟨k, h1, h2⟩ := h
  exact Nat.le_trans (dg_len _ k h2) (by omega)

theorem rText_is (v : Value) (y : Int) (t : ByteArray) (w : World) (h : Ref w v y) (hl : (dg y.natAbs).length ≤ 2000) (ht : Hid (IsStr t y)) :
    Calls Tryz.prog 20 #[v] w fun e w' => e = .returned (.string t) ∧ Below w.heap.size w w' := rText_to v y t w h hl (Lib.hid ⟨trivial, ht.out.text⟩)

set_option maxRecDepth 100000 in
set_option maxHeartbeats 6400000 in
theorem law_IntegerDivides (a b : ByteArray) (w : World) (htab : Tab w) :
    Calls Tryz.prog 4 #[.string a, .string b] w fun e w' => e = .returned (.bool true) ∧ Below w.heap.size w w' := by
  have HT := Lib.hid htab
  clear htab
  obtain ⟨l, hl⟩ : ∃ l, decide (420 < a.size ∨ 420 < b.size) = l := ⟨_, rfl⟩
  have HL := Lib.hid (And.intro trivial hl)
  clear hl
  cases l
  case true =>
    go_enter Tryz.func4, Tryz.ntmps4
    go_wp2_with fail
    refine (awake_any _ HT.out).mono ?_
    rintro e w0 ⟨rfl, hb⟩
    have HW0 := Lib.hid hb
    clear hb
    go_wp2_with fail
    refine (long_any a b _ HL _).mono ?_
    rintro e w9 ⟨rfl, rfl⟩
    go_wp2
    go_ret
    exact ⟨rfl, HW0.out⟩
  case false =>
  cases hab : (canon a.data.toList && canon b.data.toList)
  · have HAB := Lib.hid hab
    have hnn : (((⟨#[]⟩ : ByteArray) ++ (⟨#[]⟩ : ByteArray)) ++ (⟨#[]⟩ : ByteArray)).toList = [] := by decide +kernel
    cases ka : canon a.data.toList
    · have KA := Lib.hid ka
      clear hab ka
      go_enter Tryz.func4, Tryz.ntmps4
      go_wp2_with fail
      refine (awake_any _ HT.out).mono ?_
      rintro e w0 ⟨rfl, hb⟩
      have HW0 := Lib.hid hb
      clear hb
      go_wp2_with fail
      refine (long_any a b _ HL _).mono ?_
      rintro e w9 ⟨rfl, rfl⟩
      go_wp2_with fail
      refine (DivMod_bad a b _ HAB.out).mono ?_
      rintro e w1 ⟨rfl, hb⟩
      have HW1 := Lib.hid (HW0.out.trans (hb.mono HW0.out.size))
      clear hb
      go_wp2_with fail
      refine (Gcd_bad a b _ HAB.out).mono ?_
      rintro e w2 ⟨rfl, hb⟩
      have HW2 := Lib.hid (HW1.out.trans (hb.mono HW1.out.size))
      clear hb
      go_wp2_with fail
      refine (rValid_to a _ KA _).mono ?_
      rintro e w9 ⟨rfl, rfl⟩
      go_wp2
      go_ret
      exact ⟨rfl, HW2.out⟩
    · have kb : canon b.data.toList = false := by rw [ka] at hab; exact hab
      have KA := Lib.hid ka
      have KB := Lib.hid kb
      clear hab ka kb
      go_enter Tryz.func4, Tryz.ntmps4
      go_wp2_with fail
      refine (awake_any _ HT.out).mono ?_
      rintro e w0 ⟨rfl, hb⟩
      have HW0 := Lib.hid hb
      clear hb
      go_wp2_with fail
      refine (long_any a b _ HL _).mono ?_
      rintro e w9 ⟨rfl, rfl⟩
      go_wp2_with fail
      refine (DivMod_bad a b _ HAB.out).mono ?_
      rintro e w1 ⟨rfl, hb⟩
      have HW1 := Lib.hid (HW0.out.trans (hb.mono HW0.out.size))
      clear hb
      go_wp2_with fail
      refine (Gcd_bad a b _ HAB.out).mono ?_
      rintro e w2 ⟨rfl, hb⟩
      have HW2 := Lib.hid (HW1.out.trans (hb.mono HW1.out.size))
      clear hb
      go_wp2_with fail
      refine (rValid_to a _ KA _).mono ?_
      rintro e w9 ⟨rfl, rfl⟩
      go_wp2_with fail
      refine (rValid_to b _ KB _).mono ?_
      rintro e w9 ⟨rfl, rfl⟩
      go_wp2
      go_ret
      exact ⟨rfl, HW2.out⟩
  · obtain ⟨ka, kb⟩ := Bool.and_eq_true_iff.1 hab
    have HA0 := IsStr.of ka
    have HB0 := IsStr.of kb
    obtain ⟨x, hx⟩ : ∃ x, zv a.data.toList = x := ⟨_, rfl⟩
    obtain ⟨y, hy⟩ : ∃ x, zv b.data.toList = x := ⟨_, rfl⟩
    rw [hx] at HA0
    rw [hy] at HB0
    obtain ⟨G, hG⟩ : ∃ G : Int, ((Int.gcd x y : Nat) : Int) = G := ⟨_, rfl⟩
    have tG := gcd_ten x y HA0.ten HB0.ten
    rw [hG] at tG
    obtain ⟨u, sG⟩ := str_ex tG (Nat.le_refl _)
    have HAS := Lib.hid HA0
    have HBS := Lib.hid HB0
    have HGS := Lib.hid sG
    have HGE := Lib.hid (And.intro trivial hG)
    have HUS : Hid (IsStr u (Int.gcd x y : Nat)) := Lib.hid (by rw [hG]; exact sG)
    have HOP := Lib.hid (opS_gcd sG)
    have KA := Lib.hid ka
    have KB := Lib.hid kb
    have HAB := Lib.hid hab
    have HLX := Lib.hid (And.intro trivial (ten_1000 (by omega) HA0.ten))
    have HLY := Lib.hid (And.intro trivial (ten_1000 (by omega) HB0.ten))
    have HYB : Hid (zv b.data.toList = y) := Lib.hid hy
    by_cases hy0 : y = 0
    · have hz : (b.toList == [48]) = true := zero_str HB0 hy0
      have hzb : zv b.data.toList = 0 := by rw [hy, hy0]
      have HZB := Lib.hid hzb
      have hnn : ((⟨#[]⟩ : ByteArray) ++ (⟨#[]⟩ : ByteArray)).toList = [] := by decide +kernel
      clear hab ka kb HA0 HB0 hx hy hG tG sG hzb hy0
      go_enter Tryz.func4, Tryz.ntmps4
      go_wp2_with fail
      refine (awake_any _ HT.out).mono ?_
      rintro e w0 ⟨rfl, hb⟩
      have HW0 := Lib.hid hb
      clear hb
      go_wp2_with fail
      refine (long_any a b _ HL _).mono ?_
      rintro e w9 ⟨rfl, rfl⟩
      go_wp2_with fail
      refine (DivMod_zero a b _ HAB.out HZB.out).mono ?_
      rintro e w1 ⟨rfl, hb⟩
      have HW1 := Lib.hid (HW0.out.trans (hb.mono HW0.out.size))
      clear hb
      go_wp2_with fail
      refine (Gcd_to a b u x y HAS HBS HUS _ (tab_keep HT.out HW1.out)).mono ?_
      rintro e w2 ⟨rfl, hb⟩
      have HW2 := Lib.hid (HW1.out.trans (hb.mono HW1.out.size))
      clear hb
      go_wp2_with fail
      refine (rValid_to a _ KA _).mono ?_
      rintro e w9 ⟨rfl, rfl⟩
      go_wp2_with fail
      refine (rValid_to b _ KB _).mono ?_
      rintro e w9 ⟨rfl, rfl⟩
      go_wp2_with fail
      refine (rOf_to a x HAS _).mono ?_
      rintro e w3 ⟨v3, rfl, hv, hb⟩
      have HV3 := Lib.hid hv
      have HB3 := Lib.hid hb
      have HW3 := Lib.hid (HW2.out.trans (hb.mono HW2.out.size))
      obtain ⟨a3, c3, rfl⟩ := hv.form
      clear hb hv
      go_wp2_with fail
      refine (rOf_to b y HBS _).mono ?_
      rintro e w4 ⟨v4, rfl, hv, hb⟩
      have HV4 := Lib.hid hv
      have HV3' := Lib.hid (HV3.out.keep hb (Nat.le_refl _))
      have HW4 := Lib.hid (HW3.out.trans (hb.mono HW3.out.size))
      obtain ⟨a4, c4, rfl⟩ := hv.form
      clear hb hv HV3 HB3
      obtain ⟨n1, hn1⟩ : ∃ b, isNeg x = b := ⟨_, rfl⟩
      obtain ⟨n2, hn2⟩ : ∃ b, isNeg y = b := ⟨_, rfl⟩
      rw [hn1] at HV3' ⊢
      rw [hn2] at HV4 ⊢
      obtain ⟨l1, hl1⟩ : ∃ l, (dg x.natAbs).length = l := ⟨_, rfl⟩
      obtain ⟨l2, hl2⟩ : ∃ l, (dg y.natAbs).length = l := ⟨_, rfl⟩
      rw [hl1] at HV3' ⊢
      rw [hl2] at HV4 ⊢
      clear hn1 hn2 hl1 hl2
      have HS := Lib.hid (St2.start w4 (.bool n1) (.slice a3 l1 c3) (.bool n2) (.slice a4 l2 c4) 30 30)
      have HX := Lib.hid (HV3'.out.keep HS.out.1 (Nat.le_refl _))
      have HY := Lib.hid (HV4.out.keep HS.out.1 (Nat.le_refl _))
      have HW5 := Lib.hid (HW4.out.trans (HS.out.1.mono HW4.out.size))
      go_wp2_with fail
      refine (rGcd_any _ _ x y _ HX.out HY.out HLX.out.2 HLY.out.2).mono ?_
      rintro e w6 ⟨v6, rfl, hv6, hb⟩
      rw [HGE.out.2] at hv6
      have HV6 := Lib.hid hv6
      have HS6 := Lib.hid (HS.out.next hb (Nat.le_refl _))
      have HX6 := Lib.hid (HX.out.keep hb (Nat.le_refl _))
      have HY6 := Lib.hid (HY.out.keep hb (Nat.le_refl _))
      have HW6 := Lib.hid (HW5.out.trans (hb.mono HW5.out.size))
      obtain ⟨a6, c6, rfl⟩ := hv6.form
      clear hb hv6 HS HX HY
      go_wp2_with fail
      refine (agree_any _ _ _ G _ HV6.out HOP).mono ?_
      rintro e w7 ⟨rfl, hb⟩
      have HS7 := Lib.hid (HS6.out.next hb (Nat.le_refl _))
      have HX7 := Lib.hid (HX6.out.keep hb (Nat.le_refl _))
      have HY7 := Lib.hid (HY6.out.keep hb (Nat.le_refl _))
      have HW7 := Lib.hid (HW6.out.trans (hb.mono HW6.out.size))
      clear hb HS6 HX6 HY6
      go_wp2
      go_ret
      exact ⟨rfl, HW7.out⟩
    · have hz : (b.toList == [48]) = false := not_zero_str HB0 hy0
      have HY0 := Lib.hid hy0
      clear hab ka kb HA0 HB0 hx hy hG tG sG hy0
      go_enter Tryz.func4, Tryz.ntmps4
      go_wp2_with fail
      refine (awake_any _ HT.out).mono ?_
      rintro e w0 ⟨rfl, hb⟩
      have HW0 := Lib.hid hb
      clear hb
      go_wp2_with fail
      refine (long_any a b _ HL _).mono ?_
      rintro e w9 ⟨rfl, rfl⟩
      go_wp2_with fail
      refine (DivMod_to a b x y 400 (Nat.le_refl _) HAS HBS HAS.out.ten HBS.out.ten HY0.out _ (tab_keep HT.out HW0.out)).mono ?_
      rintro e w1 ⟨q, r, Q, R, hdv, hQ, hR, tq, tr, rfl, hb⟩
      have HDV := Lib.hid hdv
      have HQS := Lib.hid hQ
      have HRS := Lib.hid hR
      have HLQ := Lib.hid (And.intro trivial (ten_1000 (by omega) tq))
      have HLR := Lib.hid (And.intro trivial (ten_1000 (by omega) tr))
      have HW1 := Lib.hid (HW0.out.trans (hb.mono HW0.out.size))
      clear hb hdv hQ hR tq tr
      go_wp2_with fail
      refine (Gcd_to a b u x y HAS HBS HUS _ (tab_keep HT.out HW1.out)).mono ?_
      rintro e w2 ⟨rfl, hb⟩
      have HW2 := Lib.hid (HW1.out.trans (hb.mono HW1.out.size))
      clear hb
      go_wp2_with fail
      refine (rValid_to a _ KA _).mono ?_
      rintro e w9 ⟨rfl, rfl⟩
      go_wp2_with fail
      refine (rValid_to b _ KB _).mono ?_
      rintro e w9 ⟨rfl, rfl⟩
      go_wp2_with fail
      refine (rOf_to a x HAS _).mono ?_
      rintro e w3 ⟨v3, rfl, hv, hb⟩
      have HV3 := Lib.hid hv
      have HB3 := Lib.hid hb
      have HW3 := Lib.hid (HW2.out.trans (hb.mono HW2.out.size))
      obtain ⟨a3, c3, rfl⟩ := hv.form
      clear hb hv
      go_wp2_with fail
      refine (rOf_to b y HBS _).mono ?_
      rintro e w4 ⟨v4, rfl, hv, hb⟩
      have HV4 := Lib.hid hv
      have HV3' := Lib.hid (HV3.out.keep hb (Nat.le_refl _))
      have HW4 := Lib.hid (HW3.out.trans (hb.mono HW3.out.size))
      obtain ⟨a4, c4, rfl⟩ := hv.form
      clear hb hv HV3 HB3
      obtain ⟨n1, hn1⟩ : ∃ b, isNeg x = b := ⟨_, rfl⟩
      obtain ⟨n2, hn2⟩ : ∃ b, isNeg y = b := ⟨_, rfl⟩
      rw [hn1] at HV3' ⊢
      rw [hn2] at HV4 ⊢
      obtain ⟨l1, hl1⟩ : ∃ l, (dg x.natAbs).length = l := ⟨_, rfl⟩
      obtain ⟨l2, hl2⟩ : ∃ l, (dg y.natAbs).length = l := ⟨_, rfl⟩
      rw [hl1] at HV3' ⊢
      rw [hl2] at HV4 ⊢
      clear hn1 hn2 hl1 hl2
      have HS := Lib.hid (St2.start w4 (.bool n1) (.slice a3 l1 c3) (.bool n2) (.slice a4 l2 c4) 30 30)
      have HX := Lib.hid (HV3'.out.keep HS.out.1 (Nat.le_refl _))
      have HY := Lib.hid (HV4.out.keep HS.out.1 (Nat.le_refl _))
      have HW5 := Lib.hid (HW4.out.trans (HS.out.1.mono HW4.out.size))
      go_wp2_with fail
      refine (rGcd_any _ _ x y _ HX.out HY.out HLX.out.2 HLY.out.2).mono ?_
      rintro e w6 ⟨v6, rfl, hv6, hb⟩
      rw [HGE.out.2] at hv6
      have HV6 := Lib.hid hv6
      have HS6 := Lib.hid (HS.out.next hb (Nat.le_refl _))
      have HX6 := Lib.hid (HX.out.keep hb (Nat.le_refl _))
      have HY6 := Lib.hid (HY.out.keep hb (Nat.le_refl _))
      have HW6 := Lib.hid (HW5.out.trans (hb.mono HW5.out.size))
      obtain ⟨a6, c6, rfl⟩ := hv6.form
      clear hb hv6 HS HX HY
      go_wp2_with fail
      refine (agree_any _ _ _ G _ HV6.out HOP).mono ?_
      rintro e w7 ⟨rfl, hb⟩
      have HS7 := Lib.hid (HS6.out.next hb (Nat.le_refl _))
      have HX7 := Lib.hid (HX6.out.keep hb (Nat.le_refl _))
      have HY7 := Lib.hid (HY6.out.keep hb (Nat.le_refl _))
      have HW7 := Lib.hid (HW6.out.trans (hb.mono HW6.out.size))
      clear hb HS6 HX6 HY6
      obtain ⟨d0, d1, d2, d3, _, _, _, _⟩ := HS7.out.cells
      go_wp2_with fail
      refine (rDivMod_any _ _ x y _ HX7.out HY7.out HLX.out.2 HLY.out.2 HY0.out).mono ?_
      rintro e w8 ⟨vq, vr, q', r', rfl, hq, hr, hd, hb⟩
      obtain ⟨rfl, rfl⟩ := hd.unique HDV.out
      have HVQ := Lib.hid hq
      have HVR := Lib.hid hr
      have HW8 := Lib.hid (HW7.out.trans (hb.mono HW7.out.size))
      obtain ⟨aq, cq, rfl⟩ := hq.form
      obtain ⟨ar, cr, rfl⟩ := hr.form
      clear hb hq hr hd
      obtain ⟨nq, hnq⟩ : ∃ b, isNeg q' = b := ⟨_, rfl⟩
      obtain ⟨nr, hnr⟩ : ∃ b, isNeg r' = b := ⟨_, rfl⟩
      obtain ⟨lq, hlq⟩ : ∃ l, (dg q'.natAbs).length = l := ⟨_, rfl⟩
      obtain ⟨lr, hlr⟩ : ∃ l, (dg r'.natAbs).length = l := ⟨_, rfl⟩
      rw [hnq, hlq] at HVQ
      rw [hnr, hlr] at HVR
      rw [hnq, hlq, hnr, hlr]
      rw [hlq] at HLQ
      rw [hlr] at HLR
      have HLQ2 : Hid (True ∧ (dg q'.natAbs).length ≤ 2000) := Lib.hid ⟨trivial, by have := HLQ.out.2; omega⟩
      have HLR2 : Hid (True ∧ (dg r'.natAbs).length ≤ 2000) := Lib.hid ⟨trivial, by have := HLR.out.2; omega⟩
      clear hnq hlq hnr hlr d0 d1 d2 d3
      have HT8 := Lib.hid (St2.start w8 (.bool nq) (.slice aq lq cq) (.bool nr) (.slice ar lr cr) 30 30)
      have HQ8 := Lib.hid (HVQ.out.keep HT8.out.1 (Nat.le_refl _))
      have HR8 := Lib.hid (HVR.out.keep HT8.out.1 (Nat.le_refl _))
      have HW9 := Lib.hid (HW8.out.trans (HT8.out.1.mono HW8.out.size))
      go_wp2_with fail
      refine (rText_is _ q' Q _ HQ8.out HLQ2.out.2 HQS).mono ?_
      rintro e w10 ⟨rfl, hb⟩
      have HT10 := Lib.hid (HT8.out.next hb (Nat.le_refl _))
      have HR10 := Lib.hid (HR8.out.keep hb (Nat.le_refl _))
      have HW10 := Lib.hid (HW9.out.trans (hb.mono HW9.out.size))
      clear hb
      obtain ⟨d0, d1, d2, d3, _, _, _, _⟩ := HT10.out.cells
      go_wp2_with fail
      refine (rText_is _ r' R _ HR10.out HLR2.out.2 HRS).mono ?_
      rintro e w11 ⟨rfl, hb⟩
      have HW11 := Lib.hid (HW10.out.trans (hb.mono HW10.out.size))
      clear hb
      go_wp2
      go_ret
      exact ⟨rfl, HW11.out⟩

end Go.Proofs.YtniokkoicoacoaaGreatDoor
