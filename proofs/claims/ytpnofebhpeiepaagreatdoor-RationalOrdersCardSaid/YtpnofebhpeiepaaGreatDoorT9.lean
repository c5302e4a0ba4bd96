/- The law RationalOrders. -/
import Derived.Test.YtpnofebhpeiepaaGreatDoorT8
import Derived.Deep.RegionWith
import Derived.Deep.RegionHeld3
set_option linter.unusedVariables false
set_option linter.unusedSimpArgs false
namespace Go.Proofs.YtpnofebhpeiepaaGreatDoor
open Go.RowKit _root_.Go.Proofs.YtpnofebhpeiepaaGreatDoor.Nm

theorem floor_digs (q : Rat) (h : RT 400 q) : (dg q.floor.natAbs).length ≤ 2000 := by
  have h1 := digs_ten h.1 1000 (by omega)
  rw [Rat.floor_def]
  exact Nat.le_trans (dg_mono _ _ (Int.natAbs_ediv_le_natAbs _ _)) (by omega)
theorem ceil_digs (q : Rat) (h : RT 400 q) : (dg q.ceil.natAbs).length ≤ 2000 := by
  rw [Rat.ceil_eq_neg_floor_neg, Int.natAbs_neg]
  exact floor_digs _ h.neg

set_option maxRecDepth 100000 in
set_option maxHeartbeats 12800000 in
theorem orders_out (a b : ByteArray) (w : World) (htab : Tab w) (h : ¬ (a.size ≤ 300 ∧ b.size ≤ 300)) :
    Calls Tryz.prog 6 #[.string a, .string b] w fun e w' => e = .returned (.bool true) ∧ Below w.heap.size w w' := by
  have HT := Lib.hid htab
  have HC0 : Hid (∀ (i : Nat) (h : i < [a, b].length), (w.alloc (.cells #[.string a, .string b] 9)).cell? ⟨w.heap.size, 0 + i, none⟩ = some (.string [a, b][i])) := Lib.hid (two_cells w a b 9)
  have HW0 := Lib.hid ((Below.refl w.heap.size w).alloc (Nat.le_refl _) (.cells #[.string a, .string b] 9))
  have HSH : Hid (shortB [a, b] = false) := Lib.hid (by
    rw [short_two]
    by_cases h1 : a.size ≤ 300
    · rw [decide_eq_false (show ¬ b.size ≤ 300 from fun h2 => h ⟨h1, h2⟩), Bool.and_false]
    · rw [decide_eq_false h1, Bool.false_and])
  clear htab h
  go_enter Tryz.func6, Tryz.ntmps6
  go_wp2_with fail
  refine (short_any w.heap.size 0 2 [a, b] 2 rfl (by omega) false _ HC0 HSH).mono ?_
  rintro e w0 ⟨rfl, rfl⟩
  go_wp2_with fail
  refine (qawake_any _ (tab_keep HT.out HW0.out)).mono ?_
  rintro e w1 ⟨rfl, hb⟩
  have HW1 := Lib.hid (HW0.out.trans (hb.mono HW0.out.size))
  clear hb
  go_wp2
  go_ret
  exact ⟨rfl, HW1.out⟩

set_option maxRecDepth 100000 in
set_option maxHeartbeats 12800000 in
theorem orders_none (a b : ByteArray) (o2 : Option Rat) (w : World) (htab : Tab w) (la : a.size ≤ 300) (lb : b.size ≤ 300) (HO1 : Hid (rval a.data.toList = none)) (HO2 : Hid (rval b.data.toList = o2)) :
    Calls Tryz.prog 6 #[.string a, .string b] w fun e w' => e = .returned (.bool true) ∧ Below w.heap.size w w' := by
  have HT := Lib.hid htab
  have HC0 : Hid (∀ (i : Nat) (h : i < [a, b].length), (w.alloc (.cells #[.string a, .string b] 9)).cell? ⟨w.heap.size, 0 + i, none⟩ = some (.string [a, b][i])) := Lib.hid (two_cells w a b 9)
  have HW0 := Lib.hid ((Below.refl w.heap.size w).alloc (Nat.le_refl _) (.cells #[.string a, .string b] 9))
  have HSH : Hid (shortB [a, b] = true) := Lib.hid (by rw [short_two, decide_eq_true la, decide_eq_true lb]; rfl)
  have za : a.size ≤ 100000 := by omega
  have zb : b.size ≤ 100000 := by omega
  clear htab
  have HC : Hid (cmpVal a b = 0) := Lib.hid (cmpVal_none (by rw [HO1.out]; rfl))
  have HF : Hid (RndRes Rat.floor a ⟨#[]⟩ 3) := Lib.hid (by unfold RndRes; rw [HO1.out]; exact ⟨rfl, rfl⟩)
  have HE : Hid (RndRes Rat.ceil a ⟨#[]⟩ 3) := Lib.hid (by unfold RndRes; rw [HO1.out]; exact ⟨rfl, rfl⟩)
  have HN : Hid (NegRes a ⟨#[]⟩) := Lib.hid (by unfold NegRes; rw [HO1.out])
  obtain ⟨b2, hb2⟩ : ∃ x, o2.isSome = x := ⟨_, rfl⟩
  have HB2 := Lib.hid (And.intro trivial hb2)
  clear hb2 la lb
  go_enter Tryz.func6, Tryz.ntmps6
  go_wp2_with fail
  refine (short_any w.heap.size 0 2 [a, b] 2 rfl (by omega) true _ HC0 HSH).mono ?_
  rintro e w0 ⟨rfl, rfl⟩
  go_wp2_with fail
  refine (rrRead_any a none _ HO1 za).mono ?_
  rintro e w1 ⟨n1, a1, l1, c1, n2, a2, l2, c2, rfl, hq1, hb⟩
  rw [show (none : Option Rat).isSome = false from rfl]
  have hA := (Below.refl w1.heap.size w1).alloc (Nat.le_refl _) (.cells #[.bool n1, .slice a1 l1 c1, .bool n2, .slice a2 l2 c2] 30)
  have HW1 := Lib.hid ((HW0.out.trans (hb.mono HW0.out.size)).alloc (Nat.le_trans HW0.out.size hb.size) (.cells #[.bool n1, .slice a1 l1 c1, .bool n2, .slice a2 l2 c2] 30))
  clear hb hA hq1
  go_wp2_with fail
  refine (rrRead_any b o2 _ HO2 zb).mono ?_
  rintro e w2 ⟨n3, a3, l3, c3, n4, a4, l4, c4, rfl, hq3, hb⟩
  rw [HB2.out.2]
  have hA := (Below.refl w2.heap.size w2).alloc (Nat.le_refl _) (.cells #[.bool n3, .slice a3 l3 c3, .bool n4, .slice a4 l4 c4] 30)
  have HW2 := Lib.hid ((HW1.out.trans (hb.mono HW1.out.size)).alloc (Nat.le_trans HW1.out.size hb.size) (.cells #[.bool n3, .slice a3 l3 c3, .bool n4, .slice a4 l4 c4] 30))
  clear hb hA hq3
  go_wp2_with fail
  refine (qCmp_any a b 0 _ HC za zb).mono ?_
  rintro e w3 ⟨rfl, hb⟩
  have HW3 := Lib.hid (HW2.out.trans (hb.mono HW2.out.size))
  clear hb
  go_wp2_with fail
  refine (qFloor_any a ⟨#[]⟩ 3 _ HF za (tab_keep HT.out HW3.out)).mono ?_
  rintro e w4 ⟨rfl, hb⟩
  have HW4 := Lib.hid (HW3.out.trans (hb.mono HW3.out.size))
  clear hb
  go_wp2_with fail
  refine (qCeil_any a ⟨#[]⟩ 3 _ HE za (tab_keep HT.out HW4.out)).mono ?_
  rintro e w5 ⟨rfl, hb⟩
  have HW5 := Lib.hid (HW4.out.trans (hb.mono HW4.out.size))
  clear hb
  go_wp2_with fail
  refine (qawake_any _ (tab_keep HT.out HW5.out)).mono ?_
  rintro e w6 ⟨rfl, hb⟩
  have HW6 := Lib.hid (HW5.out.trans (hb.mono HW5.out.size))
  clear hb
  go_wp2_with fail
  refine (qNeg_any a ⟨#[]⟩ _ HN za (tab_keep HT.out HW6.out)).mono ?_
  rintro e w7 ⟨rfl, hb⟩
  have HW7 := Lib.hid (HW6.out.trans (hb.mono HW6.out.size))
  clear hb
  go_wp2
  go_ret
  exact ⟨rfl, HW7.out⟩

set_option maxRecDepth 100000 in
set_option maxHeartbeats 12800000 in
theorem orders_one (a b : ByteArray) (p : Rat) (w : World) (htab : Tab w) (la : a.size ≤ 300) (lb : b.size ≤ 300) (HO1 : Hid (rval a.data.toList = some p)) (HO2 : Hid (rval b.data.toList = none)) :
    Calls Tryz.prog 6 #[.string a, .string b] w fun e w' => e = .returned (.bool true) ∧ Below w.heap.size w w' := by
  have HT := Lib.hid htab
  have HC0 : Hid (∀ (i : Nat) (h : i < [a, b].length), (w.alloc (.cells #[.string a, .string b] 9)).cell? ⟨w.heap.size, 0 + i, none⟩ = some (.string [a, b][i])) := Lib.hid (two_cells w a b 9)
  have HW0 := Lib.hid ((Below.refl w.heap.size w).alloc (Nat.le_refl _) (.cells #[.string a, .string b] 9))
  have HSH : Hid (shortB [a, b] = true) := Lib.hid (by rw [short_two, decide_eq_true la, decide_eq_true lb]; rfl)
  have za : a.size ≤ 100000 := by omega
  have zb : b.size ≤ 100000 := by omega
  clear htab
  have rp := RT.val HO1.out
  obtain ⟨c, hc⟩ : ∃ c, cmpVal a b = c := ⟨_, rfl⟩
  have HC := Lib.hid hc
  obtain ⟨f, hf⟩ : ∃ z, p.floor = z := ⟨_, rfl⟩
  obtain ⟨g, hg⟩ : ∃ z, p.ceil = z := ⟨_, rfl⟩
  obtain ⟨m, hm⟩ : ∃ z, -p = z := ⟨_, rfl⟩
  obtain ⟨SF, hSF⟩ : ∃ u : ByteArray, u = ⟨(Lib.itoa f).toArray⟩ := ⟨_, rfl⟩
  obtain ⟨SG, hSG⟩ : ∃ u : ByteArray, u = ⟨(Lib.itoa g).toArray⟩ := ⟨_, rfl⟩
  obtain ⟨SM, hSM⟩ : ∃ u : ByteArray, u = ⟨(rt m).toArray⟩ := ⟨_, rfl⟩
  have HF : Hid (RndRes Rat.floor a SF 0) := Lib.hid (by unfold RndRes; rw [HO1.out]; exact ⟨by rw [hSF, ← hf], rfl⟩)
  have HE : Hid (RndRes Rat.ceil a SG 0) := Lib.hid (by unfold RndRes; rw [HO1.out]; exact ⟨by rw [hSG, ← hg], rfl⟩)
  have HN : Hid (NegRes a SM) := Lib.hid (by unfold NegRes; rw [HO1.out]; show SM = _; rw [hSM, ← hm])
  have H1 := Lib.hid hf
  have H2 := Lib.hid hg
  have H3 := Lib.hid hm
  have H4 := Lib.hid (And.intro trivial hSF)
  have H5 := Lib.hid (And.intro trivial hSG)
  have H6 := Lib.hid (And.intro trivial hSM)
  have L1 := floor_digs p rp
  have L2 := ceil_digs p rp
  rw [hf] at L1
  rw [hg] at L2
  have HL1 := Lib.hid L1
  have HL2 := Lib.hid L2
  have HRP := Lib.hid rp
  have HRM : Hid (RT 400 m) := Lib.hid (by rw [← hm]; exact rp.neg)
  obtain rfl : c = 0 := by rw [← hc]; exact cmpVal_none (by rw [HO1.out, HO2.out]; rfl)
  clear rp hc hf hg hm hSF hSG hSM L1 L2 la lb
  go_enter Tryz.func6, Tryz.ntmps6
  go_wp2_with fail
  refine (short_any w.heap.size 0 2 [a, b] 2 rfl (by omega) true _ HC0 HSH).mono ?_
  rintro e w0 ⟨rfl, rfl⟩
  go_wp2_with fail
  refine (rrRead_any a (some p) _ HO1 za).mono ?_
  rintro e w1 ⟨n1, a1, l1, c1, n2, a2, l2, c2, rfl, hq1, hb⟩
  rw [show ((some p) : Option Rat).isSome = true from rfl]
  have hA := (Below.refl w1.heap.size w1).alloc (Nat.le_refl _) (.cells #[.bool n1, .slice a1 l1 c1, .bool n2, .slice a2 l2 c2] 30)
  have HW1 := Lib.hid ((HW0.out.trans (hb.mono HW0.out.size)).alloc (Nat.le_trans HW0.out.size hb.size) (.cells #[.bool n1, .slice a1 l1 c1, .bool n2, .slice a2 l2 c2] 30))
  have HX := Lib.hid ((hq1 p rfl).keep hA (Nat.le_refl _))
  have HBX := Lib.hid (B4.new w1 (.bool n1) (.slice a1 l1 c1) (.bool n2) (.slice a2 l2 c2) 30)
  have HGE : Hid (w1.heap.size = w1.heap.size) := Lib.hid rfl
  clear hb hA hq1
  go_wp2_with fail
  refine (rrRead_any b none _ HO2 zb).mono ?_
  rintro e w2 ⟨n3, a3, l3, c3, n4, a4, l4, c4, rfl, hq3, hb⟩
  rw [show (none : Option Rat).isSome = false from rfl]
  have hA := (Below.refl w2.heap.size w2).alloc (Nat.le_refl _) (.cells #[.bool n3, .slice a3 l3 c3, .bool n4, .slice a4 l4 c4] 30)
  have HW2 := Lib.hid ((HW1.out.trans (hb.mono HW1.out.size)).alloc (Nat.le_trans HW1.out.size hb.size) (.cells #[.bool n3, .slice a3 l3 c3, .bool n4, .slice a4 l4 c4] 30))
  have HX := Lib.hid ((HX.out.keep hb (Nat.le_refl _)).keep hA (Nat.le_refl _))
  have HBX := Lib.hid ((HBX.out.below hb HBX.out.lt).below hA (Nat.lt_of_lt_of_le HBX.out.lt hb.size))
  clear hb hA hq3
  go_wp2_with fail
  refine (qCmp_any a b 0 _ HC za zb).mono ?_
  rintro e w3 ⟨rfl, hb⟩
  have HW3 := Lib.hid (HW2.out.trans (hb.mono HW2.out.size))
  have HX := Lib.hid (HX.out.keep hb (Nat.le_refl _))
  have HBX := Lib.hid (HBX.out.below hb HBX.out.lt)
  clear hb
  go_wp2_with fail
  refine (qFloor_any a SF 0 _ HF za (tab_keep HT.out HW3.out)).mono ?_
  rintro e w4 ⟨rfl, hb⟩
  have HW4 := Lib.hid (HW3.out.trans (hb.mono HW3.out.size))
  have HX := Lib.hid (HX.out.keep hb (Nat.le_refl _))
  have HBX := Lib.hid (HBX.out.below hb HBX.out.lt)
  clear hb
  go_wp2_with fail
  refine (qCeil_any a SG 0 _ HE za (tab_keep HT.out HW4.out)).mono ?_
  rintro e w5 ⟨rfl, hb⟩
  have HW5 := Lib.hid (HW4.out.trans (hb.mono HW4.out.size))
  have HX := Lib.hid (HX.out.keep hb (Nat.le_refl _))
  have HBX := Lib.hid (HBX.out.below hb HBX.out.lt)
  clear hb
  go_upto_region 14 with fail
  have hX0 := HX.out.keep (Below.refl _ _).drew (Nat.le_refl _)
  have hB0 := HBX.out.drew
  have hw0 := HW5.out.drew
  clear HX HBX HGE
  obtain ⟨k0_0, k0_1, k0_2, k0_3⟩ := hB0.cell
  go_region_held3 (fun w' => w'.cell? ⟨w1.heap.size, 0, none⟩ = some (.bool n1) ∧ w'.cell? ⟨w1.heap.size, 1, none⟩ = some (.slice a1 l1 c1) ∧ w'.cell? ⟨w1.heap.size, 2, none⟩ = some (.bool n2) ∧ w'.cell? ⟨w1.heap.size, 3, none⟩ = some (.slice a2 l2 c2)) (first | ((try dsimp only); (repeat' apply And.intro); all_goals with_reducible assumption) | go_keep) (first | (go_at_call 18; have hgd := hX7; clear hgd; refine (rrText_any _ m SM 400 _ (by exact ⟨_, _, _, _, _, _, _, _, rfl, hz1, hz2⟩) HRM.out (by omega) H6).mono ?_; rintro e u8 ⟨rfl, hb8⟩; have hX8 := hX7.keep hb8 (Nat.le_refl _); have hB8 := hB7.below hb8 hB7.lt; have hw8 := hw7.trans (hb8.mono hw7.size); clear hX7 k7_0 k7_1 k7_2 k7_3; obtain ⟨k8_0, k8_1, k8_2, k8_3⟩ := hB8.cell) | (go_at_call 38; have hgd := hX6; clear hgd; refine (rrNeg_any _ p m _ (by exact hX6) H3).mono ?_; rintro e u7 ⟨v7, rfl, hv7, hb7⟩; have hX7 := hX6.keep hb7 (Nat.le_refl _); have hB7 := hB6.below hb7 hB6.lt; have hw7 := hw6.trans (hb7.mono hw6.size); clear hX6 k6_0 k6_1 k6_2 k6_3; obtain ⟨k7_0, k7_1, k7_2, k7_3⟩ := hB7.cell; obtain ⟨m1, b1, j1, d1, m2, b2, j2, d2, rfl, hz1, hz2⟩ := hv7) | (go_at_call 35; have hgd := hX5; clear hgd; refine (qNeg_any a SM _ HN za (by exact tab_keep HT.out hw5)).mono ?_; rintro e u6 ⟨rfl, hb6⟩; have hX6 := hX5.keep hb6 (Nat.le_refl _); have hB6 := hB5.below hb6 hB5.lt; have hw6 := hw5.trans (hb6.mono hw5.size); clear hX5 k5_0 k5_1 k5_2 k5_3; obtain ⟨k6_0, k6_1, k6_2, k6_3⟩ := hB6.cell) | (go_at_call 14; have hgd := hX4; clear hgd; refine (rText_to _ g SG _ (by exact hv4) HL2.out H5).mono ?_; rintro e u5 ⟨rfl, hb5⟩; have hX5 := hX4.keep hb5 (Nat.le_refl _); have hB5 := hB4.below hb5 hB4.lt; have hw5 := hw4.trans (hb5.mono hw4.size); clear hX4 k4_0 k4_1 k4_2 k4_3; obtain ⟨k5_0, k5_1, k5_2, k5_3⟩ := hB5.cell) | (go_at_call 37; have hgd := hX3; clear hgd; refine (rrCeil_any _ p g 400 _ (by exact hX3) HRP.out (by omega) H2).mono ?_; rintro e u4 ⟨v4, rfl, hv4, hb4⟩; have hX4 := hX3.keep hb4 (Nat.le_refl _); have hB4 := hB3.below hb4 hB3.lt; have hw4 := hw3.trans (hb4.mono hw3.size); clear hX3 k3_0 k3_1 k3_2 k3_3; obtain ⟨k4_0, k4_1, k4_2, k4_3⟩ := hB4.cell; obtain ⟨p4, q4, r4, s4, rfl⟩ := hv4.any) | (go_at_call 14; have hgd := hX2; clear hgd; refine (rText_to _ f SF _ (by exact hv2) HL1.out H4).mono ?_; rintro e u3 ⟨rfl, hb3⟩; have hX3 := hX2.keep hb3 (Nat.le_refl _); have hB3 := hB2.below hb3 hB2.lt; have hw3 := hw2.trans (hb3.mono hw2.size); clear hX2 k2_0 k2_1 k2_2 k2_3; obtain ⟨k3_0, k3_1, k3_2, k3_3⟩ := hB3.cell) | (go_at_call 36; have hgd := hX1; clear hgd; refine (rrFloor_any _ p f 400 _ (by exact hX1) HRP.out (by omega) H1).mono ?_; rintro e u2 ⟨v2, rfl, hv2, hb2⟩; have hX2 := hX1.keep hb2 (Nat.le_refl _); have hB2 := hB1.below hb2 hB1.lt; have hw2 := hw1.trans (hb2.mono hw1.size); clear hX1 k1_0 k1_1 k1_2 k1_3; obtain ⟨k2_0, k2_1, k2_2, k2_3⟩ := hB2.cell; obtain ⟨p2, q2, r2, s2, rfl⟩ := hv2.any) | (go_at_call 10; have hgd := hX0; clear hgd; refine (qawake_any _ (by exact tab_keep HT.out hw0)).mono ?_; rintro e u1 ⟨rfl, hb1⟩; have hX1 := hX0.keep hb1 (Nat.le_refl _); have hB1 := hB0.below hb1 hB0.lt; have hw1 := hw0.trans (hb1.mono hw0.size); clear hX0 k0_0 k0_1 k0_2 k0_3; obtain ⟨k1_0, k1_1, k1_2, k1_3⟩ := hB1.cell))
  all_goals (go_wp2; go_ret; exact ⟨rfl, hw8⟩)

set_option maxRecDepth 100000 in
set_option maxHeartbeats 12800000 in
theorem orders_two (a b : ByteArray) (p q : Rat) (w : World) (htab : Tab w) (la : a.size ≤ 300) (lb : b.size ≤ 300) (HO1 : Hid (rval a.data.toList = some p)) (HO2 : Hid (rval b.data.toList = some q)) :
    Calls Tryz.prog 6 #[.string a, .string b] w fun e w' => e = .returned (.bool true) ∧ Below w.heap.size w w' := by
  have HT := Lib.hid htab
  have HC0 : Hid (∀ (i : Nat) (h : i < [a, b].length), (w.alloc (.cells #[.string a, .string b] 9)).cell? ⟨w.heap.size, 0 + i, none⟩ = some (.string [a, b][i])) := Lib.hid (two_cells w a b 9)
  have HW0 := Lib.hid ((Below.refl w.heap.size w).alloc (Nat.le_refl _) (.cells #[.string a, .string b] 9))
  have HSH : Hid (shortB [a, b] = true) := Lib.hid (by rw [short_two, decide_eq_true la, decide_eq_true lb]; rfl)
  have za : a.size ≤ 100000 := by omega
  have zb : b.size ≤ 100000 := by omega
  clear htab
  have rp := RT.val HO1.out
  obtain ⟨c, hc⟩ : ∃ c, cmpVal a b = c := ⟨_, rfl⟩
  have HC := Lib.hid hc
  obtain ⟨f, hf⟩ : ∃ z, p.floor = z := ⟨_, rfl⟩
  obtain ⟨g, hg⟩ : ∃ z, p.ceil = z := ⟨_, rfl⟩
  obtain ⟨m, hm⟩ : ∃ z, -p = z := ⟨_, rfl⟩
  obtain ⟨SF, hSF⟩ : ∃ u : ByteArray, u = ⟨(Lib.itoa f).toArray⟩ := ⟨_, rfl⟩
  obtain ⟨SG, hSG⟩ : ∃ u : ByteArray, u = ⟨(Lib.itoa g).toArray⟩ := ⟨_, rfl⟩
  obtain ⟨SM, hSM⟩ : ∃ u : ByteArray, u = ⟨(rt m).toArray⟩ := ⟨_, rfl⟩
  have HF : Hid (RndRes Rat.floor a SF 0) := Lib.hid (by unfold RndRes; rw [HO1.out]; exact ⟨by rw [hSF, ← hf], rfl⟩)
  have HE : Hid (RndRes Rat.ceil a SG 0) := Lib.hid (by unfold RndRes; rw [HO1.out]; exact ⟨by rw [hSG, ← hg], rfl⟩)
  have HN : Hid (NegRes a SM) := Lib.hid (by unfold NegRes; rw [HO1.out]; show SM = _; rw [hSM, ← hm])
  have H1 := Lib.hid hf
  have H2 := Lib.hid hg
  have H3 := Lib.hid hm
  have H4 := Lib.hid (And.intro trivial hSF)
  have H5 := Lib.hid (And.intro trivial hSG)
  have H6 := Lib.hid (And.intro trivial hSM)
  have L1 := floor_digs p rp
  have L2 := ceil_digs p rp
  rw [hf] at L1
  rw [hg] at L2
  have HL1 := Lib.hid L1
  have HL2 := Lib.hid L2
  have HRP := Lib.hid rp
  have HRM : Hid (RT 400 m) := Lib.hid (by rw [← hm]; exact rp.neg)
  have HRQ := Lib.hid (RT.val HO2.out)
  have HCC : Hid (rcmp p q = c) := Lib.hid (by rw [← hc]; unfold cmpVal; rw [HO1.out, HO2.out])
  clear rp hc hf hg hm hSF hSG hSM L1 L2 la lb
  go_enter Tryz.func6, Tryz.ntmps6
  go_wp2_with fail
  refine (short_any w.heap.size 0 2 [a, b] 2 rfl (by omega) true _ HC0 HSH).mono ?_
  rintro e w0 ⟨rfl, rfl⟩
  go_wp2_with fail
  refine (rrRead_any a (some p) _ HO1 za).mono ?_
  rintro e w1 ⟨n1, a1, l1, c1, n2, a2, l2, c2, rfl, hq1, hb⟩
  rw [show ((some p) : Option Rat).isSome = true from rfl]
  have hA := (Below.refl w1.heap.size w1).alloc (Nat.le_refl _) (.cells #[.bool n1, .slice a1 l1 c1, .bool n2, .slice a2 l2 c2] 30)
  have HW1 := Lib.hid ((HW0.out.trans (hb.mono HW0.out.size)).alloc (Nat.le_trans HW0.out.size hb.size) (.cells #[.bool n1, .slice a1 l1 c1, .bool n2, .slice a2 l2 c2] 30))
  have HX := Lib.hid ((hq1 p rfl).keep hA (Nat.le_refl _))
  have HBX := Lib.hid (B4.new w1 (.bool n1) (.slice a1 l1 c1) (.bool n2) (.slice a2 l2 c2) 30)
  have HGE : Hid (w1.heap.size = w1.heap.size) := Lib.hid rfl
  clear hb hA hq1
  go_wp2_with fail
  refine (rrRead_any b (some q) _ HO2 zb).mono ?_
  rintro e w2 ⟨n3, a3, l3, c3, n4, a4, l4, c4, rfl, hq3, hb⟩
  rw [show ((some q) : Option Rat).isSome = true from rfl]
  have hA := (Below.refl w2.heap.size w2).alloc (Nat.le_refl _) (.cells #[.bool n3, .slice a3 l3 c3, .bool n4, .slice a4 l4 c4] 30)
  have HW2 := Lib.hid ((HW1.out.trans (hb.mono HW1.out.size)).alloc (Nat.le_trans HW1.out.size hb.size) (.cells #[.bool n3, .slice a3 l3 c3, .bool n4, .slice a4 l4 c4] 30))
  have HY := Lib.hid ((hq3 q rfl).keep hA (Nat.le_refl _))
  have HBY := Lib.hid (B4.new w2 (.bool n3) (.slice a3 l3 c3) (.bool n4) (.slice a4 l4 c4) 30)
  have HX := Lib.hid ((HX.out.keep hb (Nat.le_refl _)).keep hA (Nat.le_refl _))
  have HBX := Lib.hid ((HBX.out.below hb HBX.out.lt).below hA (Nat.lt_of_lt_of_le HBX.out.lt hb.size))
  clear hb hA hq3
  obtain ⟨k0, k1, k2, k3⟩ := HBX.out.cell
  obtain ⟨k4, k5, k6, k7⟩ := HBY.out.cell
  go_wp2_with fail
  refine (rrCmp_any _ _ p q 400 c _ HX.out HY.out HRP.out HRQ.out (by omega) HCC).mono ?_
  rintro e w3 ⟨rfl, hb⟩
  have HW3 := Lib.hid (HW2.out.trans (hb.mono HW2.out.size))
  have HX := Lib.hid (HX.out.keep hb (Nat.le_refl _))
  have HBX := Lib.hid (HBX.out.below hb HBX.out.lt)
  clear hb k0 k1 k2 k3 k4 k5 k6 k7 HY HBY
  go_wp2_with fail
  refine (qCmp_any a b c _ HC za zb).mono ?_
  rintro e w4 ⟨rfl, hb⟩
  have HW4 := Lib.hid (HW3.out.trans (hb.mono HW3.out.size))
  have HX := Lib.hid (HX.out.keep hb (Nat.le_refl _))
  have HBX := Lib.hid (HBX.out.below hb HBX.out.lt)
  clear hb
  go_wp2_with fail
  refine (qFloor_any a SF 0 _ HF za (tab_keep HT.out HW4.out)).mono ?_
  rintro e w5 ⟨rfl, hb⟩
  have HW5 := Lib.hid (HW4.out.trans (hb.mono HW4.out.size))
  have HX := Lib.hid (HX.out.keep hb (Nat.le_refl _))
  have HBX := Lib.hid (HBX.out.below hb HBX.out.lt)
  clear hb
  go_wp2_with fail
  refine (qCeil_any a SG 0 _ HE za (tab_keep HT.out HW5.out)).mono ?_
  rintro e w6 ⟨rfl, hb⟩
  have HW6 := Lib.hid (HW5.out.trans (hb.mono HW5.out.size))
  have HX := Lib.hid (HX.out.keep hb (Nat.le_refl _))
  have HBX := Lib.hid (HBX.out.below hb HBX.out.lt)
  clear hb
  go_upto_region 14 with fail
  have hX0 := HX.out.keep (Below.refl _ _).drew (Nat.le_refl _)
  have hB0 := HBX.out.drew
  have hw0 := HW6.out.drew
  clear HX HBX HGE
  obtain ⟨k0_0, k0_1, k0_2, k0_3⟩ := hB0.cell
  go_region_held3 (fun w' => w'.cell? ⟨w1.heap.size, 0, none⟩ = some (.bool n1) ∧ w'.cell? ⟨w1.heap.size, 1, none⟩ = some (.slice a1 l1 c1) ∧ w'.cell? ⟨w1.heap.size, 2, none⟩ = some (.bool n2) ∧ w'.cell? ⟨w1.heap.size, 3, none⟩ = some (.slice a2 l2 c2)) (first | ((try dsimp only); (repeat' apply And.intro); all_goals with_reducible assumption) | go_keep) (first | (go_at_call 18; have hgd := hX7; clear hgd; refine (rrText_any _ m SM 400 _ (by exact ⟨_, _, _, _, _, _, _, _, rfl, hz1, hz2⟩) HRM.out (by omega) H6).mono ?_; rintro e u8 ⟨rfl, hb8⟩; have hX8 := hX7.keep hb8 (Nat.le_refl _); have hB8 := hB7.below hb8 hB7.lt; have hw8 := hw7.trans (hb8.mono hw7.size); clear hX7 k7_0 k7_1 k7_2 k7_3; obtain ⟨k8_0, k8_1, k8_2, k8_3⟩ := hB8.cell) | (go_at_call 38; have hgd := hX6; clear hgd; refine (rrNeg_any _ p m _ (by exact hX6) H3).mono ?_; rintro e u7 ⟨v7, rfl, hv7, hb7⟩; have hX7 := hX6.keep hb7 (Nat.le_refl _); have hB7 := hB6.below hb7 hB6.lt; have hw7 := hw6.trans (hb7.mono hw6.size); clear hX6 k6_0 k6_1 k6_2 k6_3; obtain ⟨k7_0, k7_1, k7_2, k7_3⟩ := hB7.cell; obtain ⟨m1, b1, j1, d1, m2, b2, j2, d2, rfl, hz1, hz2⟩ := hv7) | (go_at_call 35; have hgd := hX5; clear hgd; refine (qNeg_any a SM _ HN za (by exact tab_keep HT.out hw5)).mono ?_; rintro e u6 ⟨rfl, hb6⟩; have hX6 := hX5.keep hb6 (Nat.le_refl _); have hB6 := hB5.below hb6 hB5.lt; have hw6 := hw5.trans (hb6.mono hw5.size); clear hX5 k5_0 k5_1 k5_2 k5_3; obtain ⟨k6_0, k6_1, k6_2, k6_3⟩ := hB6.cell) | (go_at_call 14; have hgd := hX4; clear hgd; refine (rText_to _ g SG _ (by exact hv4) HL2.out H5).mono ?_; rintro e u5 ⟨rfl, hb5⟩; have hX5 := hX4.keep hb5 (Nat.le_refl _); have hB5 := hB4.below hb5 hB4.lt; have hw5 := hw4.trans (hb5.mono hw4.size); clear hX4 k4_0 k4_1 k4_2 k4_3; obtain ⟨k5_0, k5_1, k5_2, k5_3⟩ := hB5.cell) | (go_at_call 37; have hgd := hX3; clear hgd; refine (rrCeil_any _ p g 400 _ (by exact hX3) HRP.out (by omega) H2).mono ?_; rintro e u4 ⟨v4, rfl, hv4, hb4⟩; have hX4 := hX3.keep hb4 (Nat.le_refl _); have hB4 := hB3.below hb4 hB3.lt; have hw4 := hw3.trans (hb4.mono hw3.size); clear hX3 k3_0 k3_1 k3_2 k3_3; obtain ⟨k4_0, k4_1, k4_2, k4_3⟩ := hB4.cell; obtain ⟨p4, q4, r4, s4, rfl⟩ := hv4.any) | (go_at_call 14; have hgd := hX2; clear hgd; refine (rText_to _ f SF _ (by exact hv2) HL1.out H4).mono ?_; rintro e u3 ⟨rfl, hb3⟩; have hX3 := hX2.keep hb3 (Nat.le_refl _); have hB3 := hB2.below hb3 hB2.lt; have hw3 := hw2.trans (hb3.mono hw2.size); clear hX2 k2_0 k2_1 k2_2 k2_3; obtain ⟨k3_0, k3_1, k3_2, k3_3⟩ := hB3.cell) | (go_at_call 36; have hgd := hX1; clear hgd; refine (rrFloor_any _ p f 400 _ (by exact hX1) HRP.out (by omega) H1).mono ?_; rintro e u2 ⟨v2, rfl, hv2, hb2⟩; have hX2 := hX1.keep hb2 (Nat.le_refl _); have hB2 := hB1.below hb2 hB1.lt; have hw2 := hw1.trans (hb2.mono hw1.size); clear hX1 k1_0 k1_1 k1_2 k1_3; obtain ⟨k2_0, k2_1, k2_2, k2_3⟩ := hB2.cell; obtain ⟨p2, q2, r2, s2, rfl⟩ := hv2.any) | (go_at_call 10; have hgd := hX0; clear hgd; refine (qawake_any _ (by exact tab_keep HT.out hw0)).mono ?_; rintro e u1 ⟨rfl, hb1⟩; have hX1 := hX0.keep hb1 (Nat.le_refl _); have hB1 := hB0.below hb1 hB0.lt; have hw1 := hw0.trans (hb1.mono hw0.size); clear hX0 k0_0 k0_1 k0_2 k0_3; obtain ⟨k1_0, k1_1, k1_2, k1_3⟩ := hB1.cell))
  all_goals (go_wp2; go_ret; exact ⟨rfl, hw8⟩)

theorem law_RationalOrders (a b : ByteArray) (w : World) (htab : Tab w) :
    Calls Tryz.prog 6 #[.string a, .string b] w fun e w' => e = .returned (.bool true) ∧ Below w.heap.size w w' := by
  by_cases h : a.size ≤ 300 ∧ b.size ≤ 300
  · obtain ⟨la, lb⟩ := h
    cases h1 : rval a.data.toList with
    | none => exact orders_none a b _ w htab la lb (Lib.hid h1) (Lib.hid rfl)
    | some p =>
      cases h2 : rval b.data.toList with
      | none => exact orders_one a b p w htab la lb (Lib.hid h1) (Lib.hid h2)
      | some q => exact orders_two a b p q w htab la lb (Lib.hid h1) (Lib.hid h2)
  · exact orders_out a b w htab h

end Go.Proofs.YtpnofebhpeiepaaGreatDoor
