/- What the reference's Zero, Long, Text, Floor and Ceil do on rationals. -/
import Derived.Test.YtpnofebhpeiepaaGreatDoorT3
import Derived.Test.YtpnofebhpeiepaaGreatDoorQ15
import Derived.Laws.Concat
set_option linter.unusedVariables false
set_option linter.unusedSimpArgs false
namespace Go.Proofs.YtpnofebhpeiepaaGreatDoor
open Go.RowKit _root_.Go.Proofs.YtpnofebhpeiepaaGreatDoor.Nm

theorem long_canon (z : Int) : decide ((400 : Int) < ((dg z.natAbs).length : Nat)) = !canon (Lib.itoa z) := by
  rw [canon_itoa, ← Lib.decDigits_length]
  by_cases h0 : z.natAbs = 0
  · rw [h0, dg_zero]; decide +kernel
  · rw [dec_ds _ (by omega), List.length_map]
    unfold dg
    rw [List.length_reverse]
    by_cases h : (ds 10 z.natAbs).length ≤ 400
    · rw [decide_eq_true h, decide_eq_false (by omega)]; rfl
    · rw [decide_eq_false h, decide_eq_true (by omega)]; rfl

/-- Long, its answer known. -/
theorem Long_to (v : Value) (z : Int) (b : Bool) (w : World) (h : Ref w v z) (hb : Hid (True ∧ (!canon (Lib.itoa z)) = b)) :
    Calls Tryz.prog 76 #[v] w fun e w' => e = .returned (.bool b) ∧ Below w.heap.size w w' := by
  have := Long_any v z _ w h (Lib.hid ⟨trivial, rfl⟩)
  rwa [long_canon, hb.out.2] at this

set_option maxRecDepth 100000 in
set_option maxHeartbeats 1600000 in
theorem rrZero_any (v : Value) (q : Rat) (b : Bool) (w : World) (h : RRef w v q) (hb : Hid (True ∧ decide (q = 0) = b)) :
    Calls Tryz.prog 29 #[v] w fun e w' => e = .returned (.bool b) ∧ Below w.heap.size w w' := by
  obtain ⟨n1, a1, l1, c1, n2, a2, l2, c2, rfl, x1, x2⟩ := h
  have hA := (Below.refl w.heap.size w).alloc (Nat.le_refl _) (.cells #[.bool n1, .slice a1 l1 c1, .bool n2, .slice a2 l2 c2] 30)
  have HX := Lib.hid (x1.keep hA (Nat.le_refl _))
  have HW := Lib.hid hA
  have HB : Hid (True ∧ decide (q.num = 0) = b) := Lib.hid ⟨trivial, by rw [← hb.out.2]; exact decide_eq_decide.2 Rat.num_eq_zero⟩
  clear x1 x2 hA
  obtain ⟨k0, k1, k2, k3⟩ := (B4.new w (.bool n1) (.slice a1 l1 c1) (.bool n2) (.slice a2 l2 c2) 30).cell
  go_enter Tryz.func29, Tryz.ntmps29
  go_wp2_with fail
  refine (rzero_any _ q.num b _ HX.out HB).mono ?_
  rintro e w1 ⟨rfl, hb1⟩
  have HW1 := Lib.hid (HW.out.trans (hb1.mono HW.out.size))
  clear hb1 k0 k1 k2 k3
  go_wp2
  go_ret
  exact ⟨rfl, HW1.out⟩

set_option maxRecDepth 100000 in
set_option maxHeartbeats 1600000 in
theorem rrLong_any (v : Value) (q : Rat) (b : Bool) (w : World) (h : RRef w v q) (hb : Hid (True ∧ (!rshort q) = b)) :
    Calls Tryz.prog 43 #[v] w fun e w' => e = .returned (.bool b) ∧ Below w.heap.size w w' := by
  obtain ⟨n1, a1, l1, c1, n2, a2, l2, c2, rfl, x1, x2⟩ := h
  have hA := (Below.refl w.heap.size w).alloc (Nat.le_refl _) (.cells #[.bool n1, .slice a1 l1 c1, .bool n2, .slice a2 l2 c2] 30)
  have HX := Lib.hid (x1.keep hA (Nat.le_refl _))
  have HY := Lib.hid (x2.keep hA (Nat.le_refl _))
  have HW := Lib.hid hA
  have HB1 := Lib.hid (B4.new w (.bool n1) (.slice a1 l1 c1) (.bool n2) (.slice a2 l2 c2) 30)
  have hbb := hb.out.2
  unfold rshort at hbb
  clear x1 x2 hA hb
  obtain ⟨k0, k1, k2, k3⟩ := HB1.out.cell
  cases kn : canon (Lib.itoa q.num)
  · obtain rfl : b = true := by rw [← hbb, kn]; rfl
    have HC : Hid (True ∧ (!canon (Lib.itoa q.num)) = true) := Lib.hid ⟨trivial, by rw [kn]; rfl⟩
    clear kn hbb
    go_enter Tryz.func43, Tryz.ntmps43
    go_wp2_with fail
    refine (Long_to _ q.num true _ HX.out HC).mono ?_
    rintro e w1 ⟨rfl, hb1⟩
    have HW1 := Lib.hid (HW.out.trans (hb1.mono HW.out.size))
    clear hb1 k0 k1 k2 k3
    go_wp2
    go_ret
    exact ⟨rfl, HW1.out⟩
  · have HC : Hid (True ∧ (!canon (Lib.itoa q.num)) = false) := Lib.hid ⟨trivial, by rw [kn]; rfl⟩
    have HD : Hid (True ∧ (!canon (Lib.itoa (q.den : Int))) = b) := Lib.hid ⟨trivial, by rw [← hbb, kn]; rfl⟩
    clear kn hbb
    go_enter Tryz.func43, Tryz.ntmps43
    go_wp2_with fail
    refine (Long_to _ q.num false _ HX.out HC).mono ?_
    rintro e w1 ⟨rfl, hb1⟩
    have HW1 := Lib.hid (HW.out.trans (hb1.mono HW.out.size))
    have HY1 := Lib.hid (HY.out.keep hb1 (Nat.le_refl _))
    have HB2 := Lib.hid (HB1.out.below hb1 HB1.out.lt)
    clear hb1 k0 k1 k2 k3
    obtain ⟨k0, k1, k2, k3⟩ := HB2.out.cell
    go_wp2_with fail
    refine (Long_to _ (q.den : Int) b _ HY1.out HD).mono ?_
    rintro e w2 ⟨rfl, hb2⟩
    have HW2 := Lib.hid (HW1.out.trans (hb2.mono HW1.out.size))
    clear hb2 k0 k1 k2 k3
    go_wp2
    go_ret
    exact ⟨rfl, HW2.out⟩

theorem itoa_size {K : Nat} {z : Int} (h : Ten K z) (hK : K ≤ 1000) : (⟨(Lib.itoa z).toArray⟩ : ByteArray).size ≤ 1001 := by
  obtain ⟨k, h1, h2⟩ := h
  have hl : ∀ n : Nat, n < 10 ^ k → (Lib.decDigits n).length ≤ 1000 := by
    intro n hn
    by_cases h0 : n = 0
    · rw [h0]; decide +kernel
    · rw [dec_ds _ (by omega), List.length_map, List.length_reverse]
      exact Nat.le_trans (ds_length_le 10 (by omega) _ k hn) (by omega)
  rw [← len_size]
  simp only [List.toList_toArray]
  unfold Lib.itoa
  split
  · next hneg =>
    rw [List.length_cons]
    have := hl (-z).toNat (by omega)
    first | omega | (have := hl z.natAbs h2; omega)
  · have := hl z.toNat (by omega)
    omega

theorem sgn2_one (d : Nat) (hd : 0 < d) : sgn2 (d : Int) 1 = if d = 1 then 0 else 1 := by
  unfold sgn2
  by_cases h : d = 1
  · subst h; rfl
  · rw [if_neg (by omega), if_pos (by omega), if_neg h]

set_option maxRecDepth 100000 in
set_option maxHeartbeats 3200000 in
theorem rrText_any (v : Value) (q : Rat) (s : ByteArray) (K : Nat) (w : World) (h : RRef w v q) (hq : RT K q) (hK : K ≤ 1000) (hs : Hid (True ∧ s = ⟨(rt q).toArray⟩)) :
    Calls Tryz.prog 18 #[v] w fun e w' => e = .returned (.string s) ∧ Below w.heap.size w w' := by
  obtain ⟨n1, a1, l1, c1, n2, a2, l2, c2, rfl, x1, x2⟩ := h
  have hA := ((Below.refl w.heap.size w).alloc (Nat.le_refl _) (.cells #[.bool n1, .slice a1 l1 c1, .bool n2, .slice a2 l2 c2] 30)).drew
  have HX := Lib.hid (x1.keep hA (Nat.le_refl _))
  have HY := Lib.hid (x2.keep hA (Nat.le_refl _))
  have HW := Lib.hid hA
  have HB1 := Lib.hid (B4.new w (.bool n1) (.slice a1 l1 c1) (.bool n2) (.slice a2 l2 c2) 30).drew
  have HLN := Lib.hid (digs_ten hq.1 2000 (by omega))
  have HLD := Lib.hid (digs_ten hq.2 2000 (by omega))
  have HL1 : Hid ((dg (1 : Int).natAbs).length ≤ 2000) := Lib.hid (by rw [dg_one]; decide)
  obtain ⟨SN, hSN⟩ : ∃ u : ByteArray, u = ⟨(Lib.itoa q.num).toArray⟩ := ⟨_, rfl⟩
  obtain ⟨SD, hSD⟩ : ∃ u : ByteArray, u = ⟨(Lib.itoa (q.den : Int)).toArray⟩ := ⟨_, rfl⟩
  have HSN := Lib.hid (And.intro trivial hSN)
  have HSD := Lib.hid (And.intro trivial hSD)
  have hz1 : SN.size ≤ 1001 := by rw [hSN]; exact itoa_size hq.1 hK
  have hz2 : SD.size ≤ 1001 := by rw [hSD]; exact itoa_size hq.2 hK
  have hcat1 : ∀ W : World, (Op.stringOp .add SN ⟨#[47]⟩).run Tryz.prog W = .ok (.string (SN ++ (⟨#[47]⟩ : ByteArray))) W := fun W => run_string_add W _ _ (by omega) (by decide)
  have hcat2 : ∀ W : World, (Op.stringOp .add (SN ++ (⟨#[47]⟩ : ByteArray)) SD).run Tryz.prog W = .ok (.string (SN ++ (⟨#[47]⟩ : ByteArray) ++ SD)) W := fun W => run_string_add W _ _ (by rw [ByteArray.size_append]; have : (⟨#[47]⟩ : ByteArray).size = 1 := rfl; omega) (by omega)
  obtain ⟨c, hc⟩ : ∃ c, sgn2 (q.den : Int) 1 = c := ⟨_, rfl⟩
  have HC : Hid (True ∧ c = sgn2 (q.den : Int) 1) := Lib.hid ⟨trivial, hc.symm⟩
  obtain ⟨b0, hb0⟩ : ∃ b : Bool, (c == 0) = b := ⟨_, rfl⟩
  have hway : (b0 = true ∧ SN = s) ∨ (b0 = false ∧ (SN ++ (⟨#[47]⟩ : ByteArray)) ++ SD = s) := by
    rw [sgn2_one _ q.den_pos] at hc
    by_cases h1 : q.den = 1
    · rw [if_pos h1] at hc
      exact .inl ⟨by rw [← hb0, ← hc]; rfl, by rw [hs.out.2, rt_one q (by omega), hSN]⟩
    · rw [if_neg h1] at hc
      exact .inr ⟨by rw [← hb0, ← hc]; rfl, by rw [hs.out.2]; exact rt_more q (by omega) SN SD hSN hSD⟩
  have HWAY := Lib.hid hway
  clear x1 x2 hA hSN hSD hq hc hway hz1 hz2
  obtain ⟨k0, k1, k2, k3⟩ := HB1.out.cell
  go_enter Tryz.func18, Tryz.ntmps18
  go_wp2_with fail
  go_region_held3 (fun w' => w'.cell? ⟨w.heap.size, 0, none⟩ = some (.bool n1) ∧ w'.cell? ⟨w.heap.size, 1, none⟩ = some (.slice a1 l1 c1) ∧ w'.cell? ⟨w.heap.size, 2, none⟩ = some (.bool n2) ∧ w'.cell? ⟨w.heap.size, 3, none⟩ = some (.slice a2 l2 c2)) (first | ((try dsimp only); (repeat' apply And.intro); all_goals with_reducible assumption) | go_keep) (first | (go_at_call 50; refine (rCmp_any _ _ (q.den : Int) 1 c _ (by exact hY2) (by exact hv2) HLD.out HL1.out HC).mono ?_; rintro e w3 ⟨rfl, hb3⟩; have hB3 := hB2.below hb3 hB2.lt; have hX3 := hX2.keep hb3 (Nat.le_refl _); have hY3 := hY2.keep hb3 (Nat.le_refl _); have hw3 := hw2.trans (hb3.mono hw2.size); clear j0 j1 j2 j3; obtain ⟨m0, m1, m2, m3⟩ := hB3.cell) | (go_at_call 51; refine (rone_any _).mono ?_; rintro e w2 ⟨v2, rfl, hv2, hb2⟩; have hB2 := HB1.out.below hb2 HB1.out.lt; have hX2 := HX.out.keep hb2 (Nat.le_refl _); have hY2 := HY.out.keep hb2 (Nat.le_refl _); have hw2 := HW.out.trans (hb2.mono HW.out.size); obtain ⟨n3, a3, l3, c3, rfl⟩ := hv2.any; clear k0 k1 k2 k3; obtain ⟨j0, j1, j2, j3⟩ := hB2.cell))
  have HB3 := Lib.hid hB3
  have HX3 := Lib.hid hX3
  have HY3 := Lib.hid hY3
  have HW3 := Lib.hid hw3
  clear hB3 hX3 hY3 hw3 hB2 hX2 hY2 hw2 hv2 hb2 hb3 m0 m1 m2 m3 HB1 HX HY HW
  have hway2 := HWAY.out
  clear HWAY HL1 HC hs hb0
  rcases hway2 with ⟨rfl, rfl⟩ | ⟨rfl, hss⟩
  · obtain ⟨k0, k1, k2, k3⟩ := HB3.out.cell
    go_wp2_with fail
    refine (rText_to _ q.num SN _ HX3.out HLN.out HSN).mono ?_
    rintro e w4 ⟨rfl, hb4⟩
    have HW4 := Lib.hid (HW3.out.trans (hb4.mono HW3.out.size))
    clear hb4 k0 k1 k2 k3
    go_wp2
    go_ret
    exact ⟨rfl, HW4.out⟩
  · have HSS := Lib.hid (And.intro trivial hss)
    clear hss
    have HB4 := Lib.hid HB3.out.drew
    obtain ⟨k0, k1, k2, k3⟩ := HB4.out.cell
    go_wp2_with fail
    go_region_held3 (fun w' => w'.cell? ⟨w.heap.size, 0, none⟩ = some (.bool n1) ∧ w'.cell? ⟨w.heap.size, 1, none⟩ = some (.slice a1 l1 c1) ∧ w'.cell? ⟨w.heap.size, 2, none⟩ = some (.bool n2) ∧ w'.cell? ⟨w.heap.size, 3, none⟩ = some (.slice a2 l2 c2)) (first | ((try dsimp only); (repeat' apply And.intro); all_goals with_reducible assumption) | go_keep) (first | (go_at_call 14; have hgd := hw4; clear hgd; refine (rText_to _ (q.den : Int) SD _ (by exact hY4) HLD.out HSD).mono ?_; rintro e w5 ⟨rfl, hb5⟩; have hB5 := hB4.below hb5 hB4.lt; have hw5 := hw4.trans (hb5.mono hw4.size); clear j0 j1 j2 j3; obtain ⟨m0, m1, m2, m3⟩ := hB5.cell) | (go_at_call 14; refine (rText_to _ q.num SN _ (by exact HX3.out.keep (Below.refl _ _).drew (Nat.le_refl _)) HLN.out HSN).mono ?_; rintro e w4 ⟨rfl, hb4⟩; have hB4 := HB4.out.below hb4 HB4.out.lt; have hY4 := (HY3.out.keep (Below.refl _ _).drew (Nat.le_refl _)).keep hb4 (Nat.le_refl _); have hw4 := HW3.out.drew.trans (hb4.mono HW3.out.size); clear k0 k1 k2 k3; obtain ⟨j0, j1, j2, j3⟩ := hB4.cell))
    have HW5 := Lib.hid hw5
    clear hw5 hw4 hB5 hB4 hY4 hb4 hb5 m0 m1 m2 m3
    go_wp2
    go_ret
    exact ⟨by rw [← HSS.out.2]; rfl, HW5.out⟩

set_option maxRecDepth 100000 in
set_option maxHeartbeats 1600000 in
theorem rrFloor_any (v : Value) (q : Rat) (z : Int) (K : Nat) (w : World) (h : RRef w v q) (hq : RT K q) (hK : K ≤ 1000) (hz : Hid (q.floor = z)) :
    Calls Tryz.prog 36 #[v] w (RefPost z w) := by
  obtain ⟨n1, a1, l1, c1, n2, a2, l2, c2, rfl, x1, x2⟩ := h
  have hA := boxes2 w (.cells #[.bool n1, .slice a1 l1 c1, .bool n2, .slice a2 l2 c2] 30) (.cells #[.bool false, .slice none 0 0] 28)
  have HX := Lib.hid (x1.keep hA (Nat.le_refl _))
  have HY := Lib.hid (x2.keep hA (Nat.le_refl _))
  have HW := Lib.hid hA
  have HB1 := Lib.hid ((B4.new w (.bool n1) (.slice a1 l1 c1) (.bool n2) (.slice a2 l2 c2) 30).below ((Below.refl _ _).alloc (Nat.le_refl _) (.cells #[.bool false, .slice none 0 0] 28)) (by simp))
  have HB2 := Lib.hid (second_box w (.cells #[.bool n1, .slice a1 l1 c1, .bool n2, .slice a2 l2 c2] 30) (.bool false) (.slice none 0 0) 28 ())
  have HLN := Lib.hid (digs_ten hq.1 1000 (by omega))
  have HLD := Lib.hid (digs_ten hq.2 1000 (by omega))
  have HD0 : Hid ((q.den : Int) ≠ 0) := Lib.hid (by have := q.den_pos; omega)
  clear x1 x2 hA hq
  obtain ⟨k0, k1, k2, k3⟩ := HB1.out.cell
  go_enter Tryz.func36, Tryz.ntmps36
  go_wp2_with fail
  refine (rDivMod_any _ _ q.num q.den _ HX.out HY.out HLN.out HLD.out HD0.out).mono ?_
  rintro e w1 ⟨vq, vr, k, r, rfl, hvq, hvr, hdv, hb⟩
  obtain rfl : k = z := by rw [← hz.out, hdv.floor]
  obtain ⟨n3, a3, l3, c3, rfl⟩ := hvq.any
  obtain ⟨n4, a4, l4, c4, rfl⟩ := hvr.any
  have hA2 := boxes2 w1 (.cells #[.bool n3, .slice a3 l3 c3] 28) (.cells #[.bool n4, .slice a4 l4 c4] 28)
  have HV := Lib.hid (hvq.keep hA2 (Nat.le_refl _))
  have HW1 := Lib.hid ((HW.out.trans (hb.mono HW.out.size)).trans (hA2.mono (Nat.le_trans HW.out.size hb.size)))
  have hX := ((HB2.out.below hb HB2.out.lt).alloc (.cells #[.bool n3, .slice a3 l3 c3] 28)).alloc (.cells #[.bool n4, .slice a4 l4 c4] 28)
  have HXX := Lib.hid hX
  have hlt : w.heap.size + 1 < w1.heap.size := (HB2.out.below hb HB2.out.lt).lt
  have hY := (Bx.new w1 (.bool n3) (.slice a3 l3 c3) 28).alloc (.cells #[.bool n4, .slice a4 l4 c4] 28)
  clear k0 k1 k2 k3
  obtain ⟨e0, e1, e2, e3⟩ := hX.cell
  obtain ⟨y0, y1, _, _⟩ := hY.cell
  have ne1 : w1.heap.size ≠ w.heap.size + 1 := by omega
  clear hvq hvr hdv hb hA2 hX hY hlt
  go_wp2
  obtain ⟨l0, l1', _, _⟩ := (HXX.out.put (.bool n3) (.slice a3 l3 c3)).cell
  refine bodyPost_ret (v := .agg #[.bool n3, .slice a3 l3 c3]) (by simp only [results, Tryz.results36]; simp [go_sem, l0, l1']) rfl ?_
  exact RefPost.boxed HV.out HXX.out HW1.out (by omega)

set_option maxRecDepth 100000 in
set_option maxHeartbeats 1600000 in
theorem rrCeil_any (v : Value) (q : Rat) (z : Int) (K : Nat) (w : World) (h : RRef w v q) (hq : RT K q) (hK : K ≤ 1000) (hz : Hid (q.ceil = z)) :
    Calls Tryz.prog 37 #[v] w (RefPost z w) := by
  obtain ⟨n1, a1, l1, c1, n2, a2, l2, c2, rfl, x1, x2⟩ := h
  have hA := boxes2 w (.cells #[.bool n1, .slice a1 l1 c1, .bool n2, .slice a2 l2 c2] 30) (.cells #[.bool false, .slice none 0 0] 28)
  have HF : Hid (RRef ((w.alloc (.cells #[.bool n1, .slice a1 l1 c1, .bool n2, .slice a2 l2 c2] 30)).alloc (.cells #[.bool false, .slice none 0 0] 28)) (.agg #[.bool n1, .slice a1 l1 c1, .bool n2, .slice a2 l2 c2]) q) := Lib.hid ⟨_, _, _, _, _, _, _, _, rfl, x1.keep hA (Nat.le_refl _), x2.keep hA (Nat.le_refl _)⟩
  have HW := Lib.hid hA
  have HB1 := Lib.hid ((B4.new w (.bool n1) (.slice a1 l1 c1) (.bool n2) (.slice a2 l2 c2) 30).below ((Below.refl _ _).alloc (Nat.le_refl _) (.cells #[.bool false, .slice none 0 0] 28)) (by simp))
  have HB2 := Lib.hid (second_box w (.cells #[.bool n1, .slice a1 l1 c1, .bool n2, .slice a2 l2 c2] 30) (.bool false) (.slice none 0 0) 28 ())
  have HRQ := Lib.hid hq.neg
  have HFZ : Hid ((-q).floor = -z) := Lib.hid (by have h := hz.out; rw [Rat.ceil_eq_neg_floor_neg] at h; omega)
  clear x1 x2 hA hq
  obtain ⟨k0, k1, k2, k3⟩ := HB1.out.cell
  go_enter Tryz.func37, Tryz.ntmps37
  go_wp2_with fail
  refine (rrNeg_any _ q (-q) _ HF.out (Lib.hid rfl)).mono ?_
  rintro e w1 ⟨v1, rfl, hv1, hb1⟩
  have HV1 := Lib.hid hv1
  have HW1 := Lib.hid (HW.out.trans (hb1.mono HW.out.size))
  have HX1 := Lib.hid (HB2.out.below hb1 HB2.out.lt)
  obtain ⟨s1, s2, s3, s4, s5, s6, s7, s8, rfl, _, _⟩ := hv1
  clear hb1 k0 k1 k2 k3
  go_wp2_with fail
  refine (rrFloor_any _ (-q) (-z) K _ HV1.out HRQ.out hK HFZ).mono ?_
  rintro e w2 ⟨v2, rfl, hv2, hb2⟩
  have HV2 := Lib.hid hv2
  have HW2 := Lib.hid (HW1.out.trans (hb2.mono HW1.out.size))
  have HX2 := Lib.hid (HX1.out.below hb2 HX1.out.lt)
  obtain ⟨n3, a3, l3, c3, rfl⟩ := hv2.any
  clear hv2 hb2
  go_wp2_with fail
  refine (rNeg_any _ (-z) _ HV2.out).mono ?_
  rintro e w3 ⟨v3, rfl, hv3, hb3⟩
  rw [Int.neg_neg] at hv3
  have HV3 := Lib.hid hv3
  have HW3 := Lib.hid (HW2.out.trans (hb3.mono HW2.out.size))
  have HX3 := Lib.hid (HX2.out.below hb3 HX2.out.lt)
  obtain ⟨n4, a4, l4, c4, rfl⟩ := hv3.any
  clear hv3 hb3
  obtain ⟨e0, e1, e2, e3⟩ := HX3.out.cell
  go_wp2
  obtain ⟨l0, l1', _, _⟩ := (HX3.out.put (.bool n4) (.slice a4 l4 c4)).cell
  refine bodyPost_ret (v := .agg #[.bool n4, .slice a4 l4 c4]) (by simp only [results, Tryz.results37]; simp [go_sem, l0, l1']) rfl ?_
  exact RefPost.boxed HV3.out HX3.out HW3.out (by omega)


end Go.Proofs.YtpnofebhpeiepaaGreatDoor
