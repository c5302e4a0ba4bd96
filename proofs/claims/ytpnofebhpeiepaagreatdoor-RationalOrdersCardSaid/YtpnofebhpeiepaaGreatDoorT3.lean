/- What the reference's functions on rationals do. -/
import Derived.Test.YtpnofebhpeiepaaGreatDoorT2
set_option linter.unusedVariables false
set_option linter.unusedSimpArgs false
namespace Go.Proofs.YtpnofebhpeiepaaGreatDoor
open Go.RowKit _root_.Go.Proofs.YtpnofebhpeiepaaGreatDoor.Nm

/-- The memory of a function of two rationals: two boxes. -/
structure M2 (w W : World) (x0 x1 x2 x3 y0 y1 y2 y3 : Value) (p q : Rat) : Prop where
  below : Below w.heap.size w W
  far : w.heap.size + 2 ≤ W.heap.size
  b1 : B4 W w.heap.size x0 x1 x2 x3
  b2 : B4 W (w.heap.size + 1) y0 y1 y2 y3
  xn : Ref W (.agg #[x0, x1]) p.num
  xd : Ref W (.agg #[x2, x3]) p.den
  yn : Ref W (.agg #[y0, y1]) q.num
  yd : Ref W (.agg #[y2, y3]) q.den

section
variable {w W W' : World} {x0 x1 x2 x3 y0 y1 y2 y3 : Value} {p q : Rat} {B : Nat}
theorem M2.keep (h : M2 w W x0 x1 x2 x3 y0 y1 y2 y3 p q) (hb : Below B W W') (hB : W.heap.size ≤ B) : M2 w W' x0 x1 x2 x3 y0 y1 y2 y3 p q :=
  ⟨h.below.trans (hb.mono (Nat.le_trans h.below.size hB)), Nat.le_trans h.far hb.size, h.b1.below hb (Nat.lt_of_lt_of_le h.b1.lt hB), h.b2.below hb (Nat.lt_of_lt_of_le h.b2.lt hB), h.xn.keep hb hB, h.xd.keep hb hB, h.yn.keep hb hB, h.yd.keep hb hB⟩
theorem M2.cells (h : M2 w W x0 x1 x2 x3 y0 y1 y2 y3 p q) :
    W.cell? ⟨w.heap.size, 0, none⟩ = some x0 ∧ W.cell? ⟨w.heap.size, 1, none⟩ = some x1 ∧ W.cell? ⟨w.heap.size, 2, none⟩ = some x2 ∧ W.cell? ⟨w.heap.size, 3, none⟩ = some x3 ∧
    W.cell? ⟨w.heap.size + 1, 0, none⟩ = some y0 ∧ W.cell? ⟨w.heap.size + 1, 1, none⟩ = some y1 ∧ W.cell? ⟨w.heap.size + 1, 2, none⟩ = some y2 ∧ W.cell? ⟨w.heap.size + 1, 3, none⟩ = some y3 :=
  ⟨h.b1.cell.1, h.b1.cell.2.1, h.b1.cell.2.2.1, h.b1.cell.2.2.2, h.b2.cell.1, h.b2.cell.2.1, h.b2.cell.2.2.1, h.b2.cell.2.2.2⟩
theorem M2.start (w : World) (x0 x1 x2 x3 y0 y1 y2 y3 : Value) (p q : Rat) (T1 T2 : TypeId) (h1 : Ref w (.agg #[x0, x1]) p.num) (h2 : Ref w (.agg #[x2, x3]) p.den) (h3 : Ref w (.agg #[y0, y1]) q.num) (h4 : Ref w (.agg #[y2, y3]) q.den) :
    M2 w ((w.alloc (.cells #[x0, x1, x2, x3] T1)).alloc (.cells #[y0, y1, y2, y3] T2)) x0 x1 x2 x3 y0 y1 y2 y3 p q := by
  have hb := boxes2 w (.cells #[x0, x1, x2, x3] T1) (.cells #[y0, y1, y2, y3] T2)
  have e1 := B4.new w x0 x1 x2 x3 T1
  have e2 := B4.new (w.alloc (.cells #[x0, x1, x2, x3] T1)) y0 y1 y2 y3 T2
  rw [World.size_alloc] at e2
  exact ⟨hb, by simp, e1.below ((Below.refl _ _).alloc (Nat.le_refl _) _) (by simp), e2, h1.keep hb (Nat.le_refl _), h2.keep hb (Nat.le_refl _), h3.keep hb (Nat.le_refl _), h4.keep hb (Nat.le_refl _)⟩
end

/-- The result's box stands behind the two. -/
def Rb (w W : World) : Prop := B4 W (w.heap.size + 1 + 1) (.bool false) (.slice none 0 0) (.bool false) (.slice none 0 0)
theorem Rb.start (w : World) (o1 o2 : Obj) (T : TypeId) : Rb w (((w.alloc o1).alloc o2).alloc (.cells #[.bool false, .slice none 0 0, .bool false, .slice none 0 0] T)) := by
  have h := B4.new ((w.alloc o1).alloc o2) (.bool false) (.slice none 0 0) (.bool false) (.slice none 0 0) T
  rw [World.size_alloc, World.size_alloc] at h
  exact h
theorem Rb.keep {w W W' : World} {B : Nat} (h : Rb w W) (hb : Below B W W') (hB : W.heap.size ≤ B) : Rb w W' := B4.below h hb (Nat.lt_of_lt_of_le (B4.lt h) hB)
theorem cell_off4 {W : World} {b o g : Nat} {v x y z u : Value} (h : W.cell? ⟨b, o, none⟩ = some v) (hb : b ≠ g) : (set4 W g x y z u).cell? ⟨b, o, none⟩ = some v := ((set4_only W g x y z u).cell b o hb).trans h

set_option maxRecDepth 100000 in
set_option maxHeartbeats 6400000 in
theorem rrMul_any (v1 v2 : Value) (p q : Rat) (K : Nat) (r : Rat) (w : World) (h1 : RRef w v1 p) (h2 : RRef w v2 q) (hp : RT K p) (hq : RT K q) (hK : K ≤ 400) (hr : Hid (p * q = r)) :
    Calls Tryz.prog 28 #[v1, v2] w (RRPost r w) := by
  obtain ⟨n1, a1, l1, c1, n2, a2, l2, c2, rfl, x1, x2⟩ := h1
  obtain ⟨n3, a3, l3, c3, n4, a4, l4, c4, rfl, y1, y2⟩ := h2
  have hM : M2 w ((w.alloc (.cells #[.bool n1, .slice a1 l1 c1, .bool n2, .slice a2 l2 c2] 30)).alloc (.cells #[.bool n3, .slice a3 l3 c3, .bool n4, .slice a4 l4 c4] 30)) (.bool n1) (.slice a1 l1 c1) (.bool n2) (.slice a2 l2 c2) (.bool n3) (.slice a3 l3 c3) (.bool n4) (.slice a4 l4 c4) p q := M2.start w _ _ _ _ _ _ _ _ p q _ _ x1 x2 y1 y2
  have hA := (Below.refl ((w.alloc (.cells #[.bool n1, .slice a1 l1 c1, .bool n2, .slice a2 l2 c2] 30)).alloc (.cells #[.bool n3, .slice a3 l3 c3, .bool n4, .slice a4 l4 c4] 30)).heap.size ((w.alloc (.cells #[.bool n1, .slice a1 l1 c1, .bool n2, .slice a2 l2 c2] 30)).alloc (.cells #[.bool n3, .slice a3 l3 c3, .bool n4, .slice a4 l4 c4] 30))).alloc (Nat.le_refl _) (.cells #[.bool false, .slice none 0 0, .bool false, .slice none 0 0] 30)
  have HM0 := Lib.hid (hM.keep hA.drew (Nat.le_refl _))
  have HR0 : Hid (Rb w (((w.alloc (.cells #[.bool n1, .slice a1 l1 c1, .bool n2, .slice a2 l2 c2] 30)).alloc (.cells #[.bool n3, .slice a3 l3 c3, .bool n4, .slice a4 l4 c4] 30)).alloc (.cells #[.bool false, .slice none 0 0, .bool false, .slice none 0 0] 30)).drew) := Lib.hid (B4.drew (Rb.start w (.cells #[.bool n1, .slice a1 l1 c1, .bool n2, .slice a2 l2 c2] 30) (.cells #[.bool n3, .slice a3 l3 c3, .bool n4, .slice a4 l4 c4] 30) 30))
  have t1 := fun (z : Int) (h : Ten 801 z) => digs_ten h 1000 (by omega)
  have lp1 := digs_ten hp.1 1000 (by omega)
  have lp2 := digs_ten hp.2 1000 (by omega)
  have lq1 := digs_ten hq.1 1000 (by omega)
  have lq2 := digs_ten hq.2 1000 (by omega)
  have HL := Lib.hid (And.intro lp1 (And.intro lp2 (And.intro lq1 lq2)))
  have HNE : Hid ((p.den : Int) * q.den ≠ 0) := Lib.hid (den_ne p q)
  have HQ : Hid (Rat.divInt (p.num * q.num) (p.den * q.den) = r) := Lib.hid ((mul_div p q).trans hr.out)
  have HLN : Hid ((dg (p.num * q.num).natAbs).length ≤ 1000 ∧ (dg ((p.den : Int) * q.den).natAbs).length ≤ 1000) := Lib.hid ⟨(t1 _ (by have h := hp.1.mul hq.1; exact h.mono (by omega))), (t1 _ (by have h := hp.2.mul hq.2; exact h.mono (by omega)))⟩
  clear t1 lp1 lp2 lq1 lq2 hp hq hr
  clear hM x1 x2 y1 y2 hA
  obtain ⟨k0_0, k0_1, k0_2, k0_3, k0_4, k0_5, k0_6, k0_7⟩ := HM0.out.cells
  go_enter Tryz.func28, Tryz.ntmps28
  go_wp2_with fail
  go_region_held3 (fun w' => w'.cell? ⟨w.heap.size, 0, none⟩ = some (.bool n1) ∧ w'.cell? ⟨w.heap.size, 1, none⟩ = some (.slice a1 l1 c1) ∧ w'.cell? ⟨w.heap.size, 2, none⟩ = some (.bool n2) ∧ w'.cell? ⟨w.heap.size, 3, none⟩ = some (.slice a2 l2 c2) ∧ w'.cell? ⟨w.heap.size + 1, 0, none⟩ = some (.bool n3) ∧ w'.cell? ⟨w.heap.size + 1, 1, none⟩ = some (.slice a3 l3 c3) ∧ w'.cell? ⟨w.heap.size + 1, 2, none⟩ = some (.bool n4) ∧ w'.cell? ⟨w.heap.size + 1, 3, none⟩ = some (.slice a4 l4 c4)) (first | ((try dsimp only); (repeat' apply And.intro); all_goals with_reducible assumption) | ((try dsimp only); (repeat' apply And.intro); all_goals (repeat' (first | with_reducible assumption | refine cell_off4 ?_ ?_ | omega))) | go_keep) (first | (go_at_call 19; have hgd := hM2; clear hgd; refine (rNew_any _ _ (p.num * q.num) ((p.den : Int) * q.den) r _ (by exact (hv1.keep hb2 (Nat.le_refl _))) (by exact hv2) HNE.out HLN.out.1 HLN.out.2 HQ).mono ?_; rintro e w3 ⟨v3, rfl, hv3, hb3⟩; obtain ⟨m1, b1, j1, d1, m2, b2, j2, d2, rfl, hz1, hz2⟩ := hv3; have hM3 := hM2.keep hb3 (Nat.le_refl _); have hR3 := hR2.keep hb3 (Nat.le_refl _); clear k2_0 k2_1 k2_2 k2_3 k2_4 k2_5 k2_6 k2_7; obtain ⟨k3_0, k3_1, k3_2, k3_3, k3_4, k3_5, k3_6, k3_7⟩ := hM3.cells; obtain ⟨e0, e1, e2, e3⟩ := B4.cell hR3; obtain ⟨f0, f1, f2, f3⟩ := B4.froz hR3) | (go_at_call 65; have hgd := hM1; clear hgd; refine (rMul_any _ _ p.den q.den _ (by exact hM1.xd) (by exact hM1.yd) HL.out.2.1 HL.out.2.2.2).mono ?_; rintro e w2 ⟨v2, rfl, hv2, hb2⟩; obtain ⟨m2, b2, j2, d2, rfl⟩ := hv2.any; have hM2 := hM1.keep hb2 (Nat.le_refl _); have hR2 := hR1.keep hb2 (Nat.le_refl _); clear k1_0 k1_1 k1_2 k1_3 k1_4 k1_5 k1_6 k1_7; obtain ⟨k2_0, k2_1, k2_2, k2_3, k2_4, k2_5, k2_6, k2_7⟩ := hM2.cells) | (go_at_call 65; refine (rMul_any _ _ p.num q.num _ (by exact HM0.out.xn) (by exact HM0.out.yn) HL.out.1 HL.out.2.2.1).mono ?_; rintro e w1 ⟨v1, rfl, hv1, hb1⟩; obtain ⟨m1, b1, j1, d1, rfl⟩ := hv1.any; have hM1 := HM0.out.keep hb1 (Nat.le_refl _); have hR1 := HR0.out.keep hb1 (Nat.le_refl _); clear k0_0 k0_1 k0_2 k0_3 k0_4 k0_5 k0_6 k0_7; obtain ⟨k1_0, k1_1, k1_2, k1_3, k1_4, k1_5, k1_6, k1_7⟩ := hM1.cells))
  have HV : Hid (RRef w3 (.agg #[.bool m1, .slice b1 j1 d1, .bool m2, .slice b2 j2 d2]) r) := Lib.hid ⟨_, _, _, _, _, _, _, _, rfl, hz1, hz2⟩
  have HR := Lib.hid hR3
  have HW := Lib.hid hM3.below
  clear hz1 hz2 hR3 hM3 k3_0 k3_1 k3_2 k3_3 k3_4 k3_5 k3_6 k3_7 e0 e1 e2 e3 f0 f1 f2 f3 HM0 HR0
  go_wp2
  obtain ⟨l0, l1', l2', l3'⟩ := (B4.put HR.out (.bool m1) (.slice b1 j1 d1) (.bool m2) (.slice b2 j2 d2)).cell
  refine bodyPost_ret (v := .agg #[.bool m1, .slice b1 j1 d1, .bool m2, .slice b2 j2 d2]) (by simp only [results, Tryz.results28]; simp [go_sem, l0, l1', l2', l3']) rfl ?_
  exact RRPost.boxed HV.out HR.out HW.out (by omega) _ _ _ _

set_option maxRecDepth 100000 in
set_option maxHeartbeats 6400000 in
theorem rrDiv_any (v1 v2 : Value) (p q : Rat) (K : Nat) (r : Rat) (w : World) (h1 : RRef w v1 p) (h2 : RRef w v2 q) (hp : RT K p) (hq : RT K q) (hK : K ≤ 400) (hq0 : q ≠ 0) (hr : Hid (p / q = r)) :
    Calls Tryz.prog 30 #[v1, v2] w (RRPost r w) := by
  obtain ⟨n1, a1, l1, c1, n2, a2, l2, c2, rfl, x1, x2⟩ := h1
  obtain ⟨n3, a3, l3, c3, n4, a4, l4, c4, rfl, y1, y2⟩ := h2
  have hM : M2 w ((w.alloc (.cells #[.bool n1, .slice a1 l1 c1, .bool n2, .slice a2 l2 c2] 30)).alloc (.cells #[.bool n3, .slice a3 l3 c3, .bool n4, .slice a4 l4 c4] 30)) (.bool n1) (.slice a1 l1 c1) (.bool n2) (.slice a2 l2 c2) (.bool n3) (.slice a3 l3 c3) (.bool n4) (.slice a4 l4 c4) p q := M2.start w _ _ _ _ _ _ _ _ p q _ _ x1 x2 y1 y2
  have hA := (Below.refl ((w.alloc (.cells #[.bool n1, .slice a1 l1 c1, .bool n2, .slice a2 l2 c2] 30)).alloc (.cells #[.bool n3, .slice a3 l3 c3, .bool n4, .slice a4 l4 c4] 30)).heap.size ((w.alloc (.cells #[.bool n1, .slice a1 l1 c1, .bool n2, .slice a2 l2 c2] 30)).alloc (.cells #[.bool n3, .slice a3 l3 c3, .bool n4, .slice a4 l4 c4] 30))).alloc (Nat.le_refl _) (.cells #[.bool false, .slice none 0 0, .bool false, .slice none 0 0] 30)
  have HM0 := Lib.hid (hM.keep hA.drew (Nat.le_refl _))
  have HR0 : Hid (Rb w (((w.alloc (.cells #[.bool n1, .slice a1 l1 c1, .bool n2, .slice a2 l2 c2] 30)).alloc (.cells #[.bool n3, .slice a3 l3 c3, .bool n4, .slice a4 l4 c4] 30)).alloc (.cells #[.bool false, .slice none 0 0, .bool false, .slice none 0 0] 30)).drew) := Lib.hid (B4.drew (Rb.start w (.cells #[.bool n1, .slice a1 l1 c1, .bool n2, .slice a2 l2 c2] 30) (.cells #[.bool n3, .slice a3 l3 c3, .bool n4, .slice a4 l4 c4] 30) 30))
  have t1 := fun (z : Int) (h : Ten 801 z) => digs_ten h 1000 (by omega)
  have lp1 := digs_ten hp.1 1000 (by omega)
  have lp2 := digs_ten hp.2 1000 (by omega)
  have lq1 := digs_ten hq.1 1000 (by omega)
  have lq2 := digs_ten hq.2 1000 (by omega)
  have HL := Lib.hid (And.intro lp1 (And.intro lp2 (And.intro lq1 lq2)))
  have HNE : Hid ((p.den : Int) * q.num ≠ 0) := Lib.hid (gDiv_ne hq0)
  have HQ : Hid (Rat.divInt (p.num * q.den) (p.den * q.num) = r) := Lib.hid ((quo_div p q).trans hr.out)
  have HLN : Hid ((dg (p.num * (q.den : Int)).natAbs).length ≤ 1000 ∧ (dg ((p.den : Int) * q.num).natAbs).length ≤ 1000) := Lib.hid ⟨(t1 _ (by have h := hp.1.mul hq.2; exact h.mono (by omega))), (t1 _ (by have h := hp.2.mul hq.1; exact h.mono (by omega)))⟩
  clear t1 lp1 lp2 lq1 lq2 hp hq hr hq0
  clear hM x1 x2 y1 y2 hA
  obtain ⟨k0_0, k0_1, k0_2, k0_3, k0_4, k0_5, k0_6, k0_7⟩ := HM0.out.cells
  go_enter Tryz.func30, Tryz.ntmps30
  go_wp2_with fail
  go_region_held3 (fun w' => w'.cell? ⟨w.heap.size, 0, none⟩ = some (.bool n1) ∧ w'.cell? ⟨w.heap.size, 1, none⟩ = some (.slice a1 l1 c1) ∧ w'.cell? ⟨w.heap.size, 2, none⟩ = some (.bool n2) ∧ w'.cell? ⟨w.heap.size, 3, none⟩ = some (.slice a2 l2 c2) ∧ w'.cell? ⟨w.heap.size + 1, 0, none⟩ = some (.bool n3) ∧ w'.cell? ⟨w.heap.size + 1, 1, none⟩ = some (.slice a3 l3 c3) ∧ w'.cell? ⟨w.heap.size + 1, 2, none⟩ = some (.bool n4) ∧ w'.cell? ⟨w.heap.size + 1, 3, none⟩ = some (.slice a4 l4 c4)) (first | ((try dsimp only); (repeat' apply And.intro); all_goals with_reducible assumption) | ((try dsimp only); (repeat' apply And.intro); all_goals (repeat' (first | with_reducible assumption | refine cell_off4 ?_ ?_ | omega))) | go_keep) (first | (go_at_call 19; have hgd := hM2; clear hgd; refine (rNew_any _ _ (p.num * (q.den : Int)) ((p.den : Int) * q.num) r _ (by exact (hv1.keep hb2 (Nat.le_refl _))) (by exact hv2) HNE.out HLN.out.1 HLN.out.2 HQ).mono ?_; rintro e w3 ⟨v3, rfl, hv3, hb3⟩; obtain ⟨m1, b1, j1, d1, m2, b2, j2, d2, rfl, hz1, hz2⟩ := hv3; have hM3 := hM2.keep hb3 (Nat.le_refl _); have hR3 := hR2.keep hb3 (Nat.le_refl _); clear k2_0 k2_1 k2_2 k2_3 k2_4 k2_5 k2_6 k2_7; obtain ⟨k3_0, k3_1, k3_2, k3_3, k3_4, k3_5, k3_6, k3_7⟩ := hM3.cells; obtain ⟨e0, e1, e2, e3⟩ := B4.cell hR3; obtain ⟨f0, f1, f2, f3⟩ := B4.froz hR3) | (go_at_call 65; have hgd := hM1; clear hgd; refine (rMul_any _ _ p.den q.num _ (by exact hM1.xd) (by exact hM1.yn) HL.out.2.1 HL.out.2.2.1).mono ?_; rintro e w2 ⟨v2, rfl, hv2, hb2⟩; obtain ⟨m2, b2, j2, d2, rfl⟩ := hv2.any; have hM2 := hM1.keep hb2 (Nat.le_refl _); have hR2 := hR1.keep hb2 (Nat.le_refl _); clear k1_0 k1_1 k1_2 k1_3 k1_4 k1_5 k1_6 k1_7; obtain ⟨k2_0, k2_1, k2_2, k2_3, k2_4, k2_5, k2_6, k2_7⟩ := hM2.cells) | (go_at_call 65; refine (rMul_any _ _ p.num q.den _ (by exact HM0.out.xn) (by exact HM0.out.yd) HL.out.1 HL.out.2.2.2).mono ?_; rintro e w1 ⟨v1, rfl, hv1, hb1⟩; obtain ⟨m1, b1, j1, d1, rfl⟩ := hv1.any; have hM1 := HM0.out.keep hb1 (Nat.le_refl _); have hR1 := HR0.out.keep hb1 (Nat.le_refl _); clear k0_0 k0_1 k0_2 k0_3 k0_4 k0_5 k0_6 k0_7; obtain ⟨k1_0, k1_1, k1_2, k1_3, k1_4, k1_5, k1_6, k1_7⟩ := hM1.cells))
  have HV : Hid (RRef w3 (.agg #[.bool m1, .slice b1 j1 d1, .bool m2, .slice b2 j2 d2]) r) := Lib.hid ⟨_, _, _, _, _, _, _, _, rfl, hz1, hz2⟩
  have HR := Lib.hid hR3
  have HW := Lib.hid hM3.below
  clear hz1 hz2 hR3 hM3 k3_0 k3_1 k3_2 k3_3 k3_4 k3_5 k3_6 k3_7 e0 e1 e2 e3 f0 f1 f2 f3 HM0 HR0
  go_wp2
  obtain ⟨l0, l1', l2', l3'⟩ := (B4.put HR.out (.bool m1) (.slice b1 j1 d1) (.bool m2) (.slice b2 j2 d2)).cell
  refine bodyPost_ret (v := .agg #[.bool m1, .slice b1 j1 d1, .bool m2, .slice b2 j2 d2]) (by simp only [results, Tryz.results30]; simp [go_sem, l0, l1', l2', l3']) rfl ?_
  exact RRPost.boxed HV.out HR.out HW.out (by omega) _ _ _ _

set_option maxRecDepth 100000 in
set_option maxHeartbeats 6400000 in
theorem rrAdd_any (v1 v2 : Value) (p q : Rat) (K : Nat) (r : Rat) (w : World) (h1 : RRef w v1 p) (h2 : RRef w v2 q) (hp : RT K p) (hq : RT K q) (hK : K ≤ 400) (hr : Hid (p + q = r)) :
    Calls Tryz.prog 26 #[v1, v2] w (RRPost r w) := by
  obtain ⟨n1, a1, l1, c1, n2, a2, l2, c2, rfl, x1, x2⟩ := h1
  obtain ⟨n3, a3, l3, c3, n4, a4, l4, c4, rfl, y1, y2⟩ := h2
  have hM : M2 w ((w.alloc (.cells #[.bool n1, .slice a1 l1 c1, .bool n2, .slice a2 l2 c2] 30)).alloc (.cells #[.bool n3, .slice a3 l3 c3, .bool n4, .slice a4 l4 c4] 30)) (.bool n1) (.slice a1 l1 c1) (.bool n2) (.slice a2 l2 c2) (.bool n3) (.slice a3 l3 c3) (.bool n4) (.slice a4 l4 c4) p q := M2.start w _ _ _ _ _ _ _ _ p q _ _ x1 x2 y1 y2
  have hA := (Below.refl ((w.alloc (.cells #[.bool n1, .slice a1 l1 c1, .bool n2, .slice a2 l2 c2] 30)).alloc (.cells #[.bool n3, .slice a3 l3 c3, .bool n4, .slice a4 l4 c4] 30)).heap.size ((w.alloc (.cells #[.bool n1, .slice a1 l1 c1, .bool n2, .slice a2 l2 c2] 30)).alloc (.cells #[.bool n3, .slice a3 l3 c3, .bool n4, .slice a4 l4 c4] 30))).alloc (Nat.le_refl _) (.cells #[.bool false, .slice none 0 0, .bool false, .slice none 0 0] 30)
  have HM0 := Lib.hid (hM.keep hA.drew (Nat.le_refl _))
  have HR0 : Hid (Rb w (((w.alloc (.cells #[.bool n1, .slice a1 l1 c1, .bool n2, .slice a2 l2 c2] 30)).alloc (.cells #[.bool n3, .slice a3 l3 c3, .bool n4, .slice a4 l4 c4] 30)).alloc (.cells #[.bool false, .slice none 0 0, .bool false, .slice none 0 0] 30)).drew) := Lib.hid (B4.drew (Rb.start w (.cells #[.bool n1, .slice a1 l1 c1, .bool n2, .slice a2 l2 c2] 30) (.cells #[.bool n3, .slice a3 l3 c3, .bool n4, .slice a4 l4 c4] 30) 30))
  have t1 := fun (z : Int) (h : Ten 801 z) => digs_ten h 1000 (by omega)
  have lp1 := digs_ten hp.1 1000 (by omega)
  have lp2 := digs_ten hp.2 1000 (by omega)
  have lq1 := digs_ten hq.1 1000 (by omega)
  have lq2 := digs_ten hq.2 1000 (by omega)
  have HL := Lib.hid (And.intro lp1 (And.intro lp2 (And.intro lq1 lq2)))
  have HNE : Hid ((p.den : Int) * q.den ≠ 0) := Lib.hid (den_ne p q)
  have HQ : Hid (Rat.divInt (p.num * q.den + q.num * p.den) (p.den * q.den) = r) := Lib.hid ((sum_div p q).trans hr.out)
  have HLN : Hid ((dg (p.num * (q.den : Int) + q.num * (p.den : Int)).natAbs).length ≤ 1000 ∧ (dg ((p.den : Int) * q.den).natAbs).length ≤ 1000) := Lib.hid ⟨(t1 _ (by have h := (hp.1.mul hq.2).add (hq.1.mul hp.2); exact h.mono (by omega))), (t1 _ (by have h := hp.2.mul hq.2; exact h.mono (by omega)))⟩
  have HLS : Hid ((dg (p.num * (q.den : Int)).natAbs).length ≤ 2000 ∧ (dg (q.num * (p.den : Int)).natAbs).length ≤ 2000) := Lib.hid ⟨Nat.le_trans (t1 _ (by have h := hp.1.mul hq.2; exact h.mono (by omega))) (by omega), Nat.le_trans (t1 _ (by have h := hq.1.mul hp.2; exact h.mono (by omega))) (by omega)⟩
  clear t1 lp1 lp2 lq1 lq2 hp hq hr
  clear hM x1 x2 y1 y2 hA
  obtain ⟨k0_0, k0_1, k0_2, k0_3, k0_4, k0_5, k0_6, k0_7⟩ := HM0.out.cells
  go_enter Tryz.func26, Tryz.ntmps26
  go_wp2_with fail
  go_region_held3 (fun w' => w'.cell? ⟨w.heap.size, 0, none⟩ = some (.bool n1) ∧ w'.cell? ⟨w.heap.size, 1, none⟩ = some (.slice a1 l1 c1) ∧ w'.cell? ⟨w.heap.size, 2, none⟩ = some (.bool n2) ∧ w'.cell? ⟨w.heap.size, 3, none⟩ = some (.slice a2 l2 c2) ∧ w'.cell? ⟨w.heap.size + 1, 0, none⟩ = some (.bool n3) ∧ w'.cell? ⟨w.heap.size + 1, 1, none⟩ = some (.slice a3 l3 c3) ∧ w'.cell? ⟨w.heap.size + 1, 2, none⟩ = some (.bool n4) ∧ w'.cell? ⟨w.heap.size + 1, 3, none⟩ = some (.slice a4 l4 c4)) (first | ((try dsimp only); (repeat' apply And.intro); all_goals with_reducible assumption) | ((try dsimp only); (repeat' apply And.intro); all_goals (repeat' (first | with_reducible assumption | refine cell_off4 ?_ ?_ | omega))) | go_keep) (first | (go_at_call 19; have hgd := hM4; clear hgd; refine (rNew_any _ _ (p.num * (q.den : Int) + q.num * (p.den : Int)) ((p.den : Int) * q.den) r _ (by exact (hv3.keep hb4 (Nat.le_refl _))) (by exact hv4) HNE.out HLN.out.1 HLN.out.2 HQ).mono ?_; rintro e w5 ⟨v5, rfl, hv5, hb5⟩; obtain ⟨m1, b1, j1, d1, m2, b2, j2, d2, rfl, hz1, hz2⟩ := hv5; have hM5 := hM4.keep hb5 (Nat.le_refl _); have hR5 := hR4.keep hb5 (Nat.le_refl _); clear k4_0 k4_1 k4_2 k4_3 k4_4 k4_5 k4_6 k4_7; obtain ⟨k5_0, k5_1, k5_2, k5_3, k5_4, k5_5, k5_6, k5_7⟩ := hM5.cells; obtain ⟨e0, e1, e2, e3⟩ := B4.cell hR5; obtain ⟨f0, f1, f2, f3⟩ := B4.froz hR5) | (go_at_call 65; have hgd := hM3; clear hgd; refine (rMul_any _ _ p.den q.den _ (by exact hM3.xd) (by exact hM3.yd) HL.out.2.1 HL.out.2.2.2).mono ?_; rintro e w4 ⟨v4, rfl, hv4, hb4⟩; obtain ⟨m4, b4, j4, d4, rfl⟩ := hv4.any; have hM4 := hM3.keep hb4 (Nat.le_refl _); have hR4 := hR3.keep hb4 (Nat.le_refl _); clear k3_0 k3_1 k3_2 k3_3 k3_4 k3_5 k3_6 k3_7; obtain ⟨k4_0, k4_1, k4_2, k4_3, k4_4, k4_5, k4_6, k4_7⟩ := hM4.cells) | (go_at_call 64; have hgd := hM2; clear hgd; refine (rAdd_any _ _ (p.num * (q.den : Int)) (q.num * (p.den : Int)) _ (by exact (hv1.keep hb2 (Nat.le_refl _))) (by exact hv2) HLS.out.1 HLS.out.2).mono ?_; rintro e w3 ⟨v3, rfl, hv3, hb3⟩; obtain ⟨m3, b3, j3, d3, rfl⟩ := hv3.any; have hM3 := hM2.keep hb3 (Nat.le_refl _); have hR3 := hR2.keep hb3 (Nat.le_refl _); clear k2_0 k2_1 k2_2 k2_3 k2_4 k2_5 k2_6 k2_7; obtain ⟨k3_0, k3_1, k3_2, k3_3, k3_4, k3_5, k3_6, k3_7⟩ := hM3.cells) | (go_at_call 65; have hgd := hM1; clear hgd; refine (rMul_any _ _ q.num p.den _ (by exact hM1.yn) (by exact hM1.xd) HL.out.2.2.1 HL.out.2.1).mono ?_; rintro e w2 ⟨v2, rfl, hv2, hb2⟩; obtain ⟨m2, b2, j2, d2, rfl⟩ := hv2.any; have hM2 := hM1.keep hb2 (Nat.le_refl _); have hR2 := hR1.keep hb2 (Nat.le_refl _); clear k1_0 k1_1 k1_2 k1_3 k1_4 k1_5 k1_6 k1_7; obtain ⟨k2_0, k2_1, k2_2, k2_3, k2_4, k2_5, k2_6, k2_7⟩ := hM2.cells) | (go_at_call 65; refine (rMul_any _ _ p.num q.den _ (by exact HM0.out.xn) (by exact HM0.out.yd) HL.out.1 HL.out.2.2.2).mono ?_; rintro e w1 ⟨v1, rfl, hv1, hb1⟩; obtain ⟨m1, b1, j1, d1, rfl⟩ := hv1.any; have hM1 := HM0.out.keep hb1 (Nat.le_refl _); have hR1 := HR0.out.keep hb1 (Nat.le_refl _); clear k0_0 k0_1 k0_2 k0_3 k0_4 k0_5 k0_6 k0_7; obtain ⟨k1_0, k1_1, k1_2, k1_3, k1_4, k1_5, k1_6, k1_7⟩ := hM1.cells))
  have HV : Hid (RRef w5 (.agg #[.bool m1, .slice b1 j1 d1, .bool m2, .slice b2 j2 d2]) r) := Lib.hid ⟨_, _, _, _, _, _, _, _, rfl, hz1, hz2⟩
  have HR := Lib.hid hR5
  have HW := Lib.hid hM5.below
  clear hz1 hz2 hR5 hM5 k5_0 k5_1 k5_2 k5_3 k5_4 k5_5 k5_6 k5_7 e0 e1 e2 e3 f0 f1 f2 f3 HM0 HR0
  go_wp2
  obtain ⟨l0, l1', l2', l3'⟩ := (B4.put HR.out (.bool m1) (.slice b1 j1 d1) (.bool m2) (.slice b2 j2 d2)).cell
  refine bodyPost_ret (v := .agg #[.bool m1, .slice b1 j1 d1, .bool m2, .slice b2 j2 d2]) (by simp only [results, Tryz.results26]; simp [go_sem, l0, l1', l2', l3']) rfl ?_
  exact RRPost.boxed HV.out HR.out HW.out (by omega) _ _ _ _

set_option maxRecDepth 100000 in
set_option maxHeartbeats 6400000 in
theorem rrCmp_any (v1 v2 : Value) (p q : Rat) (K : Nat) (c : Int) (w : World) (h1 : RRef w v1 p) (h2 : RRef w v2 q) (hp : RT K p) (hq : RT K q) (hK : K ≤ 400) (hc : Hid (rcmp p q = c)) :
    Calls Tryz.prog 31 #[v1, v2] w fun e w' => e = .returned (.int .i64 c) ∧ Below w.heap.size w w' := by
  obtain ⟨n1, a1, l1, c1, n2, a2, l2, c2, rfl, x1, x2⟩ := h1
  obtain ⟨n3, a3, l3, c3, n4, a4, l4, c4, rfl, y1, y2⟩ := h2
  have hM : M2 w ((w.alloc (.cells #[.bool n1, .slice a1 l1 c1, .bool n2, .slice a2 l2 c2] 30)).alloc (.cells #[.bool n3, .slice a3 l3 c3, .bool n4, .slice a4 l4 c4] 30)) (.bool n1) (.slice a1 l1 c1) (.bool n2) (.slice a2 l2 c2) (.bool n3) (.slice a3 l3 c3) (.bool n4) (.slice a4 l4 c4) p q := M2.start w _ _ _ _ _ _ _ _ p q _ _ x1 x2 y1 y2
  have HM0 := Lib.hid (hM.keep (Below.refl _ _).drew (Nat.le_refl _))
  have t1 := fun (z : Int) (h : Ten 801 z) => digs_ten h 1000 (by omega)
  have lp1 := digs_ten hp.1 1000 (by omega)
  have lp2 := digs_ten hp.2 1000 (by omega)
  have lq1 := digs_ten hq.1 1000 (by omega)
  have lq2 := digs_ten hq.2 1000 (by omega)
  have HL := Lib.hid (And.intro lp1 (And.intro lp2 (And.intro lq1 lq2)))
  have HC : Hid (True ∧ c = sgn2 (p.num * q.den) (q.num * p.den)) := Lib.hid ⟨trivial, by rw [← hc.out]; rfl⟩
  have HLS : Hid ((dg (p.num * (q.den : Int)).natAbs).length ≤ 2000 ∧ (dg (q.num * (p.den : Int)).natAbs).length ≤ 2000) := Lib.hid ⟨Nat.le_trans (t1 _ (by have h := hp.1.mul hq.2; exact h.mono (by omega))) (by omega), Nat.le_trans (t1 _ (by have h := hq.1.mul hp.2; exact h.mono (by omega))) (by omega)⟩
  clear t1 lp1 lp2 lq1 lq2 hp hq hc
  clear hM x1 x2 y1 y2
  obtain ⟨k0_0, k0_1, k0_2, k0_3, k0_4, k0_5, k0_6, k0_7⟩ := HM0.out.cells
  go_enter Tryz.func31, Tryz.ntmps31
  go_wp2_with fail
  go_region_held3 (fun w' => w'.cell? ⟨w.heap.size, 0, none⟩ = some (.bool n1) ∧ w'.cell? ⟨w.heap.size, 1, none⟩ = some (.slice a1 l1 c1) ∧ w'.cell? ⟨w.heap.size, 2, none⟩ = some (.bool n2) ∧ w'.cell? ⟨w.heap.size, 3, none⟩ = some (.slice a2 l2 c2) ∧ w'.cell? ⟨w.heap.size + 1, 0, none⟩ = some (.bool n3) ∧ w'.cell? ⟨w.heap.size + 1, 1, none⟩ = some (.slice a3 l3 c3) ∧ w'.cell? ⟨w.heap.size + 1, 2, none⟩ = some (.bool n4) ∧ w'.cell? ⟨w.heap.size + 1, 3, none⟩ = some (.slice a4 l4 c4)) (first | ((try dsimp only); (repeat' apply And.intro); all_goals with_reducible assumption) | ((try dsimp only); (repeat' apply And.intro); all_goals (repeat' (first | with_reducible assumption | refine cell_off4 ?_ ?_ | omega))) | go_keep) (first | (go_at_call 50; have hgd := hM2; clear hgd; refine (rCmp_any _ _ (p.num * (q.den : Int)) (q.num * (p.den : Int)) c _ (by exact (hv1.keep hb2 (Nat.le_refl _))) (by exact hv2) HLS.out.1 HLS.out.2 HC).mono ?_; rintro e w3 ⟨rfl, hb3⟩; have hM3 := hM2.keep hb3 (Nat.le_refl _); clear k2_0 k2_1 k2_2 k2_3 k2_4 k2_5 k2_6 k2_7; obtain ⟨k3_0, k3_1, k3_2, k3_3, k3_4, k3_5, k3_6, k3_7⟩ := hM3.cells) | (go_at_call 65; have hgd := hM1; clear hgd; refine (rMul_any _ _ q.num p.den _ (by exact hM1.yn) (by exact hM1.xd) HL.out.2.2.1 HL.out.2.1).mono ?_; rintro e w2 ⟨v2, rfl, hv2, hb2⟩; obtain ⟨m2, b2, j2, d2, rfl⟩ := hv2.any; have hM2 := hM1.keep hb2 (Nat.le_refl _); clear k1_0 k1_1 k1_2 k1_3 k1_4 k1_5 k1_6 k1_7; obtain ⟨k2_0, k2_1, k2_2, k2_3, k2_4, k2_5, k2_6, k2_7⟩ := hM2.cells) | (go_at_call 65; refine (rMul_any _ _ p.num q.den _ (by exact HM0.out.xn) (by exact HM0.out.yd) HL.out.1 HL.out.2.2.2).mono ?_; rintro e w1 ⟨v1, rfl, hv1, hb1⟩; obtain ⟨m1, b1, j1, d1, rfl⟩ := hv1.any; have hM1 := HM0.out.keep hb1 (Nat.le_refl _); clear k0_0 k0_1 k0_2 k0_3 k0_4 k0_5 k0_6 k0_7; obtain ⟨k1_0, k1_1, k1_2, k1_3, k1_4, k1_5, k1_6, k1_7⟩ := hM1.cells))
  have HW := Lib.hid hM3.below
  clear hM3 k3_0 k3_1 k3_2 k3_3 k3_4 k3_5 k3_6 k3_7 HM0
  go_wp2
  go_ret
  exact ⟨rfl, HW.out⟩
set_option maxRecDepth 100000 in
set_option maxHeartbeats 6400000 in
theorem rrNeg_any (v1 : Value) (p r : Rat) (w : World) (h1 : RRef w v1 p) (hr : Hid (-p = r)) :
    Calls Tryz.prog 38 #[v1] w (RRPost r w) := by
  obtain ⟨n1, a1, l1, c1, n2, a2, l2, c2, rfl, x1, x2⟩ := h1
  have hA := (boxes2 w (.cells #[.bool n1, .slice a1 l1 c1, .bool n2, .slice a2 l2 c2] 30) (.cells #[.bool false, .slice none 0 0, .bool false, .slice none 0 0] 30)).drew
  have HX1 := Lib.hid (x1.keep hA (Nat.le_refl _))
  have HX2 := Lib.hid (x2.keep hA (Nat.le_refl _))
  have HW0 := Lib.hid hA
  have HB1 := Lib.hid ((B4.new w (.bool n1) (.slice a1 l1 c1) (.bool n2) (.slice a2 l2 c2) 30).below ((Below.refl _ _).alloc (Nat.le_refl _) (.cells #[.bool false, .slice none 0 0, .bool false, .slice none 0 0] 30)) (by simp)).drew
  have hb2 := (B4.new (w.alloc (.cells #[.bool n1, .slice a1 l1 c1, .bool n2, .slice a2 l2 c2] 30)) (.bool false) (.slice none 0 0) (.bool false) (.slice none 0 0) 30).drew
  rw [World.size_alloc] at hb2
  have HB2 := Lib.hid hb2
  have HQ : Hid (-p.num = r.num ∧ ((p.den : Nat) : Int) = r.den) := Lib.hid (by rw [← hr.out]; exact ⟨rfl, rfl⟩)
  clear x1 x2 hA hb2
  obtain ⟨k0, k1, k2, k3⟩ := HB1.out.cell
  go_enter Tryz.func38, Tryz.ntmps38
  go_wp2_with fail
  go_region_held3 (fun w' => w'.cell? ⟨w.heap.size, 0, none⟩ = some (.bool n1) ∧ w'.cell? ⟨w.heap.size, 1, none⟩ = some (.slice a1 l1 c1) ∧ w'.cell? ⟨w.heap.size, 2, none⟩ = some (.bool n2) ∧ w'.cell? ⟨w.heap.size, 3, none⟩ = some (.slice a2 l2 c2)) (first | ((try dsimp only); (repeat' apply And.intro); all_goals with_reducible assumption) | ((try dsimp only); (repeat' apply And.intro); all_goals (repeat' (first | with_reducible assumption | refine cell_off4 ?_ ?_ | omega))) | go_keep) ((go_at_call 52; refine (rNeg_any _ p.num _ (by exact HX1.out)).mono ?_; rintro e w2 ⟨v2, rfl, hv2, hb2⟩; rw [HQ.out.1] at hv2; have hB1 := HB1.out.below hb2 HB1.out.lt; have hB2 := HB2.out.below hb2 HB2.out.lt; have hD2 := HX2.out.keep hb2 (Nat.le_refl _); rw [HQ.out.2] at hD2; have hW2 := HW0.out.trans (hb2.mono HW0.out.size); obtain ⟨m1, b1, j1, d1, rfl⟩ := hv2.any; clear k0 k1 k2 k3; obtain ⟨k0, k1, k2, k3⟩ := hB1.cell; obtain ⟨e0, e1, e2, e3⟩ := hB2.cell; obtain ⟨f0, f1, f2, f3⟩ := hB2.froz))
  have HV : Hid (RRef w2 (.agg #[.bool m1, .slice b1 j1 d1, .bool n2, .slice a2 l2 c2]) r) := Lib.hid ⟨_, _, _, _, _, _, _, _, rfl, hv2, hD2⟩
  have HR := Lib.hid hB2
  have HW := Lib.hid hW2
  clear hv2 hD2 hB1 hB2 hW2 hb2 k0 k1 k2 k3 e0 e1 e2 e3 f0 f1 f2 f3 HX1 HX2 HB1 HB2 HW0
  go_wp2
  obtain ⟨l0, l1', l2', l3'⟩ := (HR.out.put (.bool m1) (.slice b1 j1 d1) (.bool n2) (.slice a2 l2 c2)).cell
  refine bodyPost_ret (v := .agg #[.bool m1, .slice b1 j1 d1, .bool n2, .slice a2 l2 c2]) (by simp only [results, Tryz.results38]; simp [go_sem, l0, l1', l2', l3']) rfl ?_
  exact RRPost.boxed HV.out HR.out HW.out (by omega) _ _ _ _

set_option maxRecDepth 100000 in
set_option maxHeartbeats 6400000 in
theorem rrSub_any (v1 v2 : Value) (p q : Rat) (K : Nat) (r : Rat) (w : World) (h1 : RRef w v1 p) (h2 : RRef w v2 q) (hp : RT K p) (hq : RT K q) (hK : K ≤ 400) (hr : Hid (p - q = r)) :
    Calls Tryz.prog 27 #[v1, v2] w (RRPost r w) := by
  obtain ⟨n1, a1, l1, c1, n2, a2, l2, c2, rfl, x1, x2⟩ := h1
  obtain ⟨n3, a3, l3, c3, n4, a4, l4, c4, rfl, y1, y2⟩ := h2
  have hM : M2 w ((w.alloc (.cells #[.bool n1, .slice a1 l1 c1, .bool n2, .slice a2 l2 c2] 30)).alloc (.cells #[.bool n3, .slice a3 l3 c3, .bool n4, .slice a4 l4 c4] 30)) (.bool n1) (.slice a1 l1 c1) (.bool n2) (.slice a2 l2 c2) (.bool n3) (.slice a3 l3 c3) (.bool n4) (.slice a4 l4 c4) p q := M2.start w _ _ _ _ _ _ _ _ p q _ _ x1 x2 y1 y2
  have hA := (Below.refl ((w.alloc (.cells #[.bool n1, .slice a1 l1 c1, .bool n2, .slice a2 l2 c2] 30)).alloc (.cells #[.bool n3, .slice a3 l3 c3, .bool n4, .slice a4 l4 c4] 30)).heap.size ((w.alloc (.cells #[.bool n1, .slice a1 l1 c1, .bool n2, .slice a2 l2 c2] 30)).alloc (.cells #[.bool n3, .slice a3 l3 c3, .bool n4, .slice a4 l4 c4] 30))).alloc (Nat.le_refl _) (.cells #[.bool false, .slice none 0 0, .bool false, .slice none 0 0] 30)
  have HM0 := Lib.hid (hM.keep hA.drew (Nat.le_refl _))
  have HR0 : Hid (Rb w (((w.alloc (.cells #[.bool n1, .slice a1 l1 c1, .bool n2, .slice a2 l2 c2] 30)).alloc (.cells #[.bool n3, .slice a3 l3 c3, .bool n4, .slice a4 l4 c4] 30)).alloc (.cells #[.bool false, .slice none 0 0, .bool false, .slice none 0 0] 30)).drew) := Lib.hid (B4.drew (Rb.start w (.cells #[.bool n1, .slice a1 l1 c1, .bool n2, .slice a2 l2 c2] 30) (.cells #[.bool n3, .slice a3 l3 c3, .bool n4, .slice a4 l4 c4] 30) 30))
  have t1 := fun (z : Int) (h : Ten 801 z) => digs_ten h 1000 (by omega)
  have lp1 := digs_ten hp.1 1000 (by omega)
  have lp2 := digs_ten hp.2 1000 (by omega)
  have lq1 := digs_ten hq.1 1000 (by omega)
  have lq2 := digs_ten hq.2 1000 (by omega)
  have HFP : Hid (RRef (((w.alloc (.cells #[.bool n1, .slice a1 l1 c1, .bool n2, .slice a2 l2 c2] 30)).alloc (.cells #[.bool n3, .slice a3 l3 c3, .bool n4, .slice a4 l4 c4] 30)).alloc (.cells #[.bool false, .slice none 0 0, .bool false, .slice none 0 0] 30)).drew (.agg #[.bool n1, .slice a1 l1 c1, .bool n2, .slice a2 l2 c2]) p) := Lib.hid ⟨_, _, _, _, _, _, _, _, rfl, HM0.out.xn, HM0.out.xd⟩
  have HFQ : Hid (RRef (((w.alloc (.cells #[.bool n1, .slice a1 l1 c1, .bool n2, .slice a2 l2 c2] 30)).alloc (.cells #[.bool n3, .slice a3 l3 c3, .bool n4, .slice a4 l4 c4] 30)).alloc (.cells #[.bool false, .slice none 0 0, .bool false, .slice none 0 0] 30)).drew (.agg #[.bool n3, .slice a3 l3 c3, .bool n4, .slice a4 l4 c4]) q) := Lib.hid ⟨_, _, _, _, _, _, _, _, rfl, HM0.out.yn, HM0.out.yd⟩
  have HRP := Lib.hid hp
  have HRQ := Lib.hid hq.neg
  have HK := Lib.hid hK
  obtain ⟨q', hq'⟩ : ∃ x : Rat, -q = x := ⟨_, rfl⟩
  rw [hq'] at HRQ
  have HQ' := Lib.hid hq'
  have HSUM : Hid (p + q' = r) := Lib.hid (by rw [← hq', ← hr.out, Rat.sub_eq_add_neg])
  clear t1 lp1 lp2 lq1 lq2 hp hq hr hq'
  clear hM x1 x2 y1 y2 hA
  obtain ⟨k0_0, k0_1, k0_2, k0_3, k0_4, k0_5, k0_6, k0_7⟩ := HM0.out.cells
  go_enter Tryz.func27, Tryz.ntmps27
  go_wp2_with fail
  go_region_held3 (fun w' => w'.cell? ⟨w.heap.size, 0, none⟩ = some (.bool n1) ∧ w'.cell? ⟨w.heap.size, 1, none⟩ = some (.slice a1 l1 c1) ∧ w'.cell? ⟨w.heap.size, 2, none⟩ = some (.bool n2) ∧ w'.cell? ⟨w.heap.size, 3, none⟩ = some (.slice a2 l2 c2) ∧ w'.cell? ⟨w.heap.size + 1, 0, none⟩ = some (.bool n3) ∧ w'.cell? ⟨w.heap.size + 1, 1, none⟩ = some (.slice a3 l3 c3) ∧ w'.cell? ⟨w.heap.size + 1, 2, none⟩ = some (.bool n4) ∧ w'.cell? ⟨w.heap.size + 1, 3, none⟩ = some (.slice a4 l4 c4)) (first | ((try dsimp only); (repeat' apply And.intro); all_goals with_reducible assumption) | ((try dsimp only); (repeat' apply And.intro); all_goals (repeat' (first | with_reducible assumption | refine cell_off4 ?_ ?_ | omega))) | go_keep) (first | (go_at_call 26; have hgd := hM1; clear hgd; refine (rrAdd_any _ _ p q' K r _ (by exact HFP.out.keep hb1 (Nat.le_refl _)) (by exact hv1') HRP.out HRQ.out HK.out HSUM).mono ?_; rintro e w2 ⟨v2, rfl, hv2, hb2⟩; obtain ⟨m1, b1, j1, d1, m2, b2, j2, d2, rfl, hz1, hz2⟩ := hv2; have hM2 := hM1.keep hb2 (Nat.le_refl _); have hR2 := hR1.keep hb2 (Nat.le_refl _); clear k1_0 k1_1 k1_2 k1_3 k1_4 k1_5 k1_6 k1_7; obtain ⟨k2_0, k2_1, k2_2, k2_3, k2_4, k2_5, k2_6, k2_7⟩ := hM2.cells; obtain ⟨e0, e1, e2, e3⟩ := B4.cell hR2; obtain ⟨f0, f1, f2, f3⟩ := B4.froz hR2) | (go_at_call 38; refine (rrNeg_any _ q q' _ (by exact HFQ.out) (Lib.hid HQ'.out)).mono ?_; rintro e w1 ⟨v1, rfl, hv1, hb1⟩; obtain ⟨s1, s2, s3, s4, s5, s6, s7, s8, rfl, hs1, hs2⟩ := hv1; have hv1' : RRef w1 (.agg #[.bool s1, .slice s2 s3 s4, .bool s5, .slice s6 s7 s8]) q' := ⟨_, _, _, _, _, _, _, _, rfl, hs1, hs2⟩; clear hs1 hs2; have hM1 := HM0.out.keep hb1 (Nat.le_refl _); have hR1 := HR0.out.keep hb1 (Nat.le_refl _); clear k0_0 k0_1 k0_2 k0_3 k0_4 k0_5 k0_6 k0_7; obtain ⟨k1_0, k1_1, k1_2, k1_3, k1_4, k1_5, k1_6, k1_7⟩ := hM1.cells))
  have HV : Hid (RRef w2 (.agg #[.bool m1, .slice b1 j1 d1, .bool m2, .slice b2 j2 d2]) r) := Lib.hid ⟨_, _, _, _, _, _, _, _, rfl, hz1, hz2⟩
  have HR := Lib.hid hR2
  have HW := Lib.hid hM2.below
  clear hz1 hz2 hR2 hM2 k2_0 k2_1 k2_2 k2_3 k2_4 k2_5 k2_6 k2_7 e0 e1 e2 e3 f0 f1 f2 f3 HM0 HR0
  go_wp2
  obtain ⟨l0, l1', l2', l3'⟩ := (B4.put HR.out (.bool m1) (.slice b1 j1 d1) (.bool m2) (.slice b2 j2 d2)).cell
  refine bodyPost_ret (v := .agg #[.bool m1, .slice b1 j1 d1, .bool m2, .slice b2 j2 d2]) (by simp only [results, Tryz.results27]; simp [go_sem, l0, l1', l2', l3']) rfl ?_
  exact RRPost.boxed HV.out HR.out HW.out (by omega) _ _ _ _


end Go.Proofs.YtpnofebhpeiepaaGreatDoor
