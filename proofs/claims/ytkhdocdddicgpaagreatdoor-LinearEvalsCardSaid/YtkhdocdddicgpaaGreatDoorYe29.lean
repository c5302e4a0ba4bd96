/- Part 29: what the law's walk leans on. -/
import Derived.Test.YtkhdocdddicgpaaGreatDoorYe28
import Derived.Test.YtkhdocdddicgpaaGreatDoorYe21
set_option linter.unusedVariables false
set_option linter.unusedSimpArgs false
namespace Go.Proofs.YtkhdocdddicgpaaGreatDoor
open Go.RowKit Go.Maps _root_.Go.Proofs.YtkhdocdddicgpaaGreatDoor.Nm

/-- What Eval yields. -/
def REv (o : Option Rat) (w : World) (e : Ending) (w' : World) : Prop := (∃ m1 b1 j1 d1 m2 b2 j2 d2 b, e = .returned (.tuple #[.agg #[.bool m1, .slice b1 j1 d1, .bool m2, .slice b2 j2 d2], .bool b]) ∧ match o with
      | none => b = false
      | some t => b = true ∧ RRef w' (.agg #[.bool m1, .slice b1 j1 d1, .bool m2, .slice b2 j2 d2]) t) ∧ Below w.heap.size w w'
theorem REv.bad {o : Option Rat} {w w' : World} {m1 m2 : Bool} {b1 b2 : Option Addr} {j1 d1 j2 d2 : Nat} (h : o = none) (hb : Below w.heap.size w w') : REv o w (.returned (.tuple #[.agg #[.bool m1, .slice b1 j1 d1, .bool m2, .slice b2 j2 d2], .bool false])) w' := by
  subst h
  exact ⟨⟨_, _, _, _, _, _, _, _, false, rfl, rfl⟩, hb⟩
theorem REv.good {o : Option Rat} {t : Rat} {w w' : World} {m1 m2 : Bool} {b1 b2 : Option Addr} {j1 d1 j2 d2 : Nat} (h : o = some t) (hx : RRef w' (.agg #[.bool m1, .slice b1 j1 d1, .bool m2, .slice b2 j2 d2]) t) (hb : Below w.heap.size w w') : REv o w (.returned (.tuple #[.agg #[.bool m1, .slice b1 j1 d1, .bool m2, .slice b2 j2 d2], .bool true])) w' := by
  subst h
  exact ⟨⟨_, _, _, _, _, _, _, _, true, rfl, rfl, hx⟩, hb⟩

set_option maxRecDepth 100000 in
set_option maxHeartbeats 6400000 in
theorem rEval_any (s v : Value) (n1 n2 : Bool) (p1 p2 : Option Addr) (l1 c1 l2 c2 B B2 m : Nat) (f : Int → Rat) (cs cs2 : List C4) (qc : Rat) (vs : List Rat) (w : World) (h : RowQ B w s (rowOf f m) cs) (hc : RRef w (agg4 (.bool n1, .slice p1 l1 c1, .bool n2, .slice p2 l2 c2)) qc) (hv : RowQ B2 w v vs cs2) (hg : Good f) (hqs : rshort qc = true) (hvs : ∀ x ∈ vs, rshort x = true) (hm : m ≤ vs.length) (hm2 : m ≤ 2048) (hft : ∀ c, RT 120 (f c)) (hvt : ∀ x ∈ vs, RT 120 x) :
    Calls Tryz.prog 24 #[.agg #[s, .bool n1, .slice p1 l1 c1, .bool n2, .slice p2 l2 c2], v] w (REv (evalQ qc (formUp f m) (atQ vs)) w) := by
  obtain ⟨as', cap', hs'⟩ := h.slice
  rw [rowOf_length] at hs'
  subst hs'
  obtain ⟨av, capv, hv'⟩ := hv.slice
  obtain ⟨nv, hnv⟩ : ∃ nv, vs.length = nv := ⟨_, rfl⟩
  rw [hnv] at hv' hm
  subst hv'
  have hA := (Below.refl w.heap.size w).alloc (Nat.le_refl _) (.cells #[.slice as' m cap', .bool n1, .slice p1 l1 c1, .bool n2, .slice p2 l2 c2] 35)
  have hA2 := hA.alloc (by simp) (.cells #[.bool false, .slice none 0 0, .bool false, .slice none 0 0] 33)
  have hA3 := hA2.alloc (by simp; omega) (.cells #[.bool n1, .slice p1 l1 c1, .bool n2, .slice p2 l2 c2] 33)
  have hF := (B5.new w (.slice as' m cap') (.bool n1) (.slice p1 l1 c1) (.bool n2) (.slice p2 l2 c2) 35).keep ((Below.refl _ _).alloc (Nat.le_refl _) (.cells #[.bool false, .slice none 0 0, .bool false, .slice none 0 0] 33))
  have hR := B4.new (w.alloc (.cells #[.slice as' m cap', .bool n1, .slice p1 l1 c1, .bool n2, .slice p2 l2 c2] 35)) (.bool false) (.slice none 0 0) (.bool false) (.slice none 0 0) 33
  simp only [World.size_alloc] at hR
  have hS := B4.new ((w.alloc (.cells #[.slice as' m cap', .bool n1, .slice p1 l1 c1, .bool n2, .slice p2 l2 c2] 35)).alloc (.cells #[.bool false, .slice none 0 0, .bool false, .slice none 0 0] 33)) (.bool n1) (.slice p1 l1 c1) (.bool n2) (.slice p2 l2 c2) 33
  simp only [World.size_alloc] at hS
  have HF := Lib.hid hF
  have HR := Lib.hid hR
  have HS := Lib.hid hS
  have HW0 := Lib.hid hA3
  have HQ := Lib.hid h
  have HV := Lib.hid hv
  have HC := Lib.hid hc
  have HG := Lib.hid (And.intro hg (And.intro hqs hvs))
  have HTN := Lib.hid (And.intro hft hvt)
  have HNV := Lib.hid (And.intro trivial hnv)
  clear hA hA2 hA3 hF hR hS h hv hc hg hqs hvs hnv hft hvt
  obtain ⟨a0, a1, a2, a3, a4⟩ := HF.out.cell
  go_enter Tryz.func24, Tryz.ntmps24
  go_wp2
  clear a0 a1 a2 a3 a4
  go_loopw [7] (fun i wr => ∃ (k : Nat) (t : Rat) (y1 y5 : Bool) (y2 y6 : Option Addr) (y3 y4 y7 y8 : Nat), k ≤ m ∧ i = .int .i64 k ∧ Hid (evalQ qc (formUp f k) (atQ vs) = some t ∧ rshort t = true) ∧ Hid (RRef wr (agg4 (.bool y1, .slice y2 y3 y4, .bool y5, .slice y6 y7 y8)) t) ∧ Hid (B4 wr (w.heap.size + 1 + 1) (.bool y1) (.slice y2 y3 y4) (.bool y5) (.slice y6 y7 y8)) ∧ Hid (B4 wr (w.heap.size + 1) (.bool false) (.slice none 0 0) (.bool false) (.slice none 0 0)) ∧ Hid (B5 wr w.heap.size (.slice as' m cap') (.bool n1) (.slice p1 l1 c1) (.bool n2) (.slice p2 l2 c2)) ∧ Hid (Below w.heap.size w wr)) (fun i _ => m - (intOf i).toNat)
  case atStart => exact ⟨0, qc, n1, n2, p1, p2, l1, c1, l2, c2, Nat.zero_le _, rfl, Lib.hid ⟨rfl, HG.out.2.1⟩, Lib.hid (HC.out.keep HW0.out (Nat.le_refl _)), HS, Lib.hid (HR.out.below ((Below.refl _ _).alloc (Nat.le_refl _) _) HR.out.lt), Lib.hid (HF.out.keep ((Below.refl _ _).alloc (Nat.le_refl _) _)), HW0⟩
  case round =>
    obtain ⟨k, t, y1, y5, y2, y6, y3, y4, y7, y8, hk, rfl, HE, HT, HS3, HR3, HF3, HW⟩ := hrel
    obtain ⟨a0, a1, a2, a3, a4⟩ := HF3.out.cell
    by_cases hlt : k < m
    · obtain ⟨gr, capr, cr, ev, t0, t1, t2, t3, hrr⟩ := (HQ.out.keep HW.out).at k (by rw [rowOf_length]; exact hlt)
      rw [rowOf_get] at hrr
      rw [rowOf_length] at ev
      simp only [Value.slice.injEq, true_and] at ev
      obtain ⟨rfl, rfl⟩ := ev
      obtain ⟨q1, q2, q3, q4, q5, q6, q7, q8, rfl⟩ := hrr.expl
      dsimp only at t0 t1 t2 t3
      have hkv : k < vs.length := by rw [HNV.out.2]; omega
      obtain ⟨gv, capw, cv, ev, s0, s1, s2, s3, hvr⟩ := (HV.out.keep HW.out).at k hkv
      rw [HNV.out.2] at ev
      simp only [Value.slice.injEq, true_and] at ev
      obtain ⟨rfl, rfl⟩ := ev
      obtain ⟨z1, z2, z3, z4, z5, z6, z7, z8, rfl⟩ := hvr.expl
      dsimp only at s0 s1 s2 s3
      have HRR := Lib.hid hrr
      have HVR := Lib.hid hvr
      have h1 : (0 : Int) ≤ k := by omega
      have h2 : (k : Int) < m := by omega
      have h3 : (k : Int) < nv := by omega
      clear hrr hvr
      go_wp2_with fail
      by_cases hz : f (k : Int) = 0
      · refine (rrZero_any _ (f (k : Int)) true _ HRR.out (Lib.hid ⟨trivial, decide_eq_true hz⟩)).mono ?_
        rintro e w5 ⟨rfl, hb⟩
        have HE2 : Hid (evalQ qc (formUp f (k + 1)) (atQ vs) = some t ∧ rshort t = true) := Lib.hid ⟨(evalUp_skip hz).trans HE.out.1, HE.out.2⟩
        have HB := Lib.hid hb
        clear hb hz t0 t1 t2 t3 s0 s1 s2 s3 a0 a1 a2 a3 a4
        go_wp2
        go_roundw
        case rel => exact ⟨k + 1, t, y1, y5, y2, y6, y3, y4, y7, y8, by omega, by go_num, HE2, Lib.hid (HT.out.keep HB.out (Nat.le_refl _)), Lib.hid (HS3.out.below HB.out HS3.out.lt), Lib.hid (HR3.out.below HB.out HR3.out.lt), Lib.hid (HF3.out.keep HB.out), Lib.hid (HW.out.trans (HB.out.mono HW.out.size))⟩
        case measure => simp [intOf]; omega
      · refine (rrZero_any _ (f (k : Int)) false _ HRR.out (Lib.hid ⟨trivial, decide_eq_false hz⟩)).mono ?_
        rintro e w5 ⟨rfl, hb⟩
        have hwv : atQ vs (k : Int) = vs[k] := by unfold atQ; simp [hkv]
        obtain ⟨r, hr⟩ : ∃ r, f (k : Int) * vs[k] = r := ⟨_, rfl⟩
        have HRV := Lib.hid hr
        have HWV := Lib.hid hwv
        have HZ := Lib.hid hz
        have HSH := Lib.hid (And.intro (HTN.out.1 (k : Int)) (HTN.out.2 _ (List.getElem_mem hkv)))
        have HB := Lib.hid hb
        have hF5 := HF3.out.keep hb
        have HF5 := Lib.hid hF5
        have HW5 := Lib.hid (HW.out.trans (hb.mono HW.out.size))
        have HRR5 := Lib.hid (HRR.out.keep hb (Nat.le_refl _))
        have HVR5 := Lib.hid (HVR.out.keep hb (Nat.le_refl _))
        have hgr := World.block_lt_of_cell? _ _ t0
        have hgv := World.block_lt_of_cell? _ _ s0
        have T0 := (hb.cell (p := ⟨gr, k * 4, none⟩) hgr).trans t0
        have T1 := (hb.cell (p := ⟨gr, k * 4 + 1, none⟩) hgr).trans t1
        have T2 := (hb.cell (p := ⟨gr, k * 4 + 2, none⟩) hgr).trans t2
        have T3 := (hb.cell (p := ⟨gr, k * 4 + 3, none⟩) hgr).trans t3
        have S0 := (hb.cell (p := ⟨gv, k * 4, none⟩) hgv).trans s0
        have S1 := (hb.cell (p := ⟨gv, k * 4 + 1, none⟩) hgv).trans s1
        have S2 := (hb.cell (p := ⟨gv, k * 4 + 2, none⟩) hgv).trans s2
        have S3 := (hb.cell (p := ⟨gv, k * 4 + 3, none⟩) hgv).trans s3
        have A0 := hF5.cell.1
        have hgr5 : gr < w5.heap.size := Nat.lt_of_lt_of_le hgr hb.size
        have hgv5 : gv < w5.heap.size := Nat.lt_of_lt_of_le hgv hb.size
        have hb05 : w.heap.size < w5.heap.size := hF5.lt
        clear hb hr hwv hz hF5 hgr hgv t0 t1 t2 t3 s0 s1 s2 s3 a0 a1 a2 a3 a4
        go_wp2_with fail
        go_cut [8] (fun pv wx => ∃ (bp : Nat) (m1 : Bool) (b1 : Option Addr) (j1 d1 : Nat) (m2 : Bool) (b2 : Option Addr) (j2 d2 : Nat), pv = .pointer (some ⟨bp, 0, none⟩) ∧ Hid (B4 wx bp (.bool m1) (.slice b1 j1 d1) (.bool m2) (.slice b2 j2 d2)) ∧ Hid (RRef wx (.agg #[.bool m1, .slice b1 j1 d1, .bool m2, .slice b2 j2 d2]) r) ∧ Hid (Below w5.heap.size w5 wx) ∧ Hid (w5.heap.size ≤ bp))
        case first =>
          go_region_held3 (fun w' => w'.cell? ⟨w.heap.size, 0, none⟩ = some (.slice (some ⟨gr, 0, none⟩) m cap') ∧ w'.cell? ⟨gr, k * 4, none⟩ = some (.bool q1) ∧ w'.cell? ⟨gr, k * 4 + 1, none⟩ = some (.slice q2 q3 q4) ∧ w'.cell? ⟨gr, k * 4 + 2, none⟩ = some (.bool q5) ∧ w'.cell? ⟨gr, k * 4 + 3, none⟩ = some (.slice q6 q7 q8) ∧ w'.cell? ⟨gv, k * 4, none⟩ = some (.bool z1) ∧ w'.cell? ⟨gv, k * 4 + 1, none⟩ = some (.slice z2 z3 z4) ∧ w'.cell? ⟨gv, k * 4 + 2, none⟩ = some (.bool z5) ∧ w'.cell? ⟨gv, k * 4 + 3, none⟩ = some (.slice z6 z7 z8)) (first | ((try dsimp only); (repeat' apply And.intro); all_goals with_reducible assumption) | go_keep) (first | (go_at_call 47; refine (rrMul_any _ _ (f (k : Int)) vs[k] 120 r _ (by first | exact HRR5.out.keep (Below.refl _ _).drew (Nat.le_refl _) | exact HRR5.out.keep (((Below.refl _ _).drew).alloc (Nat.le_refl _) _) (Nat.le_refl _)) (by first | exact HVR5.out.keep (Below.refl _ _).drew (Nat.le_refl _) | exact HVR5.out.keep (((Below.refl _ _).drew).alloc (Nat.le_refl _) _) (Nat.le_refl _)) HSH.out.1 HSH.out.2 (by omega) HRV).mono ?_; rintro e w6 ⟨v6, rfl, hv6, hb6⟩; obtain ⟨m1, b1, j1, d1, m2, b2, j2, d2, rfl, hx1, hx2⟩ := hv6; have hb7 : Below w5.heap.size w5 w6 := (by first | exact (Below.refl _ w5).drew.trans hb6 | exact (((Below.refl _ w5).drew).alloc (Nat.le_refl _) _).trans (hb6.mono (by simp))); have U0 := (hb7.cell (p := ⟨w.heap.size, 0, none⟩) hb05).trans A0; have U1 := (hb7.cell (p := ⟨gr, k * 4, none⟩) hgr5).trans T0; have U2 := (hb7.cell (p := ⟨gr, k * 4 + 1, none⟩) hgr5).trans T1; have U3 := (hb7.cell (p := ⟨gr, k * 4 + 2, none⟩) hgr5).trans T2; have U4 := (hb7.cell (p := ⟨gr, k * 4 + 3, none⟩) hgr5).trans T3; have U5 := (hb7.cell (p := ⟨gv, k * 4, none⟩) hgv5).trans S0; have U6 := (hb7.cell (p := ⟨gv, k * 4 + 1, none⟩) hgv5).trans S1; have U7 := (hb7.cell (p := ⟨gv, k * 4 + 2, none⟩) hgv5).trans S2; have U8 := (hb7.cell (p := ⟨gv, k * 4 + 3, none⟩) hgv5).trans S3; have HB6 := Lib.hid hb6; have HB7 := Lib.hid hb7; have HX1 := Lib.hid hx1; have HX2 := Lib.hid hx2; (first | (have hX6 := (B4.new w5 (.bool false) (.slice none 0 0) (.bool false) (.slice none 0 0) 33).drew.below hb6 (by show w5.heap.size < (w5.alloc _).heap.size; simp); have HX6 := Lib.hid hX6; obtain ⟨e0, e1, e2, e3⟩ := hX6.cell; obtain ⟨f0, f1, f2, f3⟩ := hX6.froz; clear hX6; have hO := (set4_only w6 w5.heap.size (.bool m1) (.slice b1 j1 d1) (.bool m2) (.slice b2 j2 d2)); have V0 := (hO.cell w.heap.size 0 (Nat.ne_of_lt hb05)).trans U0; have V1 := (hO.cell gr (k * 4) (Nat.ne_of_lt hgr5)).trans U1; have V2 := (hO.cell gr (k * 4 + 1) (Nat.ne_of_lt hgr5)).trans U2; have V3 := (hO.cell gr (k * 4 + 2) (Nat.ne_of_lt hgr5)).trans U3; have V4 := (hO.cell gr (k * 4 + 3) (Nat.ne_of_lt hgr5)).trans U4; have V5 := (hO.cell gv (k * 4) (Nat.ne_of_lt hgv5)).trans U5; have V6 := (hO.cell gv (k * 4 + 1) (Nat.ne_of_lt hgv5)).trans U6; have V7 := (hO.cell gv (k * 4 + 2) (Nat.ne_of_lt hgv5)).trans U7; have V8 := (hO.cell gv (k * 4 + 3) (Nat.ne_of_lt hgv5)).trans U8; clear hO) | skip); clear hb6 hb7 hx1 hx2 A0 T0 T1 T2 T3 S0 S1 S2 S3))
          all_goals (go_wp2_with fail; go_meet; case rel => first | exact ⟨_, m1, b1, j1, d1, m2, b2, j2, d2, rfl, Lib.hid (HX6.out.put (.bool m1) (.slice b1 j1 d1) (.bool m2) (.slice b2 j2 d2)), Lib.hid (RRef.box4 ⟨_, _, _, _, _, _, _, _, rfl, HX1.out, HX2.out⟩ HX6.out (.bool m1) (.slice b1 j1 d1) (.bool m2) (.slice b2 j2 d2)), Lib.hid (HB7.out.trans ((set4_only _ _ (.bool m1) (.slice b1 j1 d1) (.bool m2) (.slice b2 j2 d2)).below (Nat.le_refl _))), Lib.hid (Nat.le_refl _)⟩ | exact ⟨_, m1, b1, j1, d1, m2, b2, j2, d2, rfl, Lib.hid (B4.new _ _ _ _ _ _), Lib.hid (RRef.keep ⟨_, _, _, _, _, _, _, _, rfl, HX1.out, HX2.out⟩ ((Below.refl _ _).alloc (Nat.le_refl _) _) (Nat.le_refl _)), Lib.hid (HB7.out.alloc HB7.out.size _), Lib.hid HB7.out.size⟩)
        case rest =>
          obtain ⟨bp, m1, b1, j1, d1, m2, b2, j2, d2, rfl, HBP, HPR, HWP, HBQ⟩ := hcut
          have hbx := HB.out.trans (HWP.out.mono HB.out.size)
          have HSX := Lib.hid (HS3.out.below hbx HS3.out.lt)
          have HTX := Lib.hid (HT.out.keep hbx (Nat.le_refl _))
          have HRX := Lib.hid (HR3.out.below hbx HR3.out.lt)
          have HFX := Lib.hid (HF3.out.keep hbx)
          have HWX := Lib.hid (HW.out.trans (hbx.mono HW.out.size))
          have hne : bp ≠ w.heap.size + 1 + 1 := by have := HBQ.out; have := HS3.out.lt; have := HB.out.size; omega
          have hne2 : w.heap.size + 1 + 1 ≠ bp := fun e => hne e.symm
          have hr2 : RT 240 r := by rw [← HRV.out]; exact HSH.out.1.mul HSH.out.2
          obtain ⟨t2, ht2⟩ : ∃ t2, t + r = t2 := ⟨_, rfl⟩
          have HT2 := Lib.hid ht2
          have HR2 := Lib.hid hr2
          have HNX : Hid (evalQ qc (formUp f (k + 1)) (atQ vs) = if rshort t2 = true then some t2 else none) := Lib.hid (by
            rw [evalUp_add HZ.out HE.out.1, HWV.out, HRV.out, ht2, hr2.short (by omega), Bool.true_and])
          clear hbx ht2 hr2 T0 T1 T2 T3 S0 S1 S2 S3 A0
          obtain ⟨a0, a1, a2, a3⟩ := HSX.out.cell
          obtain ⟨d0', d1', d2', d3'⟩ := HBP.out.cell
          go_wp2_with fail
          refine (rrAdd_any _ _ t r 400 t2 _ HTX.out HPR.out (RT.of HE.out.2) (HR2.out.mono (by omega)) (Nat.le_refl _) HT2).mono ?_
          rintro e w7 ⟨v7, rfl, hr7, hb7⟩
          obtain ⟨E1, E2, E3, E4, E5, E6, E7, E8, rfl, u1, u2⟩ := hr7
          have hnum : RRef w7 (.agg #[.bool E1, .slice E2 E3 E4, .bool E5, .slice E6 E7 E8]) t2 := ⟨_, _, _, _, _, _, _, _, rfl, u1, u2⟩
          have hs7 := HSX.out.below hb7 HSX.out.lt
          have hp7 := HBP.out.below hb7 HBP.out.lt
          obtain ⟨c0, c1', c2', c3'⟩ := hs7.cell
          obtain ⟨f0, f1, f2, f3⟩ := hs7.froz
          obtain ⟨d0, d1'', d2'', d3⟩ := hp7.cell
          have ho := set4_only w7 (w.heap.size + 1 + 1) (.bool E1) (.slice E2 E3 E4) (.bool E5) (.slice E6 E7 E8)
          have hS8 := hs7.put (.bool E1) (.slice E2 E3 E4) (.bool E5) (.slice E6 E7 E8)
          have HS8 : Hid (B4 ((((w7.setCell ⟨w.heap.size + 1 + 1, 0, none⟩ (.bool E1)).setCell ⟨w.heap.size + 1 + 1, 1, none⟩ (.slice E2 E3 E4)).setCell ⟨w.heap.size + 1 + 1, 2, none⟩ (.bool E5)).setCell ⟨w.heap.size + 1 + 1, 3, none⟩ (.slice E6 E7 E8)) (w.heap.size + 1 + 1) (.bool E1) (.slice E2 E3 E4) (.bool E5) (.slice E6 E7 E8)) := Lib.hid hS8
          have HP8 : Hid (B4 ((((w7.setCell ⟨w.heap.size + 1 + 1, 0, none⟩ (.bool E1)).setCell ⟨w.heap.size + 1 + 1, 1, none⟩ (.slice E2 E3 E4)).setCell ⟨w.heap.size + 1 + 1, 2, none⟩ (.bool E5)).setCell ⟨w.heap.size + 1 + 1, 3, none⟩ (.slice E6 E7 E8)) bp (.bool m1) (.slice b1 j1 d1) (.bool m2) (.slice b2 j2 d2)) := Lib.hid (hp7.only ho hne)
          have HPR8 : Hid (RRef ((((w7.setCell ⟨w.heap.size + 1 + 1, 0, none⟩ (.bool E1)).setCell ⟨w.heap.size + 1 + 1, 1, none⟩ (.slice E2 E3 E4)).setCell ⟨w.heap.size + 1 + 1, 2, none⟩ (.bool E5)).setCell ⟨w.heap.size + 1 + 1, 3, none⟩ (.slice E6 E7 E8)) (.agg #[.bool m1, .slice b1 j1 d1, .bool m2, .slice b2 j2 d2]) r) := Lib.hid ((HPR.out.keep hb7 (Nat.le_refl _)).box4 hs7 (.bool E1) (.slice E2 E3 E4) (.bool E5) (.slice E6 E7 E8))
          have HN8 : Hid (RRef ((((w7.setCell ⟨w.heap.size + 1 + 1, 0, none⟩ (.bool E1)).setCell ⟨w.heap.size + 1 + 1, 1, none⟩ (.slice E2 E3 E4)).setCell ⟨w.heap.size + 1 + 1, 2, none⟩ (.bool E5)).setCell ⟨w.heap.size + 1 + 1, 3, none⟩ (.slice E6 E7 E8)) (.agg #[.bool E1, .slice E2 E3 E4, .bool E5, .slice E6 E7 E8]) t2) := Lib.hid (hnum.box4 hs7 (.bool E1) (.slice E2 E3 E4) (.bool E5) (.slice E6 E7 E8))
          have HR8 : Hid (B4 ((((w7.setCell ⟨w.heap.size + 1 + 1, 0, none⟩ (.bool E1)).setCell ⟨w.heap.size + 1 + 1, 1, none⟩ (.slice E2 E3 E4)).setCell ⟨w.heap.size + 1 + 1, 2, none⟩ (.bool E5)).setCell ⟨w.heap.size + 1 + 1, 3, none⟩ (.slice E6 E7 E8)) (w.heap.size + 1) (.bool false) (.slice none 0 0) (.bool false) (.slice none 0 0)) := Lib.hid ((HRX.out.below hb7 HRX.out.lt).only ho (by omega))
          have HF8 := Lib.hid ((HFX.out.keep hb7).same (heap_set4 w7 (w.heap.size + 1 + 1) 0 1 2 3 (.bool E1) (.slice E2 E3 E4) (.bool E5) (.slice E6 E7 E8) w.heap.size (by omega)))
          have HW8 := Lib.hid (below_set4 (HWX.out.trans (hb7.mono HWX.out.size)) (w.heap.size + 1 + 1) 0 1 2 3 (.bool E1) (.slice E2 E3 E4) (.bool E5) (.slice E6 E7 E8) (by omega))
          clear u1 u2 hnum hs7 hp7 ho hS8 hb7 a0 a1 a2 a3 d0' d1' d2' d3'
          go_wp2_with fail
          generalize ((((w7.setCell ⟨w.heap.size + 1 + 1, 0, none⟩ (.bool E1)).setCell ⟨w.heap.size + 1 + 1, 1, none⟩ (.slice E2 E3 E4)).setCell ⟨w.heap.size + 1 + 1, 2, none⟩ (.bool E5)).setCell ⟨w.heap.size + 1 + 1, 3, none⟩ (.slice E6 E7 E8)) = w8 at HS8 HP8 HPR8 HN8 HR8 HF8 HW8 ⊢
          refine (rrLong_any _ r false _ (by exact HPR8.out) (Lib.hid ⟨trivial, by rw [HR2.out.short (by omega)]; rfl⟩)).mono ?_
          rintro e w9 ⟨rfl, hb9⟩
          have HS9 := Lib.hid (HS8.out.below hb9 HS8.out.lt)
          have HN9 := Lib.hid (HN8.out.keep hb9 (Nat.le_refl _))
          have HR9 := Lib.hid (HR8.out.below hb9 HR8.out.lt)
          have HF9 := Lib.hid (HF8.out.keep hb9)
          have HW9 := Lib.hid (HW8.out.trans (hb9.mono HW8.out.size))
          clear hb9 c0 c1' c2' c3' f0 f1 f2 f3 d0 d1'' d2'' d3
          obtain ⟨a0, a1, a2, a3⟩ := HS9.out.cell
          cases hsh : rshort t2 with
          | true =>
            have HE2 : Hid (evalQ qc (formUp f (k + 1)) (atQ vs) = some t2 ∧ rshort t2 = true) := Lib.hid ⟨by rw [HNX.out, if_pos hsh], hsh⟩
            go_wp2_with fail
            refine (rrLong_any _ t2 false _ (by exact HN9.out) (Lib.hid ⟨trivial, by rw [hsh]; rfl⟩)).mono ?_
            rintro e w10 ⟨rfl, hb10⟩
            have HB10 := Lib.hid hb10
            clear hb10 hsh a0 a1 a2 a3
            go_wp2
            go_roundw
            case rel => exact ⟨k + 1, t2, E1, E5, E2, E6, E3, E4, E7, E8, by omega, by go_num, HE2, Lib.hid (RRef.keep HN9.out HB10.out (Nat.le_refl _)), Lib.hid (HS9.out.below HB10.out HS9.out.lt), Lib.hid (HR9.out.below HB10.out HR9.out.lt), Lib.hid (HF9.out.keep HB10.out), Lib.hid (HW9.out.trans (HB10.out.mono HW9.out.size))⟩
            case measure => simp [intOf]; omega
          | false =>
            have HNO : Hid (evalQ qc (formUp f m) (atQ vs) = none) := Lib.hid (by
              have h := evalUp_none (m - (k + 1)) (show evalQ qc (formUp f (k + 1)) (atQ vs) = none by rw [HNX.out, hsh]; rfl)
              rwa [show k + 1 + (m - (k + 1)) = m by omega] at h)
            go_wp2_with fail
            refine (rrLong_any _ t2 true _ (by exact HN9.out) (Lib.hid ⟨trivial, by rw [hsh]; rfl⟩)).mono ?_
            rintro e w10 ⟨rfl, hb10⟩
            have HS10 := Lib.hid (HS9.out.below hb10 HS9.out.lt)
            have HR10 := Lib.hid (HR9.out.below hb10 HR9.out.lt)
            have HW10 := Lib.hid (HW9.out.trans (hb10.mono HW9.out.size))
            clear hb10 hsh a0 a1 a2 a3
            obtain ⟨a0, a1, a2, a3⟩ := HS10.out.cell
            obtain ⟨e0, e1, e2, e3⟩ := HR10.out.cell
            obtain ⟨f0, f1, f2, f3⟩ := HR10.out.froz
            go_wp2
            obtain ⟨l0, l1', l2', l3'⟩ := (HR10.out.put (.bool E1) (.slice E2 E3 E4) (.bool E5) (.slice E6 E7 E8)).cell
            refine bodyPost_ret (v := .tuple #[.agg #[.bool E1, .slice E2 E3 E4, .bool E5, .slice E6 E7 E8], .bool false]) (by simp only [results, Tryz.results24]; simp [go_sem, l0, l1', l2', l3']) rfl ?_
            exact REv.bad HNO.out (below_set4 HW10.out (w.heap.size + 1) 0 1 2 3 _ _ _ _ (by omega))
    · obtain rfl : m = k := by omega
      have hnn : ¬ (m : Int) < m := by omega
      clear a0 a1 a2 a3 a4
      have a0 := HF3.out.cell.1
      obtain ⟨c0, c1', c2', c3'⟩ := HS3.out.cell
      obtain ⟨e0, e1, e2, e3⟩ := HR3.out.cell
      obtain ⟨f0, f1, f2, f3⟩ := HR3.out.froz
      go_wp2
      obtain ⟨l0, l1', l2', l3'⟩ := (HR3.out.put (.bool y1) (.slice y2 y3 y4) (.bool y5) (.slice y6 y7 y8)).cell
      refine bodyPost_ret (v := .tuple #[.agg #[.bool y1, .slice y2 y3 y4, .bool y5, .slice y6 y7 y8], .bool true]) (by simp only [results, Tryz.results24]; simp [go_sem, l0, l1', l2', l3']) rfl ?_
      exact REv.good HE.out.1 (HT.out.box4 HR3.out _ _ _ _) (below_set4 HW.out (w.heap.size + 1) 0 1 2 3 _ _ _ _ (by omega))

end Go.Proofs.YtkhdocdddicgpaaGreatDoor

set_option linter.unusedVariables false
set_option linter.unusedSimpArgs false
namespace Go.Proofs.YtkhdocdddicgpaaGreatDoor
open Go.RowKit Go.Maps _root_.Go.Proofs.YtkhdocdddicgpaaGreatDoor.Nm

structure LE (w W : World) (x0 : Option Addr) (n0 c0 : Nat) (s0 : ByteArray) (l0 : List Tm) (x2 : Option Addr) (n2 c2 : Nat) (ss : List ByteArray) : Prop where
  a : Bx W w.heap.size (.slice x0 n0 c0) (.string s0)
  fa : TsAt W (.slice x0 n0 c0) l0
  vs : SsAt W (.slice x2 n2 c2) ss
  tab : Tab W
  ers : Ers W
  below : Below w.heap.size w W
theorem LE.keep {w W W' : World} {x0 : Option Addr} {n0 c0 : Nat} {s0 : ByteArray} {l0 : List Tm} {x2 : Option Addr} {n2 c2 : Nat} {ss : List ByteArray}
    (h : LE w W x0 n0 c0 s0 l0 x2 n2 c2 ss) (hb : Below W.heap.size W W') : LE w W' x0 n0 c0 s0 l0 x2 n2 c2 ss :=
  ⟨h.a.below hb h.a.lt, h.fa.keep hb (Nat.le_refl _), h.vs.keep hb (Nat.le_refl _), tab_keep h.tab hb, h.ers.keep hb (Nat.le_refl _), h.below.trans (hb.mono h.below.size)⟩
theorem LE.start (w : World) {x0 : Option Addr} {n0 c0 : Nat} {s0 : ByteArray} {l0 : List Tm} {x2 : Option Addr} {n2 c2 : Nat} {ss : List ByteArray}
    (ha : TsAt w (.slice x0 n0 c0) l0) (hv : SsAt w (.slice x2 n2 c2) ss) (ht : Tab w) (he : Ers w) :
    LE w (w.alloc (.cells #[.slice x0 n0 c0, .string s0] 24)) x0 n0 c0 s0 l0 x2 n2 c2 ss := by
  have hA := (Below.refl w.heap.size w).alloc (Nat.le_refl _) (.cells #[.slice x0 n0 c0, .string s0] 24)
  exact ⟨Bx.new w _ _ _, ha.keep hA (Nat.le_refl _), hv.keep hA (Nat.le_refl _), tab_keep ht hA, he.keep hA (Nat.le_refl _), hA⟩
theorem tm_ten {q : List Qm} {K : Nat} (h : ∀ t ∈ tms q, t.2.size ≤ K) (hq : ∀ p ∈ q, rshort p.2 = true) : ∀ p ∈ q, RT K p.2 := fun p hp =>
  (txt_is (hq p hp)).ten (h (p.1, txt p.2) (List.mem_map.2 ⟨p, hp, rfl⟩))
theorem co_ten {q : List Qm} (h : ∀ t ∈ tms q, t.2.size ≤ 120) (hq : Fo q) (c : Int) : RT 120 (co q c) := by
  by_cases h0 : co q c = 0
  · rw [h0]; exact ⟨⟨0, Nat.zero_le _, by decide⟩, Ten.one (by omega)⟩
  · exact tm_ten h (fun p hp => (hq.1 p hp).2.1) _ (co_ne q c h0)
theorem light_sizes {x : ByteArray} {l : List Tm} (h : lightB x l = true) : (∀ t ∈ l, t.2.size ≤ 120) ∧ l.length ≤ 8 ∧ x.size ≤ 120 := by
  unfold lightB shortC at h
  simp only [Bool.and_eq_true, decide_eq_true_eq, List.all_eq_true] at h
  exact ⟨fun t ht => h.1 _ (List.mem_map.2 ⟨t, ht, rfl⟩), h.2.1, h.2.2⟩
theorem vals_ten {ss : List ByteArray} {vs : List Rat} (h : shortC ss = true) (e : ss = valsQ vs) (hv : ∀ v ∈ vs, rshort v = true) : ∀ v ∈ vs, RT 120 v := by
  intro v hvm
  unfold shortC at h
  rw [List.all_eq_true] at h
  exact (txt_is (hv v hvm)).ten (of_decide_eq_true (h (txt v) (by rw [e]; exact List.mem_map.2 ⟨v, hvm, rfl⟩)))
theorem co_cut {q : List Qm} (hq : ∀ p ∈ q, 0 ≤ p.1) (col : Int) : (if 0 ≤ col ∧ col < (colsOf q : Int) then co q col else 0) = co q col := by
  split
  · rfl
  · next h =>
    by_cases h0 : 0 ≤ col
    · obtain ⟨j, rfl⟩ : ∃ j : Nat, col = (j : Int) := ⟨col.toNat, (Int.toNat_of_nonneg h0).symm⟩
      exact (co_beyond hq (by omega)).symm
    · exact (co_none q col fun p hp e => by have := hq p hp; omega).symm
theorem vals_noNum {vs : List Rat} (hv : ∀ v ∈ vs, rshort v = true) : (valsQ vs).any noNum = false := by
  rw [List.any_eq_false]
  intro s hs
  obtain ⟨v, hvm, rfl⟩ := List.mem_map.1 hs
  rw [noNum_txt (hv v hvm)]; simp
theorem EvalRes.noVals {x : ByteArray} {l : List Tm} {ss : List ByteArray} {s : ByteArray} {e : Int} (h : EvalRes x l ss s e) (hn : ss.any noNum = true) : s = ⟨#[]⟩ ∧ e = 3 := by
  rcases h with ⟨_, h1, h2⟩ | ⟨qc, q, vs, _, _, _, _, rfl, hv, _⟩
  · exact ⟨h1, h2⟩
  · rw [vals_noNum hv] at hn; cases hn

set_option maxRecDepth 100000 in
set_option maxHeartbeats 6400000 in
theorem evals_out1 (x0 : Option Addr) (n0 c0 : Nat) (s0 : ByteArray) (l0 : List Tm) (x2 : Option Addr) (n2 c2 : Nat) (ss : List ByteArray) (col : Int) (w : World) (htab : Tab w) (he : Ers w)
    (ha0 : TsAt w (.slice x0 n0 c0) l0) (hn0 : x0 = none → c0 = 0) (hm0 : n0 ≤ 9223372036854775807) (hss : SsAt w (.slice x2 n2 c2) ss) (hA : lightB s0 l0 = false) :
    Calls Tryz.prog 4 #[.agg #[.slice x0 n0 c0, .string s0], .slice x2 n2 c2, .int .i64 col] w fun e w' => e = .returned (.bool true) ∧ Below w.heap.size w w' := by
  have HL0 := Lib.hid (LE.start (s0 := s0) w ha0 hss htab he)
  clear ha0 hss htab he
  obtain ⟨a0, a1, a2, a3⟩ := HL0.out.a.cell
  go_enter Tryz.func4, Tryz.ntmps4
  go_wp2_with fail
  refine (Light_any s0 x0 n0 c0 l0 false _ HL0.out.fa hm0 (Lib.hid hA)).mono ?_
  rintro e w1 ⟨rfl, hb⟩
  have HL1 := Lib.hid (HL0.out.keep hb)
  clear hb a0 a1 a2 a3
  obtain ⟨a0, a1, a2, a3⟩ := HL1.out.a.cell
  go_wp2_with fail
  refine (lawake_any _ HL1.out.tab HL1.out.ers).mono ?_
  rintro e wz ⟨rfl, hb⟩
  have HZ := Lib.hid (HL1.out.below.trans (hb.mono HL1.out.below.size))
  clear hb
  go_wp2
  go_ret
  exact ⟨rfl, HZ.out⟩

set_option maxRecDepth 100000 in
set_option maxHeartbeats 6400000 in
theorem evals_out2 (x0 : Option Addr) (n0 c0 : Nat) (s0 : ByteArray) (l0 : List Tm) (x2 : Option Addr) (n2 c2 : Nat) (ss : List ByteArray) (col : Int) (w : World) (htab : Tab w) (he : Ers w)
    (ha0 : TsAt w (.slice x0 n0 c0) l0) (hn0 : x0 = none → c0 = 0) (hm0 : n0 ≤ 9223372036854775807) (hss : SsAt w (.slice x2 n2 c2) ss) (hA : lightB s0 l0 = true) (h12 : (12 : Int) < n2) :
    Calls Tryz.prog 4 #[.agg #[.slice x0 n0 c0, .string s0], .slice x2 n2 c2, .int .i64 col] w fun e w' => e = .returned (.bool true) ∧ Below w.heap.size w w' := by
  have HL0 := Lib.hid (LE.start (s0 := s0) w ha0 hss htab he)
  clear ha0 hss htab he
  obtain ⟨a0, a1, a2, a3⟩ := HL0.out.a.cell
  go_enter Tryz.func4, Tryz.ntmps4
  go_wp2_with fail
  refine (Light_any s0 x0 n0 c0 l0 true _ HL0.out.fa hm0 (Lib.hid hA)).mono ?_
  rintro e w1 ⟨rfl, hb⟩
  have HL1 := Lib.hid (HL0.out.keep hb)
  clear hb a0 a1 a2 a3
  obtain ⟨a0, a1, a2, a3⟩ := HL1.out.a.cell
  go_wp2_with fail
  refine (lawake_any _ HL1.out.tab HL1.out.ers).mono ?_
  rintro e wz ⟨rfl, hb⟩
  have HZ := Lib.hid (HL1.out.below.trans (hb.mono HL1.out.below.size))
  clear hb
  go_wp2
  go_ret
  exact ⟨rfl, HZ.out⟩

set_option maxRecDepth 100000 in
set_option maxHeartbeats 6400000 in
theorem evals_out3 (x0 : Option Addr) (n0 c0 : Nat) (s0 : ByteArray) (l0 : List Tm) (x2 : Option Addr) (n2 c2 : Nat) (ss : List ByteArray) (col : Int) (w : World) (htab : Tab w) (he : Ers w)
    (ha0 : TsAt w (.slice x0 n0 c0) l0) (hn0 : x0 = none → c0 = 0) (hm0 : n0 ≤ 9223372036854775807) (hss : SsAt w (.slice x2 n2 c2) ss) (hA : lightB s0 l0 = true) (h12 : ¬ (12 : Int) < n2) (hS : shortC ss = false) :
    Calls Tryz.prog 4 #[.agg #[.slice x0 n0 c0, .string s0], .slice x2 n2 c2, .int .i64 col] w fun e w' => e = .returned (.bool true) ∧ Below w.heap.size w w' := by
  have HL0 := Lib.hid (LE.start (s0 := s0) w ha0 hss htab he)
  clear ha0 hss htab he
  obtain ⟨a0, a1, a2, a3⟩ := HL0.out.a.cell
  go_enter Tryz.func4, Tryz.ntmps4
  go_wp2_with fail
  refine (Light_any s0 x0 n0 c0 l0 true _ HL0.out.fa hm0 (Lib.hid hA)).mono ?_
  rintro e w1 ⟨rfl, hb⟩
  have HL1 := Lib.hid (HL0.out.keep hb)
  clear hb a0 a1 a2 a3
  obtain ⟨a0, a1, a2, a3⟩ := HL1.out.a.cell
  go_wp2_with fail
  refine (lshort_any x2 n2 c2 ss false _ HL1.out.vs (by omega) (Lib.hid hS)).mono ?_
  rintro e w3 ⟨rfl, hww⟩
  rw [← hww]
  clear hww w3
  go_wp2_with fail
  refine (lawake_any _ HL1.out.tab HL1.out.ers).mono ?_
  rintro e wz ⟨rfl, hb⟩
  have HZ := Lib.hid (HL1.out.below.trans (hb.mono HL1.out.below.size))
  clear hb
  go_wp2
  go_ret
  exact ⟨rfl, HZ.out⟩

set_option maxRecDepth 100000 in
set_option maxHeartbeats 6400000 in
theorem evals_bad (x0 : Option Addr) (n0 c0 : Nat) (s0 : ByteArray) (l0 : List Tm) (x2 : Option Addr) (n2 c2 : Nat) (ss : List ByteArray) (col : Int) (w : World) (htab : Tab w) (he : Ers w)
    (ha0 : TsAt w (.slice x0 n0 c0) l0) (hn0 : x0 = none → c0 = 0) (hm0 : n0 ≤ 9223372036854775807) (hss : SsAt w (.slice x2 n2 c2) ss) (hA : lightB s0 l0 = true) (h12 : ¬ (12 : Int) < n2) (hS : shortC ss = true) (hbad : checkErr s0 l0 ≠ 0) :
    Calls Tryz.prog 4 #[.agg #[.slice x0 n0 c0, .string s0], .slice x2 n2 c2, .int .i64 col] w fun e w' => e = .returned (.bool true) ∧ Below w.heap.size w w' := by
  have hss1 : ∀ s ∈ ss, s.size ≤ 100000 := fun s hs => by
    unfold shortC at hS
    rw [List.all_eq_true] at hS
    have := of_decide_eq_true (hS s hs)
    omega
  have hsl : ss.length = n2 := by obtain ⟨_, _, _, e1, e2, _⟩ := hss; cases e1; exact e2.symm
  have HSS := Lib.hid (And.intro hss1 hsl)
  have HSL : Hid (ss.length ≤ 1000) := Lib.hid (by omega)
  have hF : ∀ W, TsAt W (.slice x0 n0 c0) l0 → InF W x0 n0 c0 s0 l0 := fun W h => (inF_light h hn0 hA).1
  have HF := Lib.hid hF
  clear hss1 hF hsl
  have HEV : Hid (EvalRes s0 l0 ss ⟨#[]⟩ 3) := Lib.hid (.inl ⟨.inl hbad, rfl, rfl⟩)
  have HBAD := Lib.hid hbad
  clear hbad
  have HL0 := Lib.hid (LE.start (s0 := s0) w ha0 hss htab he)
  clear ha0 hss htab he
  obtain ⟨a0, a1, a2, a3⟩ := HL0.out.a.cell
  go_enter Tryz.func4, Tryz.ntmps4
  go_wp2_with fail
  refine (Light_any s0 x0 n0 c0 l0 true _ HL0.out.fa hm0 (Lib.hid hA)).mono ?_
  rintro e w1 ⟨rfl, hb⟩
  have HL1 := Lib.hid (HL0.out.keep hb)
  clear hb a0 a1 a2 a3
  obtain ⟨a0, a1, a2, a3⟩ := HL1.out.a.cell
  go_wp2_with fail
  refine (lshort_any x2 n2 c2 ss true _ HL1.out.vs (by omega) (Lib.hid hS)).mono ?_
  rintro e w3 ⟨rfl, hww⟩
  rw [← hww]
  clear hww w3
  go_wp2_with fail
  refine (lread_bad s0 x0 n0 c0 l0 _ (HF.out _ HL1.out.fa) HBAD.out).mono ?_
  rintro e w3 ⟨rfl, hb⟩
  have HL3 := Lib.hid ((HL1.out.keep hb).keep ((Below.refl _ w3).alloc (Nat.le_refl _) (.cells #[.slice none 0 0, .bool false, .slice none 0 0, .bool false, .slice none 0 0] 35)))
  have HB3 := Lib.hid (B5.new w3 (.slice none 0 0) (.bool false) (.slice none 0 0) (.bool false) (.slice none 0 0) 35)
  clear hb a0 a1 a2 a3
  obtain ⟨a0, a1, a2, a3⟩ := HL3.out.a.cell
  obtain ⟨d0, d1, d2, d3, d4⟩ := HB3.out.cell
  go_wp2_with fail
  refine (Coef_any s0 x0 n0 c0 l0 col ⟨#[48]⟩ _ (HF.out _ HL3.out.fa) HBAD.out rfl).mono ?_
  rintro e w4 ⟨rfl, hb⟩
  have HL4 := Lib.hid (HL3.out.keep hb)
  clear hb a0 a1 a2 a3 d0 d1 d2 d3 d4
  obtain ⟨a0, a1, a2, a3⟩ := HL4.out.a.cell
  go_wp2_with fail
  refine (Eval_all s0 l0 ss x0 x2 n0 c0 n2 c2 ⟨#[]⟩ 3 _ (HF.out _ HL4.out.fa) HL4.out.vs HSS.out.1 HSL.out HL4.out.tab HEV).mono ?_
  rintro e w5 ⟨rfl, hb⟩
  have HL5 := Lib.hid (HL4.out.keep hb)
  clear hb a0 a1 a2 a3
  obtain ⟨a0, a1, a2, a3⟩ := HL5.out.a.cell
  go_wp2_with fail
  refine (rVals_any x2 n2 c2 ss _ HL5.out.vs HSS.out.1 (by omega)).mono ?_
  rintro e w6 ⟨hb, ho⟩
  have HL6 := Lib.hid (HL5.out.keep hb)
  clear hb a0 a1 a2 a3
  obtain ⟨a0, a1, a2, a3⟩ := HL6.out.a.cell
  rcases ho with ⟨_, rfl⟩ | ⟨vs, v, cs, _, _, rfl, _⟩
  · skip
    go_wp2_with fail
    refine (lawake_any _ HL6.out.tab HL6.out.ers).mono ?_
    rintro e wz ⟨rfl, hb⟩
    have HZ := Lib.hid (HL6.out.below.trans (hb.mono HL6.out.below.size))
    clear hb
    go_wp2
    go_ret
    exact ⟨rfl, HZ.out⟩
  · skip
    go_wp2_with fail
    refine (lawake_any _ HL6.out.tab HL6.out.ers).mono ?_
    rintro e wz ⟨rfl, hb⟩
    have HZ := Lib.hid (HL6.out.below.trans (hb.mono HL6.out.below.size))
    clear hb
    go_wp2
    go_ret
    exact ⟨rfl, HZ.out⟩

set_option maxRecDepth 100000 in
set_option maxHeartbeats 6400000 in
theorem evals_good (x0 : Option Addr) (n0 c0 : Nat) (s0 : ByteArray) (l0 : List Tm) (x2 : Option Addr) (n2 c2 : Nat) (ss : List ByteArray) (col : Int) (w : World) (htab : Tab w) (he : Ers w)
    (ha0 : TsAt w (.slice x0 n0 c0) l0) (hn0 : x0 = none → c0 = 0) (hm0 : n0 ≤ 9223372036854775807) (hss : SsAt w (.slice x2 n2 c2) ss) (hA : lightB s0 l0 = true) (h12 : ¬ (12 : Int) < n2) (hS : shortC ss = true) (hok : checkErr s0 l0 = 0) :
    Calls Tryz.prog 4 #[.agg #[.slice x0 n0 c0, .string s0], .slice x2 n2 c2, .int .i64 col] w fun e w' => e = .returned (.bool true) ∧ Below w.heap.size w w' := by
  have hss1 : ∀ s ∈ ss, s.size ≤ 100000 := fun s hs => by
    unfold shortC at hS
    rw [List.all_eq_true] at hS
    have := of_decide_eq_true (hS s hs)
    omega
  have hsl : ss.length = n2 := by obtain ⟨_, _, _, e1, e2, _⟩ := hss; cases e1; exact e2.symm
  have HSS := Lib.hid (And.intro hss1 hsl)
  have HSL : Hid (ss.length ≤ 1000) := Lib.hid (by omega)
  have hF : ∀ W, TsAt W (.slice x0 n0 c0) l0 → InF W x0 n0 c0 s0 l0 := fun W h => (inF_light h hn0 hA).1
  have HF := Lib.hid hF
  clear hss1 hF hsl
  obtain ⟨qc, q, hlq, hin⟩ := (HF.out _ ha0).valid hok
  subst hlq
  have hx := hin.is_
  have hsq := hin.short
  have hfo := hin.fo
  have hV : ∀ W, TsAt W (.slice x0 n0 c0) (tms q) → InV W x0 n0 c0 qc s0 q := fun W h => ⟨HF.out W h, hx, hsq, hfo⟩
  have HV := Lib.hid hV
  have hpos : ∀ p ∈ q, 0 ≤ p.1 := fun p hp => (hfo.1 p hp).1.1
  have hm2 : colsOf q ≤ 2048 := colsUp_bound q 0 (by omega) (fun p hp => (hfo.1 p hp).1)
  obtain ⟨m, hm⟩ : ∃ m, colsOf q = m := ⟨_, rfl⟩
  rw [hm] at hm2
  obtain ⟨r, hr⟩ : ∃ r, co q col = r := ⟨_, rfl⟩
  obtain ⟨sr, hsr⟩ : ∃ sr, txt r = sr := ⟨_, rfl⟩
  have HR : Hid ((if 0 ≤ col ∧ col < (m : Int) then co q col else 0) = r) := Lib.hid (by rw [← hm, co_cut hpos, hr])
  have HSR : Hid (txt (co q col) = sr) := Lib.hid (by rw [hr, hsr])
  have HSR2 : Hid (True ∧ sr = ⟨(rt r).toArray⟩) := Lib.hid ⟨trivial, hsr.symm⟩
  have hls := light_sizes hA
  have HTR : Hid (RT 120 r) := Lib.hid (by rw [← hr]; exact co_ten hls.1 hfo col)
  have HTC : Hid (∀ c, RT 120 (co q c)) := Lib.hid (co_ten hls.1 hfo)
  have HM := Lib.hid (And.intro trivial hm)
  have HFO := Lib.hid (And.intro hx (And.intro hsq (And.intro hfo hpos)))
  have HSC := Lib.hid (And.intro trivial hS)
  obtain ⟨sx, ex, hex⟩ := EvalRes.ex s0 (tms q) ss
  have HEV := Lib.hid hex
  clear hV hin hx hsq hfo hpos hm hr hsr hls hex hok
  have HL0 := Lib.hid (LE.start (s0 := s0) w ha0 hss htab he)
  clear ha0 hss htab he
  obtain ⟨a0, a1, a2, a3⟩ := HL0.out.a.cell
  go_enter Tryz.func4, Tryz.ntmps4
  go_wp2_with fail
  refine (Light_any s0 x0 n0 c0 (tms q) true _ HL0.out.fa hm0 (Lib.hid hA)).mono ?_
  rintro e w1 ⟨rfl, hb⟩
  have HL1 := Lib.hid (HL0.out.keep hb)
  clear hb a0 a1 a2 a3
  obtain ⟨a0, a1, a2, a3⟩ := HL1.out.a.cell
  go_wp2_with fail
  refine (lshort_any x2 n2 c2 ss true _ HL1.out.vs (by omega) (Lib.hid hS)).mono ?_
  rintro e w3 ⟨rfl, hww⟩
  rw [← hww]
  clear hww w3
  go_wp2_with fail
  refine (lread_good qc s0 x0 n0 c0 q _ (HV.out _ HL1.out.fa)).mono ?_
  rintro e w3 ⟨⟨v, rfl, sv, cs, c4, rfl, hrow, hnum⟩, hb⟩
  obtain ⟨i1, j1, k1, l1, i2, j2, k2, l2, rfl⟩ := hnum.expl
  obtain ⟨asl, cas, hsv⟩ := hrow.slice
  rw [rowOf_length, HM.out.2] at hsv
  subst hsv
  rw [HM.out.2] at hrow
  have hC : Below w3.heap.size w3 (w3.alloc (.cells #[.slice asl m cas, .bool i1, .slice j1 k1 l1, .bool i2, .slice j2 k2 l2] 35)) := (Below.refl _ w3).alloc (Nat.le_refl _) _
  have HL3 := Lib.hid ((HL1.out.keep hb).keep hC)
  have HB3 := Lib.hid (B5.new w3 (.slice asl m cas) (.bool i1) (.slice j1 k1 l1) (.bool i2) (.slice j2 k2 l2) 35)
  have HRW3 := Lib.hid (hrow.keep hC)
  have HNM3 := Lib.hid (hnum.keep hC (Nat.le_refl _))
  clear hrow hnum hb hC a0 a1 a2 a3
  obtain ⟨a0, a1, a2, a3⟩ := HL3.out.a.cell
  obtain ⟨d0, d1, d2, d3, d4⟩ := HB3.out.cell
  go_wp2_with fail
  refine (rCoef_any _ _ _ _ _ _ _ _ _ _ m (co q) cs col r _ HRW3.out HR).mono ?_
  rintro e w4 ⟨v4, rfl, hv4, hb⟩
  have HL4 := Lib.hid (HL3.out.keep hb)
  have HB4 := Lib.hid (HB3.out.keep hb)
  have HRW4 := Lib.hid (HRW3.out.keep hb)
  have HNM4 := Lib.hid (HNM3.out.keep hb (Nat.le_refl _))
  have HX4 := Lib.hid hv4
  clear hb hv4 a0 a1 a2 a3 d0 d1 d2 d3 d4
  go_wp2_with fail
  refine (rrText_any v4 r sr 120 _ HX4.out HTR.out (by omega) HSR2).mono ?_
  rintro e w5 ⟨rfl, hb⟩
  have HL5 := Lib.hid (HL4.out.keep hb)
  have HB5 := Lib.hid (HB4.out.keep hb)
  have HRW5 := Lib.hid (HRW4.out.keep hb)
  have HNM5 := Lib.hid (HNM4.out.keep hb (Nat.le_refl _))
  clear hb
  obtain ⟨a0, a1, a2, a3⟩ := HL5.out.a.cell
  go_wp2_with fail
  refine (Coef_good qc s0 x0 n0 c0 q col sr _ (HV.out _ HL5.out.fa) HSR).mono ?_
  rintro e w6 ⟨rfl, hb⟩
  have HL6 := Lib.hid (HL5.out.keep hb)
  have HB6 := Lib.hid (HB5.out.keep hb)
  have HRW6 := Lib.hid (HRW5.out.keep hb)
  have HNM6 := Lib.hid (HNM5.out.keep hb (Nat.le_refl _))
  clear hb a0 a1 a2 a3
  obtain ⟨a0, a1, a2, a3⟩ := HL6.out.a.cell
  go_wp2_with fail
  refine (Eval_all s0 (tms q) ss x0 x2 n0 c0 n2 c2 sx ex _ (HF.out _ HL6.out.fa) HL6.out.vs HSS.out.1 HSL.out HL6.out.tab HEV).mono ?_
  rintro e w7 ⟨rfl, hb⟩
  have HL7 := Lib.hid (HL6.out.keep hb)
  have HB7 := Lib.hid (HB6.out.keep hb)
  have HRW7 := Lib.hid (HRW6.out.keep hb)
  have HNM7 := Lib.hid (HNM6.out.keep hb (Nat.le_refl _))
  clear hb a0 a1 a2 a3
  go_wp2_with fail
  refine (rVals_any x2 n2 c2 ss _ HL7.out.vs HSS.out.1 (by omega)).mono ?_
  rintro e w8 ⟨hb, ho⟩
  have HL8 := Lib.hid (HL7.out.keep hb)
  have HB8 := Lib.hid (HB7.out.keep hb)
  have HRW8 := Lib.hid (HRW7.out.keep hb)
  have HNM8 := Lib.hid (HNM7.out.keep hb (Nat.le_refl _))
  clear hb
  rcases ho with ⟨hno, rfl⟩ | ⟨vs, v, cs2, hvs, hvsh, rfl, hrow⟩
  · obtain ⟨rfl, rfl⟩ := HEV.out.noVals hno
    clear hno
    go_wp2_with fail
    refine (lawake_any _ HL8.out.tab HL8.out.ers).mono ?_
    rintro e wz ⟨rfl, hb⟩
    have HZ := Lib.hid (HL8.out.below.trans (hb.mono HL8.out.below.size))
    clear hb
    go_wp2
    go_ret
    exact ⟨rfl, HZ.out⟩
  · have hev := HEV.out
    rw [hvs, ← HFO.out.1] at hev
    have hev := hev.is HFO.out.2.1 HFO.out.2.2.1 hvsh
    have hnl : vs.length = n2 := by
      have := HSS.out.2
      rw [hvs] at this
      simpa [valsQ] using this
    have HVT : Hid (∀ x ∈ vs, RT 120 x) := Lib.hid (vals_ten HSC.out.2 hvs hvsh)
    have HVS := Lib.hid hvsh
    have HVR := Lib.hid hrow
    obtain ⟨d0, d1, d2, d3, d4⟩ := HB8.out.cell
    have hcb := cols_beyond HFO.out.2.2.2 n2
    rw [HM.out.2] at hcb
    unfold EvalIs at hev
    rw [hnl] at hev
    clear hrow hvsh hvs
    by_cases hbey : ∃ p ∈ q, (n2 : Int) ≤ p.1
    · rw [if_pos hbey] at hev
      obtain ⟨rfl, rfl⟩ := hev
      have hgt : (n2 : Int) < m := by have := hcb.2 hbey; omega
      clear hcb hbey hnl
      go_wp2_with fail
      refine (lawake_any _ HL8.out.tab HL8.out.ers).mono ?_
      rintro e wz ⟨rfl, hb⟩
      have HZ := Lib.hid (HL8.out.below.trans (hb.mono HL8.out.below.size))
      clear hb
      go_wp2
      go_ret
      exact ⟨rfl, HZ.out⟩
    · rw [if_neg hbey] at hev
      have hle : ¬ (n2 : Int) < m := fun h => hbey (hcb.1 (by omega))
      have hml : m ≤ vs.length := by omega
      have hall : formUp (co q) m = q := by have := formUp_all HFO.out.2.2.1; rwa [HM.out.2] at this
      have HAL := Lib.hid hall
      clear hcb hbey hall
      go_wp2_with fail
      refine (rEval_any _ v _ _ _ _ _ _ _ _ _ _ m (co q) cs cs2 qc vs _ HRW8.out HNM8.out HVR.out HFO.out.2.2.1.co HFO.out.2.1 HVS.out hml hm2 HTC.out HVT.out).mono ?_
      rintro e w9 ⟨⟨M1, N1, J1, D1, M2, N2, J2, D2, b, rfl, hres⟩, hb⟩
      have hC : Below w9.heap.size w9 (w9.alloc (.cells #[.bool M1, .slice N1 J1 D1, .bool M2, .slice N2 J2 D2] 33)) := (Below.refl _ w9).alloc (Nat.le_refl _) _
      have HL9 := Lib.hid ((HL8.out.keep hb).keep hC)
      have HX9 := Lib.hid (B4.new w9 (.bool M1) (.slice N1 J1 D1) (.bool M2) (.slice N2 J2 D2) 33)
      rw [HAL.out] at hres
      clear hb d0 d1 d2 d3 d4
      cases hev2 : evalQ qc q (atQ vs) with
      | none =>
        rw [hev2] at hev hres
        obtain ⟨rfl, rfl⟩ := hev
        dsimp only at hres
        subst hres
        clear hev2 hC
        go_wp2_with fail
        refine (lawake_any _ HL9.out.tab HL9.out.ers).mono ?_
        rintro e wz ⟨rfl, hb⟩
        have HZ := Lib.hid (HL9.out.below.trans (hb.mono HL9.out.below.size))
        clear hb
        go_wp2
        go_ret
        exact ⟨rfl, HZ.out⟩
      | some t =>
        rw [hev2] at hev hres
        obtain ⟨rfl, rfl⟩ := hev
        obtain ⟨rfl, hres⟩ := hres
        have hts := evalQ_short q qc (atQ vs) t HFO.out.2.1 hev2
        have HT := Lib.hid (RT.of hts)
        have HRS := Lib.hid (hres.keep hC (Nat.le_refl _))
        obtain ⟨ts, hts2⟩ : ∃ ts, txt t = ts := ⟨_, rfl⟩
        have HTS : Hid (True ∧ ts = ⟨(rt t).toArray⟩) := Lib.hid ⟨trivial, hts2.symm⟩
        rw [hts2]
        clear hev2 hC hts hts2 hres
        obtain ⟨d0, d1, d2, d3⟩ := HX9.out.cell
        go_wp2_with fail
        refine (rrText_any _ t ts 400 _ HRS.out HT.out (by omega) HTS).mono ?_
        rintro e w10 ⟨rfl, hb⟩
        have HL10 := Lib.hid (HL9.out.keep hb)
        clear hb d0 d1 d2 d3
        go_wp2_with fail
        refine (lawake_any _ HL10.out.tab HL10.out.ers).mono ?_
        rintro e wz ⟨rfl, hb⟩
        have HZ := Lib.hid (HL10.out.below.trans (hb.mono HL10.out.below.size))
        clear hb
        go_wp2
        go_ret
        exact ⟨rfl, HZ.out⟩

theorem law_LinearEvals (x0 : Option Addr) (n0 c0 : Nat) (s0 : ByteArray) (l0 : List Tm) (x2 : Option Addr) (g2 o2 c2 : Nat) (ss : List ByteArray) (n2 : Nat) (e2 : ss.length = n2) (col : Int) (hcol : -9223372036854775808 ≤ col ∧ col ≤ 9223372036854775807) (w : World)
    (ha0 : TsAt w (.slice x0 n0 c0) l0) (hn0 : x0 = none → c0 = 0) (hm0 : n0 ≤ 9223372036854775807)
    (ha2 : n2 = 0 ∨ x2 = some ⟨g2, o2, none⟩ ∧ g2 < w.heap.size) (hk2 : n2 ≤ c2) (hc2 : ∀ (i : Nat) (h : i < ss.length), w.cell? ⟨g2, o2 + i, none⟩ = some (.string ss[i])) (htab : Tab w) (he : Ers w) :
    Calls Tryz.prog 4 #[.agg #[.slice x0 n0 c0, .string s0], .slice x2 n2 c2, .int .i64 col] w fun e w' => e = .returned (.bool true) ∧ Below w.heap.size w w' := by
  have hss : SsAt w (.slice x2 n2 c2) ss := ⟨_, _, _, rfl, e2.symm, ha2.elim .inl (fun h => .inr ⟨g2, o2, h.1, h.2, hc2⟩)⟩
  cases hA : lightB s0 l0 with
  | false => exact evals_out1 x0 n0 c0 s0 l0 x2 n2 c2 ss col w htab he ha0 hn0 hm0 hss hA
  | true =>
    by_cases h12 : (12 : Int) < n2
    · exact evals_out2 x0 n0 c0 s0 l0 x2 n2 c2 ss col w htab he ha0 hn0 hm0 hss hA h12
    · cases hS : shortC ss with
      | false => exact evals_out3 x0 n0 c0 s0 l0 x2 n2 c2 ss col w htab he ha0 hn0 hm0 hss hA h12 hS
      | true =>
        by_cases hok : checkErr s0 l0 = 0
        · exact evals_good x0 n0 c0 s0 l0 x2 n2 c2 ss col w htab he ha0 hn0 hm0 hss hA h12 hS hok
        · exact evals_bad x0 n0 c0 s0 l0 x2 n2 c2 ss col w htab he ha0 hn0 hm0 hss hA h12 hS hok

end Go.Proofs.YtkhdocdddicgpaaGreatDoor
