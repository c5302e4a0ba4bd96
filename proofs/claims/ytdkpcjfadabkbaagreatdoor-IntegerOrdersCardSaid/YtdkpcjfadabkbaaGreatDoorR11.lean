/- What the reference's Neg, Add and Sub do. -/
import Derived.Test.YtdkpcjfadabkbaaGreatDoorR10
set_option linter.unusedVariables false
set_option linter.unusedSimpArgs false
namespace Go.Proofs.YtdkpcjfadabkbaaGreatDoor
open Go.RowKit _root_.Go.Proofs.YtdkpcjfadabkbaaGreatDoor.Nm

theorem isNeg_not (z : Int) (n : Nat) (h : z.natAbs = n) : sz (!isNeg z) n = -z := by rw [← h]; exact sz_not z

set_option maxRecDepth 100000 in
set_option maxHeartbeats 1600000 in
theorem rNeg_any (v : Value) (z : Int) (w : World) (h : Ref w v z) :
    Calls Tryz.prog 25 #[v] w (RefPost (-z) w) := by
  obtain ⟨a, c, rfl⟩ := h.form
  obtain ⟨sv, hv, hr⟩ := id h
  simp only [Value.agg.injEq, Array.mk.injEq, List.cons.injEq, and_true] at hv
  obtain ⟨_, rfl⟩ := hv
  have HZ : Hid (True ∧ sz (!isNeg z) (dval (dg z.natAbs)) = -z) := Lib.hid ⟨trivial, by rw [dval_dg]; exact sz_not z⟩
  obtain ⟨y, hy⟩ : ∃ y, -z = y := ⟨_, rfl⟩
  rw [hy] at HZ ⊢
  obtain ⟨nb, hnb⟩ : ∃ b, isNeg z = b := ⟨_, rfl⟩
  rw [hnb] at HZ ⊢
  obtain ⟨xs, hx⟩ : ∃ xs, dg z.natAbs = xs := ⟨_, rfl⟩
  have HX : Hid (∀ x ∈ xs, x < 10) := Lib.hid (by rw [← hx]; exact dg_lt _)
  rw [hx] at hr HZ ⊢
  have HS := Lib.hid (St2.start w (.bool nb) (.slice a xs.length c) (.bool false) (.slice none 0 0) 30 30)
  have HR := Lib.hid (hr.keep (boxes2 w (.cells #[.bool nb, .slice a xs.length c] 30) (.cells #[.bool false, .slice none 0 0] 30)) (Nat.le_refl _))
  clear h hr hnb hx hy
  obtain ⟨c0, c1, c2, c3, c4, c5, c6, c7⟩ := HS.out.cells
  go_enter Tryz.func25, Tryz.ntmps25
  go_wp2_with fail
  refine (make0_any (!nb) _ xs _ HR.out HX.out).mono ?_
  rintro e w2 ⟨v, rfl, hv, hb⟩
  rw [HZ.out.2] at hv
  obtain ⟨a2, k2, rfl⟩ := hv.form
  have HS2 := Lib.hid (HS.out.next hb (Nat.le_refl _))
  have HV := Lib.hid hv
  clear hv hb c0 c1 c2 c3 c4 c5 c6 c7
  obtain ⟨d0, d1, d2, d3, d4, d5, d6, d7⟩ := HS2.out.cells
  obtain ⟨_, _, f2, f3⟩ := HS2.out.2.2.2.cell
  go_wp2
  obtain ⟨l0, l1, _, _⟩ := (HS2.out.2.2.2.put (.bool (isNeg y)) (.slice a2 (dg y.natAbs).length k2)).cell
  refine bodyPost_ret (v := .agg #[.bool (isNeg y), .slice a2 (dg y.natAbs).length k2]) (by simp only [results, Tryz.results25]; simp [go_sem, l0, l1]) rfl ?_
  exact RefPost.boxed HV.out HS2.out.2.2.2 HS2.out.1 (by omega)

set_option maxRecDepth 100000 in
set_option maxHeartbeats 6400000 in
theorem rAdd_any (v1 v2 : Value) (x y : Int) (w : World) (h1 : Ref w v1 x) (h2 : Ref w v2 y) (lx : (dg x.natAbs).length ≤ 2000) (ly : (dg y.natAbs).length ≤ 2000) :
    Calls Tryz.prog 14 #[v1, v2] w (RefPost (x + y) w) := by
  obtain ⟨sa, rfl, hra⟩ := h1
  obtain ⟨sb, rfl, hrb⟩ := h2
  have hsame : isNeg x = isNeg y → sz (isNeg x) (x.natAbs + y.natAbs) = x + y := add_same x y
  have hless : (isNeg x == isNeg y) = false → x.natAbs ≤ y.natAbs → sz (isNeg y) (y.natAbs - x.natAbs) = x + y := add_less x y
  have hmore : (isNeg x == isNeg y) = false → y.natAbs ≤ x.natAbs → sz (isNeg x) (x.natAbs - y.natAbs) = x + y := add_more x y
  obtain ⟨m, hm⟩ : ∃ m, x.natAbs = m := ⟨_, rfl⟩
  obtain ⟨n, hn⟩ : ∃ m, y.natAbs = m := ⟨_, rfl⟩
  rw [hm, hn] at hsame hless hmore
  rw [hm] at hra lx
  rw [hn] at hrb ly
  obtain ⟨n1, hn1⟩ : ∃ b, isNeg x = b := ⟨_, rfl⟩
  obtain ⟨n2, hn2⟩ : ∃ b, isNeg y = b := ⟨_, rfl⟩
  rw [hn1, hn2] at hsame hless hmore ⊢
  obtain ⟨r, hr⟩ : ∃ r, x + y = r := ⟨_, rfl⟩
  rw [hr] at hsame hless hmore ⊢
  clear hm hn hn1 hn2 hr
  have HS1 := Lib.hid hsame
  have HL1 := Lib.hid hless
  have HM1 := Lib.hid hmore
  obtain ⟨xs, hx⟩ : ∃ xs, dg m = xs := ⟨_, rfl⟩
  obtain ⟨ys, hy⟩ : ∃ xs, dg n = xs := ⟨_, rfl⟩
  have hvx : dval xs = m := by rw [← hx, dval_dg]
  have hvy : dval ys = n := by rw [← hy, dval_dg]
  have HXX : Hid (∀ z ∈ xs, z < 10) := Lib.hid (by rw [← hx]; exact dg_lt _)
  have HYY : Hid (∀ z ∈ ys, z < 10) := Lib.hid (by rw [← hy]; exact dg_lt _)
  have HVX := Lib.hid (And.intro trivial hvx)
  have HVY := Lib.hid (And.intro trivial hvy)
  have HDX := Lib.hid (And.intro trivial hx)
  have HDY := Lib.hid (And.intro trivial hy)
  rw [hx] at hra lx
  rw [hy] at hrb ly
  obtain ⟨aa, ca, rfl, _⟩ := id hra
  obtain ⟨ab, cb, rfl, _⟩ := id hrb
  have HS0 := Lib.hid (St.start w (.bool n1) (.slice aa xs.length ca) (.bool n2) (.slice ab ys.length cb) (.bool false) (.slice none 0 0) 30 30 30)
  have HRA := Lib.hid (hra.keep HS0.out.1 (Nat.le_refl _))
  have HRB := Lib.hid (hrb.keep HS0.out.1 (Nat.le_refl _))
  clear hsame hless hmore hx hy hvx hvy hra hrb
  by_cases hnn : n1 = n2
  · subst hnn
    have HT : Hid (True ∧ sz n1 (m + n) = r) := Lib.hid ⟨trivial, HS1.out rfl⟩
    clear HS1 HL1 HM1
    obtain ⟨c0, c1, c2, c3, c4, c5, c6, c7⟩ := HS0.out.cells
    go_enter Tryz.func14, Tryz.ntmps14
    go_wp2_with fail
    have HS1 := HS0.out.drew
    clear c0 c1 c2 c3 c4 c5 c6 c7
    obtain ⟨c0, c1, c2, c3, c4, c5, c6, c7⟩ := HS1.cells
    go_region_held3 (fun w' => w'.cell? ⟨w.heap.size, 0, none⟩ = some (.bool n1) ∧ w'.cell? ⟨w.heap.size, 1, none⟩ = some (.slice aa xs.length ca) ∧ w'.cell? ⟨w.heap.size + 1, 0, none⟩ = some (.bool n1) ∧ w'.cell? ⟨w.heap.size + 1, 1, none⟩ = some (.slice ab ys.length cb)) (first | ((try dsimp only); (repeat' apply And.intro); all_goals with_reducible assumption) | go_keep) (first | (go_at_call 32; refine (make0_any n1 _ zs _ (by exact hr5) hz5).mono ?_; rintro e w6 ⟨v6, rfl, hv6, hb6⟩; have hT2 := hT1.next hb6 (Nat.le_refl _); clear d0 d1 d2 d3 d4 d5 d6 d7; obtain ⟨e0, e1, e2, e3, e4, e5, e6, e7⟩ := hT2.cells; rw [hd5, HT.out.2] at hv6; obtain ⟨a6, k6, rfl⟩ := hv6.form; have t0 := (cell_set2 w6 (w.heap.size + 1 + 1) (.bool (isNeg r)) (.slice a6 (dg r.natAbs).length k6) w.heap.size 0 (by omega)).trans e0; have t1 := (cell_set2 w6 (w.heap.size + 1 + 1) (.bool (isNeg r)) (.slice a6 (dg r.natAbs).length k6) w.heap.size 1 (by omega)).trans e1; have t2 := (cell_set2 w6 (w.heap.size + 1 + 1) (.bool (isNeg r)) (.slice a6 (dg r.natAbs).length k6) (w.heap.size + 1) 0 (by omega)).trans e2; have t3 := (cell_set2 w6 (w.heap.size + 1 + 1) (.bool (isNeg r)) (.slice a6 (dg r.natAbs).length k6) (w.heap.size + 1) 1 (by omega)).trans e3) | (go_at_call 34; refine (plus_any _ _ xs ys 1 (m + n) _ (by exact HRA.out.keep (Below.refl _ _).drew (Nat.le_refl _)) (by exact HRB.out.keep (Below.refl _ _).drew (Nat.le_refl _)) (.inl rfl) HXX.out HYY.out (by omega) (by omega) (by omega) (by rw [HVX.out.2, HVY.out.2]; omega)).mono ?_; rintro e w5 ⟨v5, zs, rfl, hr5, hz5, hd5, hb5⟩; have hT1 := HS1.next hb5 (Nat.le_refl _); clear c0 c1 c2 c3 c4 c5 c6 c7; obtain ⟨d0, d1, d2, d3, d4, d5, d6, d7⟩ := hT1.cells; obtain ⟨a5, k5, rfl, _⟩ := id hr5))
    have HS2 := Lib.hid hT2
    have HV6 := Lib.hid hv6
    clear hT1 hT2 hv6 hr5 hz5 hd5 hb5 hb6 HS1 e0 e1 e2 e3 t0 t1 t2 t3
    go_wp2
    obtain ⟨l0, l1, _, _⟩ := (HS2.out.2.2.2.2.put (.bool (isNeg r)) (.slice a6 (dg r.natAbs).length k6)).cell
    refine bodyPost_ret (v := .agg #[.bool (isNeg r), .slice a6 (dg r.natAbs).length k6]) (by simp only [results, Tryz.results14]; simp [go_sem, l0, l1]) rfl ?_
    exact RefPost.boxed HV6.out HS2.out.2.2.2.2 HS2.out.1 (by omega)
  · have hb : (n1 == n2) = false := by cases n1 <;> cases n2 <;> first | rfl | exact absurd rfl hnn
    by_cases hlt : m < n
    · have HT : Hid (True ∧ sz n2 (n - m) = r) := Lib.hid ⟨trivial, HL1.out hb (by omega)⟩
      have HLT := Lib.hid (And.intro trivial hlt)
      clear HS1 HL1 HM1 hnn
      obtain ⟨c0, c1, c2, c3, c4, c5, c6, c7⟩ := HS0.out.cells
      go_enter Tryz.func14, Tryz.ntmps14
      go_wp2_with fail
      refine (rcmp_any _ _ m n _ (by rw [HDX.out.2]; exact HRA.out) (by rw [HDY.out.2]; exact HRB.out)).mono ?_
      rintro e w4 ⟨rfl, kk, rfl⟩
      rw [sgn_lt (show (m : Int) < (n : Int) by have := HLT.out.2; omega)]
      clear hlt
      go_wp2_with fail
      have HS1 := HS0.out.drewN (kk + 1)
      clear c0 c1 c2 c3 c4 c5 c6 c7
      obtain ⟨c0, c1, c2, c3, c4, c5, c6, c7⟩ := HS1.cells
      go_region_held3 (fun w' => w'.cell? ⟨w.heap.size, 0, none⟩ = some (.bool n1) ∧ w'.cell? ⟨w.heap.size, 1, none⟩ = some (.slice aa xs.length ca) ∧ w'.cell? ⟨w.heap.size + 1, 0, none⟩ = some (.bool n2) ∧ w'.cell? ⟨w.heap.size + 1, 1, none⟩ = some (.slice ab ys.length cb)) (first | ((try dsimp only); (repeat' apply And.intro); all_goals with_reducible assumption) | go_keep) (first | (go_at_call 32; refine (make0_any n2 _ zs _ (by exact hr5) hz5).mono ?_; rintro e w6 ⟨v6, rfl, hv6, hb6⟩; have hT2 := hT1.next hb6 (Nat.le_refl _); clear d0 d1 d2 d3 d4 d5 d6 d7; obtain ⟨e0, e1, e2, e3, e4, e5, e6, e7⟩ := hT2.cells; rw [hd5, HT.out.2] at hv6; obtain ⟨a6, k6, rfl⟩ := hv6.form; have t0 := (cell_set2 w6 (w.heap.size + 1 + 1) (.bool (isNeg r)) (.slice a6 (dg r.natAbs).length k6) w.heap.size 0 (by omega)).trans e0; have t1 := (cell_set2 w6 (w.heap.size + 1 + 1) (.bool (isNeg r)) (.slice a6 (dg r.natAbs).length k6) w.heap.size 1 (by omega)).trans e1; have t2 := (cell_set2 w6 (w.heap.size + 1 + 1) (.bool (isNeg r)) (.slice a6 (dg r.natAbs).length k6) (w.heap.size + 1) 0 (by omega)).trans e2; have t3 := (cell_set2 w6 (w.heap.size + 1 + 1) (.bool (isNeg r)) (.slice a6 (dg r.natAbs).length k6) (w.heap.size + 1) 1 (by omega)).trans e3) | (go_at_call 34; refine (plus_any _ _ ys xs (-1) (n - m) _ (by exact HRB.out.keep ⟨rfl, rfl, rfl, Nat.le_refl _, fun _ _ => rfl⟩ (Nat.le_refl _)) (by exact HRA.out.keep ⟨rfl, rfl, rfl, Nat.le_refl _, fun _ _ => rfl⟩ (Nat.le_refl _)) (.inr rfl) HYY.out HXX.out (by intro _; rw [HVX.out.2, HVY.out.2]; have := HLT.out.2; omega) (by omega) (by omega) (by rw [HVX.out.2, HVY.out.2]; have := HLT.out.2; omega)).mono ?_; rintro e w5 ⟨v5, zs, rfl, hr5, hz5, hd5, hb5⟩; have hT1 := HS1.next hb5 (Nat.le_refl _); clear c0 c1 c2 c3 c4 c5 c6 c7; obtain ⟨d0, d1, d2, d3, d4, d5, d6, d7⟩ := hT1.cells; obtain ⟨a5, k5, rfl, _⟩ := id hr5))
      have HS2 := Lib.hid hT2
      have HV6 := Lib.hid hv6
      clear hT1 hT2 hv6 hr5 hz5 hd5 hb5 hb6 HS1 e0 e1 e2 e3 t0 t1 t2 t3
      go_wp2
      obtain ⟨l0, l1, _, _⟩ := (HS2.out.2.2.2.2.put (.bool (isNeg r)) (.slice a6 (dg r.natAbs).length k6)).cell
      refine bodyPost_ret (v := .agg #[.bool (isNeg r), .slice a6 (dg r.natAbs).length k6]) (by simp only [results, Tryz.results14]; simp [go_sem, l0, l1]) rfl ?_
      exact RefPost.boxed HV6.out HS2.out.2.2.2.2 HS2.out.1 (by omega)
    · have HT : Hid (True ∧ sz n1 (m - n) = r) := Lib.hid ⟨trivial, HM1.out hb (by omega)⟩
      have HLT := Lib.hid (And.intro trivial hlt)
      obtain ⟨cr, hcr, hcr0⟩ : ∃ c, sgn (m : Int) (n : Int) = c ∧ ¬ c < 0 := ⟨_, rfl, by unfold sgn; rw [if_neg (by omega)]; split <;> omega⟩
      have HCR := Lib.hid (And.intro trivial hcr)
      clear HS1 HL1 HM1 hnn hcr
      obtain ⟨c0, c1, c2, c3, c4, c5, c6, c7⟩ := HS0.out.cells
      go_enter Tryz.func14, Tryz.ntmps14
      go_wp2_with fail
      refine (rcmp_any _ _ m n _ (by rw [HDX.out.2]; exact HRA.out) (by rw [HDY.out.2]; exact HRB.out)).mono ?_
      rintro e w4 ⟨rfl, kk, rfl⟩
      rw [HCR.out.2]
      clear hlt
      go_wp2_with fail
      have HS1 := HS0.out.drewN (kk + 1)
      clear c0 c1 c2 c3 c4 c5 c6 c7
      obtain ⟨c0, c1, c2, c3, c4, c5, c6, c7⟩ := HS1.cells
      go_region_held3 (fun w' => w'.cell? ⟨w.heap.size, 0, none⟩ = some (.bool n1) ∧ w'.cell? ⟨w.heap.size, 1, none⟩ = some (.slice aa xs.length ca) ∧ w'.cell? ⟨w.heap.size + 1, 0, none⟩ = some (.bool n2) ∧ w'.cell? ⟨w.heap.size + 1, 1, none⟩ = some (.slice ab ys.length cb)) (first | ((try dsimp only); (repeat' apply And.intro); all_goals with_reducible assumption) | go_keep) (first | (go_at_call 32; refine (make0_any n1 _ zs _ (by exact hr5) hz5).mono ?_; rintro e w6 ⟨v6, rfl, hv6, hb6⟩; have hT2 := hT1.next hb6 (Nat.le_refl _); clear d0 d1 d2 d3 d4 d5 d6 d7; obtain ⟨e0, e1, e2, e3, e4, e5, e6, e7⟩ := hT2.cells; rw [hd5, HT.out.2] at hv6; obtain ⟨a6, k6, rfl⟩ := hv6.form; have t0 := (cell_set2 w6 (w.heap.size + 1 + 1) (.bool (isNeg r)) (.slice a6 (dg r.natAbs).length k6) w.heap.size 0 (by omega)).trans e0; have t1 := (cell_set2 w6 (w.heap.size + 1 + 1) (.bool (isNeg r)) (.slice a6 (dg r.natAbs).length k6) w.heap.size 1 (by omega)).trans e1; have t2 := (cell_set2 w6 (w.heap.size + 1 + 1) (.bool (isNeg r)) (.slice a6 (dg r.natAbs).length k6) (w.heap.size + 1) 0 (by omega)).trans e2; have t3 := (cell_set2 w6 (w.heap.size + 1 + 1) (.bool (isNeg r)) (.slice a6 (dg r.natAbs).length k6) (w.heap.size + 1) 1 (by omega)).trans e3) | (go_at_call 34; refine (plus_any _ _ xs ys (-1) (m - n) _ (by exact HRA.out.keep ⟨rfl, rfl, rfl, Nat.le_refl _, fun _ _ => rfl⟩ (Nat.le_refl _)) (by exact HRB.out.keep ⟨rfl, rfl, rfl, Nat.le_refl _, fun _ _ => rfl⟩ (Nat.le_refl _)) (.inr rfl) HXX.out HYY.out (by intro _; rw [HVX.out.2, HVY.out.2]; have := HLT.out.2; omega) (by omega) (by omega) (by rw [HVX.out.2, HVY.out.2]; have := HLT.out.2; omega)).mono ?_; rintro e w5 ⟨v5, zs, rfl, hr5, hz5, hd5, hb5⟩; have hT1 := HS1.next hb5 (Nat.le_refl _); clear c0 c1 c2 c3 c4 c5 c6 c7; obtain ⟨d0, d1, d2, d3, d4, d5, d6, d7⟩ := hT1.cells; obtain ⟨a5, k5, rfl, _⟩ := id hr5))
      have HS2 := Lib.hid hT2
      have HV6 := Lib.hid hv6
      clear hT1 hT2 hv6 hr5 hz5 hd5 hb5 hb6 HS1 e0 e1 e2 e3 t0 t1 t2 t3
      go_wp2
      obtain ⟨l0, l1, _, _⟩ := (HS2.out.2.2.2.2.put (.bool (isNeg r)) (.slice a6 (dg r.natAbs).length k6)).cell
      refine bodyPost_ret (v := .agg #[.bool (isNeg r), .slice a6 (dg r.natAbs).length k6]) (by simp only [results, Tryz.results14]; simp [go_sem, l0, l1]) rfl ?_
      exact RefPost.boxed HV6.out HS2.out.2.2.2.2 HS2.out.1 (by omega)

end Go.Proofs.YtdkpcjfadabkbaaGreatDoor
