/- What the reference's Mul does. -/
import Derived.Test.YtdkpcjfadabkbaaGreatDoorR2
import Derived.Test.YtdkpcjfadabkbaaGreatDoorR5
set_option linter.unusedVariables false
set_option linter.unusedSimpArgs false
namespace Go.Proofs.YtdkpcjfadabkbaaGreatDoor
open Go.RowKit _root_.Go.Proofs.YtdkpcjfadabkbaaGreatDoor.Nm

theorem mul_sz2 (a b : Int) : sz (isNeg a != isNeg b) (a.natAbs * b.natAbs) = a * b := mul_sz a b

theorem pred_cast (q : Nat) : ((q + 1 : Nat) : Int) - 1 = (q : Nat) := by omega

/-- The row that is being filled. -/
structure Out (g L V : Nat) (w1 wr : World) (os : List Nat) : Prop where
  own : Own .i64 3 wr g os
  only : Only g w1 wr
  len : os.length = L
  lt : ∀ x ∈ os, x < 10
  val : dval os = V

theorem Out.of_eq {g L V V' : Nat} {w1 wr : World} {os : List Nat} (h : Out g L V w1 wr os) (e : V = V') : Out g L V' w1 wr os := by subst e; exact h

theorem Out.drewN {g L V : Nat} {w1 wr : World} {os : List Nat} (h : Out g L V w1 wr os) (n : Nat) : Out g L V w1 (wr.drewN n) os := ⟨h.own, h.only.drewN n, h.len, h.lt, h.val⟩

/-- A row while something is carried. -/
structure Car (g L T : Nat) (w1 wr : World) (os : List Nat) (p x : Nat) : Prop where
  own : Own .i64 3 wr g os
  only : Only g w1 wr
  cy : Cy L T os p x

set_option maxRecDepth 100000 in
set_option maxHeartbeats 6400000 in
theorem rMul_any (v1 v2 : Value) (x y : Int) (w : World) (h1 : Ref w v1 x) (h2 : Ref w v2 y) (lx : (dg x.natAbs).length ≤ 1000) (ly : (dg y.natAbs).length ≤ 1000) :
    Calls Tryz.prog 42 #[v1, v2] w (RefPost (x * y) w) := by
  obtain ⟨sa, rfl, hra⟩ := h1
  obtain ⟨sb, rfl, hrb⟩ := h2
  obtain ⟨xs, hx⟩ : ∃ xs, dg x.natAbs = xs := ⟨_, rfl⟩
  obtain ⟨ys, hy⟩ : ∃ xs, dg y.natAbs = xs := ⟨_, rfl⟩
  rw [hx] at hra lx
  rw [hy] at hrb ly
  have HV : Hid (True ∧ sz (isNeg x != isNeg y) (dval xs * dval ys) = x * y) := Lib.hid ⟨trivial, by rw [← hx, ← hy, dval_dg, dval_dg]; exact mul_sz x y⟩
  have HX : Hid (∀ z ∈ xs, z < 10) := Lib.hid (by rw [← hx]; exact dg_lt _)
  have HY : Hid (∀ z ∈ ys, z < 10) := Lib.hid (by rw [← hy]; exact dg_lt _)
  obtain ⟨n1, hn1⟩ : ∃ b, isNeg x = b := ⟨_, rfl⟩
  obtain ⟨n2, hn2⟩ : ∃ b, isNeg y = b := ⟨_, rfl⟩
  rw [hn1, hn2] at HV
  rw [hn1, hn2]
  obtain ⟨aa, ca, rfl, _, _, h3a⟩ := id hra
  obtain ⟨ab, cb, rfl, _, _, h3b⟩ := id hrb
  have H3A := Lib.hid h3a
  have H3B := Lib.hid h3b
  obtain ⟨la, hla⟩ : ∃ l, xs.length = l := ⟨_, rfl⟩
  obtain ⟨lb, hlb⟩ : ∃ l, ys.length = l := ⟨_, rfl⟩
  have HLA := Lib.hid (And.intro trivial hla)
  have HLB := Lib.hid (And.intro trivial hlb)
  have hS0 := St.start w (.bool n1) (.slice aa la ca) (.bool n2) (.slice ab lb cb) (.bool false) (.slice none 0 0) 30 30 30
  have HS0 := Lib.hid hS0
  rw [hla, hlb]
  rw [hla] at lx
  rw [hlb] at ly
  obtain ⟨i0, hi, hz0, hz1, hz2⟩ := info_parts info64
  have HI := Lib.hid hi
  have HZ0 := Lib.hid hz0
  have HZ1 := Lib.hid hz1
  have HZ2 := Lib.hid hz2
  clear hi hz0 hz1 hz2 hra hrb hx hy hn1 hn2 hla hlb h3a h3b
  obtain ⟨c0, c1, c2, c3, c4, c5, c6, c7⟩ := hS0.cells
  clear hS0 c4 c5 c6 c7
  go_enter Tryz.func42, Tryz.ntmps42
  go_wp2_with (refine wpList_make_full _ rfl (.tmp 16) (.tmp 16) 28 rfl (w.heap.size + 3) 3 i0 (.int .i64 0) 1 Tryz.underlying28 HI.out HZ0.out HZ1.out .i64 .i64 _ _ (la + lb) rfl rfl (by simp) (by simp) (by rw [HZ2.out]; omega) (by unfold maxLen; omega) (by simp) ?_; intro w1 hown hgrow; refine hold ?_)
  rw [made_zeros] at hown
  rw [World.size_alloc, World.size_alloc, World.size_alloc] at hown
  obtain ⟨hO, _⟩ := own_of_full (by simp) hown
  have hg1 := (Below.refl _ _).grown hgrow (Nat.le_refl _) (fun k hk => by simp at hk)
  have hS1 := HS0.out.next hg1 (Nat.le_refl _)
  have HS1 := Lib.hid hS1
  have HO1 : Hid (Out (w.heap.size + 1 + 1 + 1) (la + lb) 0 w1 w1 (List.replicate (la + lb) 0)) := Lib.hid ⟨hO, Only.refl _ _, by simp, by intro z hz; rw [List.mem_replicate] at hz; omega, dval_zeros _⟩
  clear c0 c1 c2 c3
  obtain ⟨c0, c1, c2, c3, c4, c5, f0, f1⟩ := hS1.cells
  obtain ⟨g, hg⟩ : ∃ g, w.heap.size + 1 + 1 + 1 = g := ⟨_, rfl⟩
  have hgw : w.heap.size + 3 = g := by omega
  rw [hg] at HO1
  clear hown hgrow hO hg1 hS1 HS0
  refine go_on ?_
  rw [hg]
  clear hg
  go_wp2
  go_loopw [6, 7, 8, 9] (fun i _ _ _ wr => ∃ (p : Nat) (z : Int) (os : List Nat), p ≤ la ∧ i = .int .i64 z ∧ Hid (True ∧ z = (p : Int) - 1) ∧ Hid (Out g (la + lb) (dval (xs.drop p) * dval ys) w1 wr os)) (fun i _ _ _ _ => (intOf i + 1).toNat)
  case atStart => exact ⟨la, (la : Int) - 1, _, Nat.le_refl _, by go_num, Lib.hid ⟨trivial, rfl⟩, Lib.hid (HO1.out.of_eq (by rw [List.drop_of_length_le (by rw [HLA.out.2]; exact Nat.le_refl _), dval_nil, Nat.zero_mul]))⟩
  case round =>
    obtain ⟨p, z, os, hp, rfl, HZ, HOO⟩ := hrel
    have d1 : wr.cell? ⟨w.heap.size, 1, none⟩ = some (.slice aa la ca) := (HOO.out.only.cell _ _ (by omega)).trans c1
    have d3 : wr.cell? ⟨w.heap.size + 1, 1, none⟩ = some (.slice ab lb cb) := (HOO.out.only.cell _ _ (by omega)).trans c3
    by_cases hp0 : p = 0
    · subst hp0
      obtain rfl : z = -1 := by have := HZ.out.2; omega
      have d0 : wr.cell? ⟨w.heap.size, 0, none⟩ = some (.bool n1) := (HOO.out.only.cell _ _ (by omega)).trans c0
      have d2 : wr.cell? ⟨w.heap.size + 1, 0, none⟩ = some (.bool n2) := (HOO.out.only.cell _ _ (by omega)).trans c2
      have HB : Hid (Below w.heap.size w wr) := Lib.hid (HS1.out.1.trans (HOO.out.only.below (by omega)))
      have HBX : Hid (Bx wr (w.heap.size + 1 + 1) (.bool false) (.slice none 0 0)) := Lib.hid (HS1.out.2.2.2.2.only HOO.out.only (by omega))
      have hrd : Rd .i64 wr (.slice (some ⟨g, 0, none⟩) (la + lb) (la + lb)) os := by
        have h := HOO.out.own.rd (la + lb) (la + lb) (by rw [HOO.out.len]; exact Nat.le_refl _) (Nat.le_refl _) (by omega)
        rwa [List.take_of_length_le (by rw [HOO.out.len]; exact Nat.le_refl _)] at h
      have HRD := Lib.hid hrd
      have HVV : Hid (True ∧ sz (n1 != n2) (dval os) = x * y) := Lib.hid ⟨trivial, by rw [HOO.out.val, List.drop_zero]; exact HV.out.2⟩
      clear hrd
      go_wp2_with fail
      refine (make0_any (n1 != n2) _ os _ HRD.out HOO.out.lt).mono ?_
      rintro e w2 ⟨v, rfl, hv, hb⟩
      rw [HVV.out.2] at hv
      obtain ⟨a, c, rfl⟩ := hv.form
      have HBX2 := Lib.hid (HBX.out.below hb HBX.out.lt)
      have HW := Lib.hid (HB.out.trans (hb.mono HB.out.size))
      have HVL := Lib.hid hv
      clear hv hb
      obtain ⟨f0, f1, f2, f3⟩ := HBX2.out.cell
      go_wp2
      obtain ⟨l0, l1, _, _⟩ := (HBX2.out.put (.bool (isNeg (x * y))) (.slice a (dg (x * y).natAbs).length c)).cell
      refine bodyPost_ret (v := .agg #[.bool (isNeg (x * y)), .slice a (dg (x * y).natAbs).length c]) (by simp only [results, Tryz.results42]; simp [go_sem, l0, l1]) rfl ?_
      exact RefPost.boxed HVL.out HBX2.out HW.out (by omega)
    · obtain ⟨q, rfl⟩ : ∃ q, p = q + 1 := ⟨p - 1, by omega⟩
      obtain rfl : z = (q : Nat) := by have := HZ.out.2; omega
      have hq : q < xs.length := by rw [HLA.out.2]; omega
      obtain ⟨ga, offa, rfl, hga, hrowa⟩ := H3A.out (by rintro h; rw [h] at hq; simp at hq)
      have HRowA := Lib.hid hrowa
      clear hp0 HZ hrowa
      go_wp2
      go_loopw [7, 8, 9] (fun k _ _ wr => ∃ (r : Nat) (z : Int) (os : List Nat), r ≤ lb ∧ k = .int .i64 z ∧ Hid (True ∧ z = (r : Int) - 1) ∧ Hid (Out g (la + lb) (mulVal xs ys q r) w1 wr os)) (fun k _ _ _ => (intOf k + 1).toNat)
      case atStart => exact ⟨lb, (lb : Int) - 1, os, Nat.le_refl _, by go_num, Lib.hid ⟨trivial, rfl⟩, Lib.hid (HOO.out.of_eq (by rw [← HLB.out.2, mulVal_start]))⟩
      case round =>
        obtain ⟨r, z, os2, hr, rfl, HZ, HO2⟩ := hrel
        clear d1 d3
        have d1 : wr.cell? ⟨w.heap.size, 1, none⟩ = some (.slice (some ⟨ga, offa, none⟩) la ca) := (HO2.out.only.cell _ _ (by omega)).trans c1
        have d3 : wr.cell? ⟨w.heap.size + 1, 1, none⟩ = some (.slice ab lb cb) := (HO2.out.only.cell _ _ (by omega)).trans c3
        by_cases hr0 : r = 0
        · subst hr0
          obtain rfl : z = -1 := by have := HZ.out.2; omega
          have HO3 := Lib.hid (HO2.out.of_eq (mulVal_end xs ys q hq))
          go_wp2
          go_roundw
          case rel => exact ⟨q, (q : Int) - 1, os2, by omega, by go_num, Lib.hid ⟨trivial, rfl⟩, HO3⟩
          case measure => simp [intOf]
        · obtain ⟨t, rfl⟩ : ∃ t, r = t + 1 := ⟨r - 1, by omega⟩
          obtain rfl : z = (t : Nat) := by have := HZ.out.2; omega
          have ht : t < ys.length := by rw [HLB.out.2]; omega
          obtain ⟨gb, offb, rfl, hgb, hrowb⟩ := H3B.out (by rintro h; rw [h] at ht; simp at ht)
          have HRowB := Lib.hid hrowb
          clear hr0 HZ hrowb
          have hP : q + t + 1 < os2.length := by rw [HO2.out.len]; omega
          obtain ⟨o, ho⟩ : ∃ o, os2[q + t + 1] = o := ⟨_, rfl⟩
          have hog : os2[q + t + 1]? = some o := by rw [List.getElem?_eq_getElem hP, ho]
          have ho10 : o < 10 := by rw [← ho]; exact HO2.out.lt _ (List.getElem_mem hP)
          have cO : wr.cell? ⟨g, q + t + 1, none⟩ = some (.int .i64 (o : Nat)) := by rw [HO2.out.own.cell _ hP, ho]
          obtain ⟨av, hav⟩ : ∃ o, xs[q] = o := ⟨_, rfl⟩
          obtain ⟨bv, hbv⟩ : ∃ o, ys[t] = o := ⟨_, rfl⟩
          have ha10 : av < 10 := by rw [← hav]; exact HX.out _ (List.getElem_mem hq)
          have hb10 : bv < 10 := by rw [← hbv]; exact HY.out _ (List.getElem_mem ht)
          have cA : wr.cell? ⟨ga, offa + q, none⟩ = some (.int .i64 (av : Nat)) := by
            rw [← hav]
            exact (HO2.out.only.cell _ _ (by omega)).trans ((HS1.out.1.cell (p := ⟨ga, offa + q, none⟩) hga).trans (HRowA.out q hq))
          have cB : wr.cell? ⟨gb, offb + t, none⟩ = some (.int .i64 (bv : Nat)) := by
            rw [← hbv]
            exact (HO2.out.only.cell _ _ (by omega)).trans ((HS1.out.1.cell (p := ⟨gb, offb + t, none⟩) hgb).trans (HRowB.out t ht))
          obtain ⟨M, hM⟩ : ∃ M, av * bv = M := ⟨_, rfl⟩
          have hM81 : M ≤ 81 := by rw [← hM]; exact Nat.mul_le_mul (show av ≤ 9 by omega) (show bv ≤ 9 by omega)
          have p1 : IntKind.i64.wrap ((av : Int) * (bv : Int)) = (M : Nat) := by
            have e : ((av : Int) * (bv : Int)) = (M : Nat) := by rw [← hM]; simp
            rw [IntWalk.i64_in _ (by omega), e]
          obtain ⟨X, hXX⟩ : ∃ X, o + M = X := ⟨_, rfl⟩
          have hX90 : X ≤ 90 := by omega
          have p2 : IntKind.i64.wrap ((o : Int) + (M : Int)) = (X : Nat) := by rw [IntWalk.i64_in _ (by omega)]; omega
          have hCy : Cy (la + lb) (mulVal xs ys q t) (os2.set (q + t + 1) (X % 10)) (q + t + 1) (X / 10) := by
            have h1 := mulVal_step xs ys q t hq ht
            rw [hav, hbv, hM, HLA.out.2, HLB.out.2] at h1
            have h2 := mulVal_lt xs ys HX.out HY.out q t hq (by omega)
            rw [HLA.out.2, HLB.out.2] at h2
            have h3 := Cy.start (L := la + lb) (V := dval os2) HO2.out.len HO2.out.lt (by omega) (show X ≤ 99 by omega) o hog (by omega) rfl (by rw [HO2.out.val, show X - o = M from by omega, ← h1]; exact h2)
            rw [HO2.out.val, show X - o = M from by omega, ← h1] at h3
            exact h3
          have HCY := Lib.hid hCy
          have i1 : (0 : Int) ≤ (q : Int) + t + 1 := by omega
          have i2 : ((q : Int) + t + 1).toNat = q + t + 1 := by omega
          have i3 : (q : Int) + t + 1 < ((la + lb : Nat) : Int) := by omega
          have i4 : (q : Int) < (la : Nat) := by omega
          have i5 : (t : Int) < (lb : Nat) := by omega
          have HOG := Lib.hid (And.intro trivial hog)
          clear hP hog ho hav hbv hM hXX hCy
          go_wp2
          go_quiet (fail)
          have HO3 := Lib.hid (HO2.out.drewN nq)
          clear cO cA cB d1 d3 p1 p2 HO2 HOO
          generalize wr.drewN nq = W2 at *
          have hf : W2.frozen? ⟨g, q + t + 1, none⟩ = false := HO3.out.own.free _
          have hcO : W2.cell? ⟨g, q + t + 1, none⟩ = some (.int .i64 (o : Nat)) := by
            have hP : q + t + 1 < os2.length := by rw [HO3.out.len]; omega
            rw [HO3.out.own.cell _ hP]
            have h := HOG.out.2
            rw [List.getElem?_eq_getElem hP] at h
            rw [Option.some.inj h]
          have HC0 : Hid (Car g (la + lb) (mulVal xs ys q t) w1 (W2.setCell ⟨g, q + t + 1, none⟩ (.int .i64 ((X : Int) % 10))) (os2.set (q + t + 1) (X % 10)) (q + t + 1) (X / 10)) := Lib.hid ⟨by
            rw [show ((X : Int) % 10) = ((X % 10 : Nat) : Int) from by simp]
            exact HO3.out.own.set _ _, HO3.out.only.set _ _, HCY.out⟩
          clear HCY HOG
          go_wp2
          go_loopw [8, 9] (fun s8 s9 wr => ∃ (pp xx : Nat) (os : List Nat), s8 = .int .i64 pp ∧ s9 = .int .i64 xx ∧ Hid (Car g (la + lb) (mulVal xs ys q t) w1 wr os pp xx)) (fun s8 _ _ => (intOf s8).toNat)
          case atStart => exact ⟨q + t + 1, X / 10, _, by go_num, by simp, HC0⟩
          case round =>
            obtain ⟨pp, xx, os3, rfl, rfl, HC⟩ := hrel
            have hpL := HC.out.cy.at'
            have hx9 := HC.out.cy.x9
            by_cases hx0 : 0 < xx
            · have hx0' : (0 : Int) < (xx : Nat) := by omega
              obtain ⟨r, rfl⟩ : ∃ r, pp = r + 1 := ⟨pp - 1, by have := HC.out.cy.room hx0; omega⟩
              have hrl : r < os3.length := by rw [HC.out.cy.len]; omega
              obtain ⟨o2, ho2⟩ : ∃ o, os3[r] = o := ⟨_, rfl⟩
              obtain ⟨hcy2, ho10'⟩ := HC.out.cy.next (o := o2) (by rw [List.getElem?_eq_getElem hrl, ho2])
              have e1 : wr.cell? ⟨g, r, none⟩ = some (.int .i64 (o2 : Nat)) := by rw [HC.out.own.cell _ hrl, ho2]
              have e2 : wr.frozen? ⟨g, r, none⟩ = false := HC.out.own.free _
              have HC2 : Hid (Car g (la + lb) (mulVal xs ys q t) w1 (wr.setCell ⟨g, r, none⟩ (.int .i64 (((xx : Int) + o2) % 10))) (os3.set r ((xx + o2) % 10)) r ((xx + o2) / 10)) := Lib.hid ⟨by
                rw [show (((xx : Int) + o2) % 10) = (((xx + o2) % 10 : Nat) : Int) from by simp]
                exact HC.out.own.set _ _, HC.out.only.set _ _, hcy2⟩
              have j1 : (r : Int) < ((la + lb : Nat) : Int) := by omega
              clear hrl ho2 hcy2
              go_wp2
              go_roundw
              case rel => exact ⟨r, (xx + o2) / 10, _, rfl, by simp, HC2⟩
              case measure => simp [intOf]
            · obtain rfl : xx = 0 := by omega
              have HO4 : Hid (Out g (la + lb) (mulVal xs ys q t) w1 wr os3) := Lib.hid ⟨HC.out.own, HC.out.only, HC.out.cy.len, HC.out.cy.lt, HC.out.cy.done⟩
              clear HC
              go_wp2
              go_roundw
              case rel => exact ⟨t, (t : Int) - 1, os3, by omega, by go_num, Lib.hid ⟨trivial, rfl⟩, HO4⟩
              case measure => simp [intOf]

end Go.Proofs.YtdkpcjfadabkbaaGreatDoor
