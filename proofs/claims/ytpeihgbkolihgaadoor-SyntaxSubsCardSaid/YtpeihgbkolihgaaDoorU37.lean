/- Lists of numbers and of leaves are compared. -/
import Derived.Test.YtpeihgbkolihgaaDoorU36
set_option linter.unusedVariables false
set_option linter.unusedSimpArgs false
namespace Go.Proofs.YtpeihgbkolihgaaDoor
open Go.RowKit

namespace Sx
def leafEq (x y : LeafM) : Bool := decide (x.kind = y.kind) && (decide (x.text = y.text) && (decide (x.num = y.num) && decide (x.kids = y.kids)))
def leavesEq : List LeafM → List LeafM → Bool
  | [], [] => true
  | x :: a, y :: b => leafEq x y && leavesEq a b
  | _, _ => false
theorem leavesEq_app : ∀ (a b c d : List LeafM), a.length = b.length → leavesEq (a ++ c) (b ++ d) = (leavesEq a b && leavesEq c d)
  | [], [], c, d, _ => by simp [leavesEq]
  | x :: a, y :: b, c, d, h => by
    rw [List.cons_append, List.cons_append, leavesEq, leavesEq, leavesEq_app a b c d (by simpa using h), Bool.and_assoc]
  | [], y :: b, c, d, h => by cases h
  | x :: a, [], c, d, h => by cases h
theorem leavesEq_len : ∀ (a b : List LeafM), leavesEq a b = true → a.length = b.length
  | [], [], _ => rfl
  | x :: a, y :: b, h => by
    rw [leavesEq, Bool.and_eq_true] at h
    rw [List.length_cons, List.length_cons, leavesEq_len a b h.2]
  | [], y :: b, h => by cases h
  | x :: a, [], h => by cases h
theorem leavesEq_go {a b : List LeafM} {c : Nat} (ha : c < a.length) (hb : c < b.length) (h : leavesEq (a.take c) (b.take c) = true) : leavesEq (a.take (c + 1)) (b.take (c + 1)) = leafEq a[c] b[c] := by
  rw [← List.take_append_getElem ha, ← List.take_append_getElem hb, leavesEq_app _ _ _ _ (by rw [List.length_take, List.length_take]; omega), h]
  simp [leavesEq]
theorem leavesEq_no {a b : List LeafM} {c : Nat} (hl : a.length = b.length) (h : leavesEq (a.take c) (b.take c) = false) : leavesEq a b = false := by
  have e := leavesEq_app (a.take c) (b.take c) (a.drop c) (b.drop c) (by rw [List.length_take, List.length_take]; omega)
  rw [List.take_append_drop, List.take_append_drop, h, Bool.false_and] at e
  exact e
end Sx

set_option maxRecDepth 100000 in
set_option maxHeartbeats 6400000 in
theorem Equal_any (v1 v2 : Value) (l1 l2 : List Int) (w : World) (r : Bool) (h1 : IsAt w v1 l1) (h2 : IsAt w v2 l2) (hn1 : l1.length ≤ 1000000) (hn2 : l2.length ≤ 1000000) (hr : Hid (decide (l1 = l2) = r)) :
    Calls Tryd.prog 28 #[v1, v2] w fun e w' => e = .returned (.bool r) ∧ Below w.heap.size w w' := by
  obtain ⟨a1, c1, rfl⟩ := h1.slice
  obtain ⟨a2, c2, rfl⟩ := h2.slice
  obtain ⟨n, hn⟩ : ∃ n, l1.length = n := ⟨_, rfl⟩
  obtain ⟨m, hm⟩ : ∃ m, l2.length = m := ⟨_, rfl⟩
  rw [hn] at h1 hn1 ⊢
  rw [hm] at h2 hn2 ⊢
  by_cases hnm : n = m
  rotate_left
  · obtain rfl : r = false := by
      rw [← hr.out]
      apply decide_eq_false
      intro e
      rw [e] at hn
      exact hnm (hn.symm.trans hm)
    have g : ((n : Int) == (m : Int)) = false := by simpa using (by omega : ¬ (n : Int) = m)
    have g2 : ¬ (n : Int) = m := by omega
    clear h1 h2 hn hm hr
    go_enter Tryd.func28, Tryd.ntmps28
    go_wp2
    go_ret
    exact ⟨rfl, Below.refl _ _⟩
  · subst hnm
    have H1 := Lib.hid h1
    have H2 := Lib.hid h2
    have HN := Lib.hid hn
    have HM := Lib.hid hm
    clear h1 h2 hn hm
    go_enter Tryd.func28, Tryd.ntmps28
    go_wp2_with fail
    go_loopw [13] (fun iv wr => ∃ c : Nat, c ≤ n ∧ iv = .int .i64 c ∧ Hid (l1.take c = l2.take c) ∧ Hid (Below w.heap.size w wr)) (fun iv _ => n - (intOf iv).toNat)
    case atStart => exact ⟨0, Nat.zero_le _, rfl, Lib.hid (by rw [List.take_zero, List.take_zero]), Lib.hid (Below.refl _ _)⟩
    case round =>
      obtain ⟨c, hc, rfl, HE, HB⟩ := hrel
      by_cases hlt : c < n
      · have hc1 : c < l1.length := by rw [HN.out]; exact hlt
        have hc2 : c < l2.length := by rw [HM.out]; exact hlt
        obtain ⟨b1, o1, rfl, hb1, e1⟩ := H1.out.at c hc1
        obtain ⟨b2, o2, rfl, hb2, e2⟩ := H2.out.at c hc2
        have f1 := (HB.out.cell (p := ⟨b1, o1 + c, none⟩) hb1).trans e1
        have f2 := (HB.out.cell (p := ⟨b2, o2 + c, none⟩) hb2).trans e2
        have g1 : (0 : Int) ≤ c := by omega
        have g2 : (c : Int) < n := by omega
        obtain ⟨x, hx⟩ : ∃ x, l1[c] = x := ⟨_, rfl⟩
        obtain ⟨y, hy⟩ : ∃ y, l2[c] = y := ⟨_, rfl⟩
        rw [hx] at f1
        rw [hy] at f2
        have hgo : x = y → l1.take (c + 1) = l2.take (c + 1) := fun e => by rw [← List.take_append_getElem hc1, ← List.take_append_getElem hc2, HE.out, hx, hy, e]
        have hno : x ≠ y → r = false := fun e => by
          rw [← hr.out]
          apply decide_eq_false
          intro e2
          subst e2
          exact e (hx.symm.trans hy)
        clear e1 e2 hx hy hb1 hb2 hc1 hc2
        by_cases hxy : x = y
        · have HGO := Lib.hid (hgo hxy)
          subst hxy
          clear hgo hno
          go_wp2_with fail
          go_quiet (fail)
          go_wp2
          go_roundw
          case rel => exact ⟨c + 1, by omega, by go_num, HGO, Lib.hid (below_drewN _ HB.out)⟩
          case measure => simp [intOf]; omega
        · obtain rfl := hno hxy
          have hxy2 : (x == y) = false := by simpa using hxy
          clear hgo hno
          go_wp2_with fail
          go_quiet (fail)
          go_wp2
          go_ret
          exact ⟨rfl, below_drewN _ HB.out⟩
      · obtain rfl : n = c := by omega
        have hnn : ¬ (n : Int) < n := by omega
        have hE := HE.out
        rw [List.take_of_length_le (by rw [HN.out]; exact Nat.le_refl _), List.take_of_length_le (by rw [HM.out]; exact Nat.le_refl _)] at hE
        obtain rfl : r = true := by rw [← hr.out]; exact decide_eq_true hE
        clear hE HE
        go_wp2
        go_ret
        exact ⟨rfl, HB.out⟩

def lfV (x : LeafM) (vk : Value) : Value := leafV x.kind x.text x.num vk x.frm x.to
set_option maxRecDepth 100000 in
set_option maxHeartbeats 6400000 in
theorem Same1_any (x y : LeafM) (vx vy : Value) (w : World) (r : Bool) (hx : IsAt w vx x.kids) (hy : IsAt w vy y.kids) (hn1 : x.kids.length ≤ 1000000) (hn2 : y.kids.length ≤ 1000000) (hr : Hid (Sx.leafEq x y = r)) :
    Calls Tryd.prog 27 #[lfV x vx, lfV y vy] w fun e w' => e = .returned (.bool r) ∧ Below w.heap.size w w' := by
  obtain ⟨W1, h1⟩ : ∃ W, W = w.alloc (leafO x.kind x.text x.num vx x.frm x.to) := ⟨_, rfl⟩
  obtain ⟨W2, h2⟩ : ∃ W, W = W1.alloc (leafO y.kind y.text y.num vy y.frm y.to) := ⟨_, rfl⟩
  have s1 : W1.heap.size = w.heap.size + 1 := by rw [h1]; simp
  have b1 : W1.heap[w.heap.size]? = some (leafO x.kind x.text x.num vx x.frm x.to) := by rw [h1]; exact World.alloc_heap_new w _
  have b2 : W2.heap[w.heap.size + 1]? = some (leafO y.kind y.text y.num vy y.frm y.to) := by rw [h2, ← s1]; exact World.alloc_heap_new W1 _
  have b3 : W2.heap[w.heap.size]? = some (leafO x.kind x.text x.num vx x.frm x.to) := by rw [h2]; exact (Below.heap_alloc _ _ _ (lt_of b1)).trans b1
  have hb : Below w.heap.size w W2 := by rw [h2, h1]; exact ((Below.refl _ w).alloc (Nat.le_refl _) _).alloc (by simp) _
  obtain ⟨ax, cx, rfl⟩ := hx.slice
  obtain ⟨ay, cy, rfl⟩ := hy.slice
  have hE := fun q hq => Equal_any _ _ x.kids y.kids W2 q (hx.keep hb (Nat.le_refl _)) (hy.keep hb (Nat.le_refl _)) hn1 hn2 hq
  have HE := Lib.hid hE
  have HB := Lib.hid hb
  have x0 := cell_at (i := 0) b3 rfl
  have x1 := cell_at (i := 1) b3 rfl
  have x2 := cell_at (i := 2) b3 rfl
  have x3 := cell_at (i := 3) b3 rfl
  have y0 := cell_at (i := 0) b2 rfl
  have y1 := cell_at (i := 1) b2 rfl
  have y2 := cell_at (i := 2) b2 rfl
  have y3 := cell_at (i := 3) b2 rfl
  have hch := h2
  rw [h1] at hch
  unfold leafO at hch
  have HCH := Lib.hid hch.symm
  have hr2 := hr.out
  unfold Sx.leafEq at hr2
  generalize hq : decide (x.kids = y.kids) = q at hr2
  have HQ := Lib.hid hq
  have HR := Lib.hid hr2
  clear h1 h2 s1 b1 b2 b3 hb hE hch hr hr2 hq hx hy
  have HX := Lib.hid (And.intro (And.intro x0 (And.intro x1 (And.intro x2 x3))) (And.intro y0 (And.intro y1 (And.intro y2 y3))))
  clear x0 x1 x2 x3 y0 y1 y2 y3
  generalize x.kids.length = xl at HX HE HCH ⊢
  generalize y.kids.length = yl at HX HE HCH ⊢
  unfold lfV leafV
  go_enter Tryd.func27, Tryd.ntmps27
  go_upto_region 1 with fail
  rw [HCH.out]
  obtain ⟨⟨x0, x1, x2, x3⟩, ⟨y0, y1, y2, y3⟩⟩ := HX.out
  clear HX HCH
  by_cases hk : x.kind = y.kind
  rotate_left
  · have e1 : (x.kind == y.kind) = false := by simpa using hk
    have hr := HR.out
    rw [decide_eq_false hk, Bool.false_and] at hr
    subst hr
    go_wp2
    go_ret
    exact ⟨rfl, HB.out⟩
  have e1 : (x.kind == y.kind) = true := by simpa using hk
  have hr := HR.out
  rw [decide_eq_true hk, Bool.true_and] at hr
  by_cases ht : x.text = y.text
  rotate_left
  · have e2 : (x.text.toList == y.text.toList) = false := by
      rw [Lib.toList_data, Lib.toList_data]
      have : ¬ x.text.data.toList = y.text.data.toList := fun e => ht (by rw [of_list e, ← of_list (s := y.text) rfl])
      simpa using this
    rw [decide_eq_false ht, Bool.false_and] at hr
    subst hr
    go_wp2
    go_ret
    exact ⟨rfl, HB.out⟩
  have e2 : (x.text.toList == y.text.toList) = true := by rw [ht]; simp
  rw [decide_eq_true ht, Bool.true_and] at hr
  by_cases hm : x.num = y.num
  rotate_left
  · have e3 : (x.num == y.num) = false := by simpa using hm
    rw [decide_eq_false hm, Bool.false_and] at hr
    subst hr
    go_wp2
    go_ret
    exact ⟨rfl, HB.out⟩
  have e3 : (x.num == y.num) = true := by simpa using hm
  rw [decide_eq_true hm, Bool.true_and] at hr
  subst hr
  go_wp2_with fail
  refine (HE.out q HQ).mono ?_
  rintro e w5 ⟨rfl, hb5⟩
  have HB5 := Lib.hid (HB.out.trans (hb5.mono HB.out.size))
  clear hb5 x0 x1 x2 x3 y0 y1 y2 y3
  go_wp2
  go_ret
  exact ⟨rfl, HB5.out⟩

theorem lfAt_val {w : World} {v : Value} {l : List LeafM} {ad : Option Addr} {n cap : Nat} (h : LsAt w v l) (hv : v = .slice ad n cap) (i : Nat) (hi : i < l.length) : ∃ b off vk, ad = some ⟨b, off, none⟩ ∧ b < w.heap.size ∧ IsAt w vk l[i].kids ∧
    (w.cell? ⟨b, off + i * 6, none⟩ = some (.int .i64 l[i].kind) ∧ w.cell? ⟨b, off + i * 6 + 1, none⟩ = some (.string l[i].text) ∧ w.cell? ⟨b, off + i * 6 + 2, none⟩ = some (.int .i64 l[i].num) ∧
     w.cell? ⟨b, off + i * 6 + 3, none⟩ = some vk ∧ w.cell? ⟨b, off + i * 6 + 4, none⟩ = some (.int .i64 l[i].frm) ∧ w.cell? ⟨b, off + i * 6 + 5, none⟩ = some (.int .i64 l[i].to)) := by
  subst hv
  obtain ⟨b, off, fa, fc, e, hb, h1, h2⟩ := h.at i hi
  exact ⟨b, off, _, e, hb, h2, h1⟩
set_option maxRecDepth 100000 in
set_option maxHeartbeats 12800000 in
theorem EqualFunc_any (v1 v2 : Value) (l1 l2 : List LeafM) (w : World) (r : Bool) (h1 : LsAt w v1 l1) (h2 : LsAt w v2 l2) (hn1 : l1.length ≤ 1000000) (hn2 : l2.length ≤ 1000000) (hk1 : ∀ x ∈ l1, x.kids.length ≤ 1000000) (hk2 : ∀ x ∈ l2, x.kids.length ≤ 1000000) (hr : Hid (Sx.leavesEq l1 l2 = r)) :
    Calls Tryd.prog 26 #[v1, v2, .func (.func 27) #[] #[]] w fun e w' => e = .returned (.bool r) ∧ Below w.heap.size w w' := by
  obtain ⟨a1, c1, rfl⟩ := h1.slice
  obtain ⟨a2, c2, rfl⟩ := h2.slice
  obtain ⟨n, hn⟩ : ∃ n, l1.length = n := ⟨_, rfl⟩
  obtain ⟨m, hm⟩ : ∃ m, l2.length = m := ⟨_, rfl⟩
  rw [hn] at h1 hn1 ⊢
  rw [hm] at h2 hn2 ⊢
  by_cases hnm : n = m
  rotate_left
  · obtain rfl : r = false := by
      rw [← hr.out]
      cases hq : Sx.leavesEq l1 l2 with
      | false => rfl
      | true => exact absurd (hn.symm.trans ((Sx.leavesEq_len _ _ hq).trans hm)) hnm
    have g : ((n : Int) == (m : Int)) = false := by simpa using (by omega : ¬ (n : Int) = m)
    have g2 : ¬ (n : Int) = m := by omega
    clear h1 h2 hn hm hr hk1 hk2
    go_enter Tryd.func26, Tryd.ntmps26
    go_wp2
    go_ret
    exact ⟨rfl, Below.refl _ _⟩
  · subst hnm
    have H1 := Lib.hid h1
    have H2 := Lib.hid h2
    have HN := Lib.hid hn
    have HM := Lib.hid hm
    have HK1 := Lib.hid hk1
    have HK2 := Lib.hid hk2
    clear h1 h2 hn hm hk1 hk2
    go_enter Tryd.func26, Tryd.ntmps26
    go_wp2_with fail
    go_loopw [17] (fun iv wr => ∃ c : Nat, c ≤ n ∧ iv = .int .i64 c ∧ Hid (Sx.leavesEq (l1.take c) (l2.take c) = true) ∧ Hid (Below w.heap.size w wr)) (fun iv _ => n - (intOf iv).toNat)
    case atStart => exact ⟨0, Nat.zero_le _, rfl, Lib.hid (by rw [List.take_zero, List.take_zero]; rfl), Lib.hid (Below.refl _ _)⟩
    case round =>
      obtain ⟨c, hc, rfl, HE, HB⟩ := hrel
      by_cases hlt : c < n
      · have hc1 : c < l1.length := by rw [HN.out]; exact hlt
        have hc2 : c < l2.length := by rw [HM.out]; exact hlt
        obtain ⟨b1, o1, k1, rfl, hb1, hi1, d0, d1, d2, d3, d4, d5⟩ := lfAt_val H1.out rfl c hc1
        obtain ⟨b2, o2, k2, rfl, hb2, hi2, t0, t1, t2, t3, t4, t5⟩ := lfAt_val H2.out rfl c hc2
        have f0 := (HB.out.cell (p := ⟨b1, o1 + c * 6, none⟩) hb1).trans d0
        have f1 := (HB.out.cell (p := ⟨b1, o1 + c * 6 + 1, none⟩) hb1).trans d1
        have f2 := (HB.out.cell (p := ⟨b1, o1 + c * 6 + 2, none⟩) hb1).trans d2
        have f3 := (HB.out.cell (p := ⟨b1, o1 + c * 6 + 3, none⟩) hb1).trans d3
        have f4 := (HB.out.cell (p := ⟨b1, o1 + c * 6 + 4, none⟩) hb1).trans d4
        have f5 := (HB.out.cell (p := ⟨b1, o1 + c * 6 + 5, none⟩) hb1).trans d5
        have g0 := (HB.out.cell (p := ⟨b2, o2 + c * 6, none⟩) hb2).trans t0
        have g1 := (HB.out.cell (p := ⟨b2, o2 + c * 6 + 1, none⟩) hb2).trans t1
        have g2 := (HB.out.cell (p := ⟨b2, o2 + c * 6 + 2, none⟩) hb2).trans t2
        have g3 := (HB.out.cell (p := ⟨b2, o2 + c * 6 + 3, none⟩) hb2).trans t3
        have g4 := (HB.out.cell (p := ⟨b2, o2 + c * 6 + 4, none⟩) hb2).trans t4
        have g5 := (HB.out.cell (p := ⟨b2, o2 + c * 6 + 5, none⟩) hb2).trans t5
        have i1 : (0 : Int) ≤ c := by omega
        have i2 : (c : Int) < n := by omega
        have hgo := Sx.leavesEq_go hc1 hc2 HE.out
        obtain ⟨x, hx⟩ : ∃ x, l1[c] = x := ⟨_, rfl⟩
        obtain ⟨y, hy⟩ : ∃ y, l2[c] = y := ⟨_, rfl⟩
        have hkx := HK1.out l1[c] (List.getElem_mem _)
        have hky := HK2.out l2[c] (List.getElem_mem _)
        rw [hx] at f0 f1 f2 f4 f5 hi1 hgo hkx
        rw [hy] at g0 g1 g2 g4 g5 hi2 hgo hky
        obtain ⟨q, hq⟩ : ∃ q, Sx.leafEq x y = q := ⟨_, rfl⟩
        rw [hq] at hgo
        have hA : Below wr.heap.size wr ((wr.alloc (leafO x.kind x.text x.num k1 x.frm x.to)).alloc (leafO y.kind y.text y.num k2 y.frm y.to)) := ((Below.refl _ wr).alloc (Nat.le_refl _) _).alloc (by simp) _
        have hB2 := HB.out.trans (hA.mono HB.out.size)
        have hcall := Same1_any x y k1 k2 _ q (hi1.keep hB2 (Nat.le_refl _)) (hi2.keep hB2 (Nat.le_refl _)) hkx hky (Lib.hid hq)
        obtain ⟨kx, kn, kc, hk1⟩ : ∃ a n c, k1 = .slice a n c := by obtain ⟨a, c', e⟩ := hi1.slice; exact ⟨_, _, _, e⟩
        obtain ⟨kx2, kn2, kc2, hk2⟩ : ∃ a n c, k2 = .slice a n c := by obtain ⟨a, c', e⟩ := hi2.slice; exact ⟨_, _, _, e⟩
        subst hk1
        subst hk2
        unfold lfV leafV leafO at hcall
        unfold leafO at hB2
        have HCALL := Lib.hid hcall
        have HB2 := Lib.hid hB2
        have HGO := Lib.hid hgo
        have HBB : Hid (b2 < wr.heap.size) := Lib.hid (Nat.lt_of_lt_of_le hb2 HB.out.size)
        have HLL : Hid (l1.length = l2.length) := Lib.hid (HN.out.trans HM.out.symm)
        clear d0 d1 d2 d3 d4 d5 t0 t1 t2 t3 t4 t5 hx hy hkx hky hi1 hi2 hA hB2 hcall hgo hq hb1 hb2 hc1 hc2
        generalize x.kind = xk at f0 HCALL HB2
        generalize x.text = xt at f1 HCALL HB2
        generalize x.num = xn at f2 HCALL HB2
        generalize x.frm = xf at f4 HCALL HB2
        generalize x.to = xo at f5 HCALL HB2
        generalize y.kind = yk at g0 HCALL HB2
        generalize y.text = yt at g1 HCALL HB2
        generalize y.num = yn at g2 HCALL HB2
        generalize y.frm = yf at g4 HCALL HB2
        generalize y.to = yo at g5 HCALL HB2
        go_upto_region 6 with fail
        have hA : Below wr.heap.size wr (wr.alloc (.cells #[.int .i64 xk, .string xt, .int .i64 xn, .slice kx kn kc, .int .i64 xf, .int .i64 xo] 38)) := (Below.refl _ _).alloc (Nat.le_refl _) _
        have tA := World.alloc_heap_new wr (.cells #[.int .i64 xk, .string xt, .int .i64 xn, .slice kx kn kc, .int .i64 xf, .int .i64 xo] 38)
        replace g0 := (hA.cell (p := ⟨b2, o2 + c * 6, none⟩) HBB.out).trans g0
        replace g1 := (hA.cell (p := ⟨b2, o2 + c * 6 + 1, none⟩) HBB.out).trans g1
        replace g2 := (hA.cell (p := ⟨b2, o2 + c * 6 + 2, none⟩) HBB.out).trans g2
        replace g3 := (hA.cell (p := ⟨b2, o2 + c * 6 + 3, none⟩) HBB.out).trans g3
        replace g4 := (hA.cell (p := ⟨b2, o2 + c * 6 + 4, none⟩) HBB.out).trans g4
        replace g5 := (hA.cell (p := ⟨b2, o2 + c * 6 + 5, none⟩) HBB.out).trans g5
        generalize wr.alloc (.cells #[.int .i64 xk, .string xt, .int .i64 xn, .slice kx kn kc, .int .i64 xf, .int .i64 xo] 38) = W1 at tA g0 g1 g2 g3 g4 g5 HCALL HB2 ⊢
        generalize wr.heap.size = lB at tA ⊢
        have HTA := Lib.hid tA
        clear hA tA f0 f1 f2 f3 f4 f5
        go_upto_region 7 with fail
        clear g0 g1 g2 g3 g4 g5
        have tB := (Below.heap_alloc W1 (.cells #[.int .i64 yk, .string yt, .int .i64 yn, .slice kx2 kn2 kc2, .int .i64 yf, .int .i64 yo] 38) _ (lt_of HTA.out)).trans HTA.out
        have tC := World.alloc_heap_new W1 (.cells #[.int .i64 yk, .string yt, .int .i64 yn, .slice kx2 kn2 kc2, .int .i64 yf, .int .i64 yo] 38)
        generalize W1.alloc (.cells #[.int .i64 yk, .string yt, .int .i64 yn, .slice kx2 kn2 kc2, .int .i64 yf, .int .i64 yo] 38) = W2 at tB tC HCALL HB2 ⊢
        generalize W1.heap.size = lC at tC ⊢
        have p0 := cell_at (i := 0) tB rfl
        have r0 := cell_at (i := 0) tC rfl
        have p1 := cell_at (i := 1) tB rfl
        have r1 := cell_at (i := 1) tC rfl
        have p2 := cell_at (i := 2) tB rfl
        have r2 := cell_at (i := 2) tC rfl
        have p3 := cell_at (i := 3) tB rfl
        have r3 := cell_at (i := 3) tC rfl
        have p4 := cell_at (i := 4) tB rfl
        have r4 := cell_at (i := 4) tC rfl
        have p5 := cell_at (i := 5) tB rfl
        have r5 := cell_at (i := 5) tC rfl
        clear tB tC
        go_wp2_with fail
        refine HCALL.out.mono ?_
        rintro e w5 ⟨rfl, hb5⟩
        have HB5 := Lib.hid (HB2.out.trans (hb5.mono HB2.out.size))
        clear hb5 p0 p1 p2 p3 p4 p5 r0 r1 r2 r3 r4 r5
        cases q with
        | true =>
          go_wp2
          go_roundw
          case rel => exact ⟨c + 1, by omega, by go_num, HGO, HB5⟩
          case measure => simp [intOf]; omega
        | false =>
          obtain rfl : r = false := by rw [← hr.out]; exact Sx.leavesEq_no HLL.out HGO.out
          go_wp2
          go_ret
          exact ⟨rfl, HB5.out⟩
      · obtain rfl : n = c := by omega
        have hnn : ¬ (n : Int) < n := by omega
        have hE := HE.out
        rw [List.take_of_length_le (by rw [HN.out]; exact Nat.le_refl _), List.take_of_length_le (by rw [HM.out]; exact Nat.le_refl _)] at hE
        obtain rfl : r = true := by rw [← hr.out]; exact hE
        clear hE HE
        go_wp2
        go_ret
        exact ⟨rfl, HB.out⟩

end Go.Proofs.YtpeihgbkolihgaaDoor
