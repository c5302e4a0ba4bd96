/- What leadingSteps does. -/
import Derived.Test.YtdkpcjfadabkbaaDoorK2
set_option linter.unusedVariables false
set_option linter.unusedSimpArgs false
namespace Go.Proofs.YtdkpcjfadabkbaaDoor
open Go.RowKit _root_.Go.Proofs.YtdkpcjfadabkbaaDoor.Nm

/-- What the two remainders that are returned say: nothing if the first has no second part, else two steps of Euclid's algorithm at which Collins' condition held. -/
def Lead (X Y fA fB gA gB : Int) : Prop := fB = 0 ∨ ∃ x y s p q p' q', Cof X Y x y s p q p' q' ∧ q' ≤ y ∧ q + q' ≤ x - y ∧ q ≠ 0 ∧ fA = s * p ∧ fB = -(s * q) ∧ gA = -(s * p') ∧ gB = s * q'

/-- The state of the loop. -/
structure Steps (X Y x y fA fB gA gB hA hB : Int) : Prop where
  lead : Lead X Y fA fB gA gB
  cof : ∃ s p q p' q', Cof X Y x y s p q p' q' ∧ gA = s * p ∧ gB = -(s * q) ∧ hA = -(s * p') ∧ hB = s * q'
  bg : -1000000000000000000 ≤ gA ∧ gA ≤ 1000000000000000000 ∧ -1000000000000000000 ≤ gB ∧ gB ≤ 1000000000000000000
  bh : -1000000000000000000 ≤ hA ∧ hA ≤ 1000000000000000000 ∧ -1000000000000000000 ≤ hB ∧ hB ≤ 1000000000000000000

theorem Steps.start (X Y : Int) (h0 : 0 ≤ Y) (h : Y ≤ X) : Steps X Y X Y 0 0 1 0 0 1 :=
  ⟨.inl rfl, ⟨1, 1, 0, 0, 1, Cof.start X Y h0 h, by omega, by omega, by omega, by omega⟩, by omega, by omega⟩

theorem Steps.xy {X Y x y fA fB gA gB hA hB : Int} (h : Steps X Y x y fA fB gA gB hA hB) : 0 ≤ y ∧ y ≤ x ∧ x ≤ X := by
  obtain ⟨s, p, q, p', q', hc, _⟩ := h.cof
  have h1 : 1 * x ≤ q' * x := Int.mul_le_mul_of_nonneg_right hc.q1' (by have := hc.xy; have := hc.y0; omega)
  have h2 : 0 ≤ q * y := Int.mul_nonneg hc.q0 hc.y0
  have := hc.whole
  exact ⟨hc.y0, hc.xy, by omega⟩

theorem Steps.abs {X Y x y fA fB gA gB hA hB : Int} (h : Steps X Y x y fA fB gA gB hA hB) : ∃ q q' : Int, max gB (-gB) = q ∧ max hB (-hB) = q' ∧ 0 ≤ q ∧ 1 ≤ q' ∧ q ≤ 1000000000000000000 ∧ q' ≤ 1000000000000000000 := by
  obtain ⟨s, p, q, p', q', hc, h1, h2, h3, h4⟩ := h.cof
  have := h.bg; have := h.bh; have := hc.q0; have := hc.q1'
  refine ⟨q, q', ?_⟩
  rcases hc.sign with rfl | rfl <;> omega

theorem Steps.next {X Y x y fA fB gA gB hA hB q q' : Int} (h : Steps X Y x y fA fB gA gB hA hB) (hX : X < 1000000000000000000) (hq : max gB (-gB) = q) (hq' : max hB (-hB) = q') (c1 : q' ≤ y) (c2 : q + q' ≤ x - y) :
    0 < y ∧ Steps X Y y (x % y) gA gB hA hB (gA - x / y * hA) (gB - x / y * hB) ∧ 0 ≤ x / y ∧ x / y ≤ 1000000000000000000 ∧
    -1000000000000000000 ≤ x / y * hA ∧ x / y * hA ≤ 1000000000000000000 ∧ -1000000000000000000 ≤ x / y * hB ∧ x / y * hB ≤ 1000000000000000000 := by
  have hxy := h.xy
  obtain ⟨s, p, r, p', r', hc, h1, h2, h3, h4⟩ := h.cof
  have e0 : q = r ∧ q' = r' := by
    have := hc.q0; have := hc.q1'
    rcases hc.sign with rfl | rfl <;> omega
  obtain ⟨rfl, rfl⟩ := e0
  have hy : 0 < y := by have := hc.q1'; omega
  obtain ⟨hn, b1, b2, b3, b4, b5, b6, b7⟩ := hc.step hy
  have b8 : x / y ≤ x := Int.ediv_le_self _ (by omega)
  have bh := h.bh
  refine ⟨hy, ⟨?_, ⟨-s, p', q', p + x / y * p', q + x / y * q', hn, by rw [h3]; grind, by rw [h4]; grind, by rw [h1, h3]; grind, by rw [h2, h4]; grind⟩, bh, ?_⟩, by omega, by omega, ?_⟩
  · by_cases h0 : q = 0
    · left; rw [h2, h0]; simp
    · right; exact ⟨x, y, s, p, q, p', q', hc, c1, c2, h0, h1, h2, h3, h4⟩
  · have e1 : gA - x / y * hA = s * (p + x / y * p') := by rw [h1, h3]; grind
    have e2 : gB - x / y * hB = -(s * (q + x / y * q')) := by rw [h2, h4]; grind
    rw [e1, e2]
    have := hc.p0; have := hc.q0
    generalize x / y * p' = m at *
    generalize x / y * q' = n at *
    rcases hc.sign with rfl | rfl <;> omega
  · have e1 : x / y * hA = -(s * (x / y * p')) := by rw [h3]; grind
    have e2 : x / y * hB = s * (x / y * q') := by rw [h4]; grind
    rw [e1, e2]
    generalize x / y * p' = m at *
    generalize x / y * q' = n at *
    rcases hc.sign with rfl | rfl <;> omega

theorem boxes5 (w : World) (x y z u v : Obj) : Below w.heap.size w (((((w.alloc x).alloc y).alloc z).alloc u).alloc v) := (boxes4 w x y z u).alloc (by simp; omega) v

theorem fifth_new (w : World) (x y z u v : Obj) : (((((w.alloc x).alloc y).alloc z).alloc u).alloc v).heap[w.heap.size + 1 + 1 + 1 + 1]? = some v := by
  have := fourth_new (w.alloc x) y z u v
  rwa [World.size_alloc] at this

theorem Bs.five (w : World) (x0 x1 y0 y1 z0 z1 u0 u1 v0 v1 : Value) (T : TypeId) :
    Bs (((((w.alloc (.cells #[x0, x1] T)).alloc (.cells #[y0, y1] T)).alloc (.cells #[z0, z1] T)).alloc (.cells #[u0, u1] T)).alloc (.cells #[v0, v1] T)) [(w.heap.size, x0, x1), (w.heap.size + 1, y0, y1), (w.heap.size + 1 + 1, z0, z1), (w.heap.size + 1 + 1 + 1, u0, u1), (w.heap.size + 1 + 1 + 1 + 1, v0, v1)] := by
  have h := (Bs.four w x0 x1 y0 y1 z0 z1 u0 u1 T T T T).next ((Below.refl _ _).alloc (Nat.le_refl _) (.cells #[v0, v1] T)) (Nat.le_refl _)
  exact .cons h.head (.cons h.tail.head (.cons h.tail.tail.head (.cons h.tail.tail.tail.head (.cons ⟨T, fifth_new _ _ _ _ _ _⟩ (.nil _)))))

theorem Bx.set0 {W : World} {g : Nat} {x y : Value} (h : Bx W g x y) (x' : Value) : Bx (W.setCell ⟨g, 0, none⟩ x') g x' y := by
  have hlt := h.lt
  obtain ⟨T, h⟩ := h
  rw [Array.getElem?_eq_getElem hlt] at h
  have h := Option.some.inj h
  refine ⟨T, ?_⟩
  show (W.heap.modify g _)[g]? = _
  rw [Array.getElem?_eq_getElem (by simpa using hlt), Array.getElem_modify_self, h]
  simp

theorem Bx.set1 {W : World} {g : Nat} {x y : Value} (h : Bx W g x y) (y' : Value) : Bx (W.setCell ⟨g, 1, none⟩ y') g x y' := by
  have hlt := h.lt
  obtain ⟨T, h⟩ := h
  rw [Array.getElem?_eq_getElem hlt] at h
  have h := Option.some.inj h
  refine ⟨T, ?_⟩
  show (W.heap.modify g _)[g]? = _
  rw [Array.getElem?_eq_getElem (by simpa using hlt), Array.getElem_modify_self, h]
  simp

theorem Bx.store {W : World} {g : Nat} {x y : Value} (h : Bx W g x y) (x' y' : Value) : Bx ((W.setCell ⟨g, 0, none⟩ x').setCell ⟨g, 1, none⟩ y') g x' y' := (h.set0 x').set1 y'

theorem Bx.past {W : World} {g g' : Nat} {x y : Value} (h : Bx W g x y) (x' y' : Value) (hn : g ≠ g') : Bx ((W.setCell ⟨g', 0, none⟩ x').setCell ⟨g', 1, none⟩ y') g x y :=
  h.only (((Only.refl g' W).set 0 x').set 1 y') hn

theorem pair_set (W : World) (B g : Nat) (x y : Value) (hB : B ≤ g) : Below B W ((W.setCell ⟨g, 0, none⟩ x).setCell ⟨g, 1, none⟩ y) := (((Only.refl g W).set 0 x).set 1 y).below hB

set_option maxRecDepth 100000 in
set_option maxHeartbeats 3200000 in
theorem leadingSteps_any (X Y : Int) (h0 : 0 ≤ Y) (h1 : Y ≤ X) (hX : X < 1000000000000000000) (w : World) :
    Calls Tryd.prog 73 #[.int .i64 X, .int .i64 Y] w fun e w' => ∃ fA fB gA gB, e = .returned (.tuple #[.agg #[.int .i64 fA, .int .i64 fB], .agg #[.int .i64 gA, .int .i64 gB]]) ∧ Lead X Y fA fB gA gB ∧ Below w.heap.size w w' := by
  have HS := Lib.hid (Steps.start X Y h0 h1)
  go_enter Tryd.func73, Tryd.ntmps73
  go_wp2
  go_loopw [0, 1, 9, 10] (fun x y _ _ wr => ∃ (m n fA fB gA gB hA hB : Int), x = .int .i64 m ∧ y = .int .i64 n ∧ Hid (Steps X Y m n fA fB gA gB hA hB) ∧ Hid (Below w.heap.size w wr) ∧
      Hid (Bs wr [(w.heap.size, .int .i64 0, .int .i64 0), (w.heap.size + 1, .int .i64 0, .int .i64 0), (w.heap.size + 1 + 1, .int .i64 fA, .int .i64 fB), (w.heap.size + 1 + 1 + 1, .int .i64 gA, .int .i64 gB), (w.heap.size + 1 + 1 + 1 + 1, .int .i64 hA, .int .i64 hB)])) (fun _ y _ _ _ => (intOf y).toNat)
  case atStart => 
    refine ⟨X, Y, 0, 0, 1, 0, 0, 1, rfl, rfl, HS, Lib.hid ?_, Lib.hid ?_⟩
    · exact boxes5 _ _ _ _ _ _
    · exact Bs.five _ _ _ _ _ _ _ _ _ _ _ _
  case round =>
    obtain ⟨m, n, fA, fB, gA, gB, hA, hB, rfl, rfl, HI, HB, HBX⟩ := hrel
    obtain ⟨q, q', e1, e2, k1, k2, k3, k4⟩ := HI.out.abs
    have HQ := Lib.hid e1
    have HQ' := Lib.hid e2
    obtain ⟨x1, x2, x3⟩ := HI.out.xy
    obtain ⟨b1, b2, b3, b4⟩ := HI.out.bg
    obtain ⟨b5, b6, b7, b8⟩ := HI.out.bh
    clear e1 e2
    obtain ⟨c0, c1, c2, c3, c4, c5⟩ : wr.cell? ⟨w.heap.size + 1 + 1, 0, none⟩ = some (.int .i64 fA) ∧ wr.cell? ⟨w.heap.size + 1 + 1, 1, none⟩ = some (.int .i64 fB) ∧ wr.cell? ⟨w.heap.size + 1 + 1 + 1, 0, none⟩ = some (.int .i64 gA) ∧ wr.cell? ⟨w.heap.size + 1 + 1 + 1, 1, none⟩ = some (.int .i64 gB) ∧
      wr.cell? ⟨w.heap.size + 1 + 1 + 1 + 1, 0, none⟩ = some (.int .i64 hA) ∧ wr.cell? ⟨w.heap.size + 1 + 1 + 1 + 1, 1, none⟩ = some (.int .i64 hB) :=
      ⟨HBX.out.tail.tail.head.cell.1, HBX.out.tail.tail.head.cell.2.1, HBX.out.tail.tail.tail.head.cell.1, HBX.out.tail.tail.tail.head.cell.2.1, HBX.out.tail.tail.tail.tail.head.cell.1, HBX.out.tail.tail.tail.tail.head.cell.2.1⟩
    by_cases hc : q' ≤ n ∧ q + q' ≤ m - n
    · have HN := Lib.hid (HI.out.next hX HQ.out HQ'.out hc.1 hc.2)
      obtain ⟨hc1, hc2⟩ := hc
      go_wp2
      go_quiet ((go_at_call 92; first | exact Calls.quiet_of_same ((abs_any gB q (by omega) HQ _).mono fun _ _ h => ⟨h.1, h.2.symm⟩) | exact Calls.quiet_of_same ((abs_any hB q' (by omega) HQ' _).mono fun _ _ h => ⟨h.1, h.2.symm⟩)))
      obtain ⟨y0, hst, n1, n2, n3, n4, n5, n6⟩ := HN.out
      have HST := Lib.hid hst
      have HB2 : Hid (Below w.heap.size w (wr.drewN nq)) := Lib.hid (HB.out.trans ⟨rfl, rfl, rfl, Nat.le_refl _, fun _ _ => rfl⟩)
      have HBX2 := Lib.hid (show Bs (wr.drewN nq) _ from HBX.out)
      clear hst HN c0 c1 c2 c3 c4 c5 HB HBX hc1 hc2 HQ HQ' k1 k2 k3 k4
      generalize wr.drewN nq = W2 at *
      have hB3 := (HBX2.out.next ((Below.refl _ _).alloc (Nat.le_refl _) (.cells #[.int .i64 0, .int .i64 0] 99)) (Nat.le_refl _))
      have hB4 := Bs.cons (Bx.new W2 (.int .i64 0) (.int .i64 0) 99) hB3
      obtain ⟨c2, c3, _, _⟩ := HBX2.out.tail.tail.tail.head.cell
      obtain ⟨c4, c5, _, _⟩ := HBX2.out.tail.tail.tail.tail.head.cell
      obtain ⟨d0, d1, d2, d3⟩ := hB4.head.cell
      clear hB3 hB4
      go_wp2
      have hB3 := (HBX2.out.next ((Below.refl _ _).alloc (Nat.le_refl _) (.cells #[.int .i64 (gA - m / n * hA), .int .i64 (gB - m / n * hB)] 99)) (Nat.le_refl _))
      have hB4 := Lib.hid (Bs.cons (Bx.new W2 (.int .i64 (gA - m / n * hA)) (.int .i64 (gB - m / n * hB)) 99) hB3)
      have hlt : w.heap.size + 1 + 1 + 1 + 1 < W2.heap.size := HBX2.out.tail.tail.tail.tail.head.lt
      have HB3 := Lib.hid (HB2.out.alloc HB2.out.size (.cells #[.int .i64 (gA - m / n * hA), .int .i64 (gB - m / n * hB)] 99))
      clear c2 c3 c4 c5 d0 d1 d2 d3 hB3
      go_quiet (fail)
      go_wp2
      have HB4 : Hid (Bs ((W2.alloc (.cells #[.int .i64 (gA - m / n * hA), .int .i64 (gB - m / n * hB)] 99)).drewN nq) _) := Lib.hid hB4.out
      have HB5 : Hid (Below w.heap.size w ((W2.alloc (.cells #[.int .i64 (gA - m / n * hA), .int .i64 (gB - m / n * hB)] 99)).drewN nq)) := Lib.hid (HB3.out.trans ⟨rfl, rfl, rfl, Nat.le_refl _, fun _ _ => rfl⟩)
      clear hB4 HB3
      generalize (W2.alloc (.cells #[.int .i64 (gA - m / n * hA), .int .i64 (gB - m / n * hB)] 99)).drewN nq = W3 at *
      obtain ⟨c0, c1, _, _⟩ := HB4.out.head.cell
      obtain ⟨c2, c3, f2, f3⟩ := HB4.out.tail.tail.tail.head.cell
      obtain ⟨c4, c5, f4, f5⟩ := HB4.out.tail.tail.tail.tail.head.cell
      obtain ⟨c6, c7, f6, f7⟩ := HB4.out.tail.tail.tail.tail.tail.head.cell
      obtain ⟨A, hA'⟩ : ∃ A, gA - m / n * hA = A := ⟨_, rfl⟩
      obtain ⟨B, hB'⟩ : ∃ A, gB - m / n * hB = A := ⟨_, rfl⟩
      rw [hA', hB'] at HST HB4
      rw [hA'] at c0
      rw [hB'] at c1
      clear hA' hB' n1 n2 n3 n4 n5 n6
      have a1 : W2.heap.size ≠ w.heap.size + 1 + 1 := by omega
      have a2 : W2.heap.size ≠ w.heap.size + 1 + 1 + 1 := by omega
      have a3 : W2.heap.size ≠ w.heap.size + 1 + 1 + 1 + 1 := by omega
      go_region
      go_wp2
      go_roundw
      case rel =>
        refine ⟨n, m % n, gA, gB, hA, hB, A, B, rfl, rfl, HST, Lib.hid ?_, Lib.hid ?_⟩
        · exact (HB5.out.trans (((pair_set W3 w.heap.size _ _ _ (by omega)).trans (pair_set _ w.heap.size _ _ _ (by omega))).trans (pair_set _ w.heap.size _ _ _ (by omega)))).drew
        · have h := HB4.out.tail
          refine Bs.drew (.cons ?_ (.cons ?_ (.cons ?_ (.cons ?_ (.cons ?_ (.nil _))))))
          · exact ((h.head.past _ _ (by omega)).past _ _ (by omega)).past _ _ (by omega)
          · exact ((h.tail.head.past _ _ (by omega)).past _ _ (by omega)).past _ _ (by omega)
          · exact ((h.tail.tail.head.store _ _).past _ _ (by omega)).past _ _ (by omega)
          · exact ((h.tail.tail.tail.head.past _ _ (by omega)).store _ _).past _ _ (by omega)
          · exact ((h.tail.tail.tail.tail.head.past _ _ (by omega)).past _ _ (by omega)).store _ _
      case measure =>
        have := Int.emod_lt_of_pos m y0
        have := Int.emod_nonneg m (b := n) (by omega)
        simp [intOf]; omega
    · by_cases h1 : q' ≤ n
      · have h2 : ¬ q + q' ≤ m - n := fun h => hc ⟨h1, h⟩
        clear hc
        obtain ⟨c2, c3, f2, f3⟩ := HBX.out.tail.tail.head.cell
        go_wp2
        go_quiet ((go_at_call 92; first | exact Calls.quiet_of_same ((abs_any gB q (by omega) HQ _).mono fun _ _ h => ⟨h.1, h.2.symm⟩) | exact Calls.quiet_of_same ((abs_any hB q' (by omega) HQ' _).mono fun _ _ h => ⟨h.1, h.2.symm⟩)))
        have HB2 : Hid (Below w.heap.size w (wr.drewN nq)) := Lib.hid (HB.out.trans ⟨rfl, rfl, rfl, Nat.le_refl _, fun _ _ => rfl⟩)
        have HBX2 := Lib.hid (show Bs (wr.drewN nq) _ from HBX.out)
        clear c0 c1 c2 c3 c4 c5 HB HBX HQ HQ'
        generalize wr.drewN nq = W2 at *
        obtain ⟨d0, d1, f0, f1⟩ := HBX2.out.head.cell
        obtain ⟨d2, d3, f2, f3⟩ := HBX2.out.tail.head.cell
        obtain ⟨d4, d5, f4, f5⟩ := HBX2.out.tail.tail.head.cell
        obtain ⟨d6, d7, f6, f7⟩ := HBX2.out.tail.tail.tail.head.cell
        go_wp2
        go_region
        go_wp2
        have r1 : Bx _ w.heap.size (.int .i64 fA) (.int .i64 fB) := (HBX2.out.head.store (.int .i64 fA) (.int .i64 fB)).past (.int .i64 gA) (.int .i64 gB) (show w.heap.size ≠ w.heap.size + 1 by omega)
        have r2 : Bx _ (w.heap.size + 1) (.int .i64 gA) (.int .i64 gB) := (HBX2.out.tail.head.past (.int .i64 fA) (.int .i64 fB) (show w.heap.size + 1 ≠ w.heap.size by omega)).store (.int .i64 gA) (.int .i64 gB)
        have r3 := HB2.out.trans ((pair_set W2 w.heap.size w.heap.size (.int .i64 fA) (.int .i64 fB) (by omega)).trans (pair_set _ w.heap.size (w.heap.size + 1) (.int .i64 gA) (.int .i64 gB) (by omega)))
        have R3 := Lib.hid r3.drew
        obtain ⟨l0, l1, _, _⟩ := r1.drew.cell
        obtain ⟨l2, l3, _, _⟩ := r2.drew.cell
        clear r1 r2 r3 d0 d1 d2 d3 d4 d5 d6 d7 f0 f1 f2 f3 f4 f5 f6 f7 HBX2 HB2
        generalize ((((W2.setCell ⟨w.heap.size, 0, none⟩ (.int .i64 fA)).setCell ⟨w.heap.size, 1, none⟩ (.int .i64 fB)).setCell ⟨w.heap.size + 1, 0, none⟩ (.int .i64 gA)).setCell ⟨w.heap.size + 1, 1, none⟩ (.int .i64 gB)).drew = W4 at *
        refine bodyPost_ret (v := .tuple #[.agg #[.int .i64 fA, .int .i64 fB], .agg #[.int .i64 gA, .int .i64 gB]]) (by simp [results, Tryd.results73, go_sem, l0, l1, l2, l3]) rfl ?_
        exact ⟨fA, fB, gA, gB, rfl, HI.out.lead, R3.out⟩
      · have hd1 : decide (q' ≤ n) = false := by simp; omega
        clear hc
        obtain ⟨c2, c3, f2, f3⟩ := HBX.out.tail.tail.head.cell
        go_wp2
        go_quiet ((go_at_call 92; first | exact Calls.quiet_of_same ((abs_any gB q (by omega) HQ _).mono fun _ _ h => ⟨h.1, h.2.symm⟩) | exact Calls.quiet_of_same ((abs_any hB q' (by omega) HQ' _).mono fun _ _ h => ⟨h.1, h.2.symm⟩)))
        have HB2 : Hid (Below w.heap.size w (wr.drewN nq)) := Lib.hid (HB.out.trans ⟨rfl, rfl, rfl, Nat.le_refl _, fun _ _ => rfl⟩)
        have HBX2 := Lib.hid (show Bs (wr.drewN nq) _ from HBX.out)
        clear c0 c1 c2 c3 c4 c5 HB HBX HQ HQ'
        generalize wr.drewN nq = W2 at *
        obtain ⟨d0, d1, f0, f1⟩ := HBX2.out.head.cell
        obtain ⟨d2, d3, f2, f3⟩ := HBX2.out.tail.head.cell
        obtain ⟨d4, d5, f4, f5⟩ := HBX2.out.tail.tail.head.cell
        obtain ⟨d6, d7, f6, f7⟩ := HBX2.out.tail.tail.tail.head.cell
        go_wp2
        go_region
        go_wp2
        have r1 : Bx _ w.heap.size (.int .i64 fA) (.int .i64 fB) := (HBX2.out.head.store (.int .i64 fA) (.int .i64 fB)).past (.int .i64 gA) (.int .i64 gB) (show w.heap.size ≠ w.heap.size + 1 by omega)
        have r2 : Bx _ (w.heap.size + 1) (.int .i64 gA) (.int .i64 gB) := (HBX2.out.tail.head.past (.int .i64 fA) (.int .i64 fB) (show w.heap.size + 1 ≠ w.heap.size by omega)).store (.int .i64 gA) (.int .i64 gB)
        have r3 := HB2.out.trans ((pair_set W2 w.heap.size w.heap.size (.int .i64 fA) (.int .i64 fB) (by omega)).trans (pair_set _ w.heap.size (w.heap.size + 1) (.int .i64 gA) (.int .i64 gB) (by omega)))
        have R3 := Lib.hid r3.drew
        obtain ⟨l0, l1, _, _⟩ := r1.drew.cell
        obtain ⟨l2, l3, _, _⟩ := r2.drew.cell
        clear r1 r2 r3 d0 d1 d2 d3 d4 d5 d6 d7 f0 f1 f2 f3 f4 f5 f6 f7 HBX2 HB2
        generalize ((((W2.setCell ⟨w.heap.size, 0, none⟩ (.int .i64 fA)).setCell ⟨w.heap.size, 1, none⟩ (.int .i64 fB)).setCell ⟨w.heap.size + 1, 0, none⟩ (.int .i64 gA)).setCell ⟨w.heap.size + 1, 1, none⟩ (.int .i64 gB)).drew = W4 at *
        refine bodyPost_ret (v := .tuple #[.agg #[.int .i64 fA, .int .i64 fB], .agg #[.int .i64 gA, .int .i64 gB]]) (by simp [results, Tryd.results73, go_sem, l0, l1, l2, l3]) rfl ?_
        exact ⟨fA, fB, gA, gB, rfl, HI.out.lead, R3.out⟩

end Go.Proofs.YtdkpcjfadabkbaaDoor
