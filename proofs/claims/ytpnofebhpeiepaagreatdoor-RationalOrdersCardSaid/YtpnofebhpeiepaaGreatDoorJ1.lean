/- What DivideDown does, given what divide does. -/
import Derived.Test.YtpnofebhpeiepaaGreatDoorI9
set_option linter.unusedVariables false
set_option linter.unusedSimpArgs false
namespace Go.Proofs.YtpnofebhpeiepaaGreatDoor
open Go.RowKit _root_.Go.Proofs.YtpnofebhpeiepaaGreatDoor.Nm

/-- Boxes of two cells. -/
def Bs (W : World) (l : List (Nat × Value × Value)) : Prop := ∀ t ∈ l, Bx W t.1 t.2.1 t.2.2
theorem Bs.nil (W : World) : Bs W [] := fun t h => by cases h
theorem Bs.cons {W : World} {g : Nat} {x y : Value} {l : List (Nat × Value × Value)} (h : Bx W g x y) (hl : Bs W l) : Bs W ((g, x, y) :: l) := by
  intro t ht
  rcases List.mem_cons.1 ht with rfl | ht
  · exact h
  · exact hl t ht
theorem Bs.head {W : World} {g : Nat} {x y : Value} {l : List (Nat × Value × Value)} (h : Bs W ((g, x, y) :: l)) : Bx W g x y := h _ List.mem_cons_self
theorem Bs.tail {W : World} {g : Nat} {x y : Value} {l : List (Nat × Value × Value)} (h : Bs W ((g, x, y) :: l)) : Bs W l := fun t ht => h t (List.mem_cons_of_mem _ ht)
theorem Bs.next {W W' : World} {l : List (Nat × Value × Value)} {B : Nat} (h : Bs W l) (hb : Below B W W') (hB : W.heap.size ≤ B) : Bs W' l := fun t ht => (h t ht).below hb (Nat.lt_of_lt_of_le (h t ht).lt hB)
theorem Bs.drew {W : World} {l : List (Nat × Value × Value)} (h : Bs W l) : Bs W.drew l := h

/-- P, but not m blocks behind w's end. -/
def Bar (m : Nat) (P : Nat → Prop) (w : World) (k : Nat) : Prop := P k ∧ (k < w.heap.size ∨ w.heap.size + m ≤ k)
theorem Bar.new {m : Nat} {P : Nat → Prop} {w : World} (hP : ∀ k, w.heap.size ≤ k → P k) (k : Nat) (hk : w.heap.size + m ≤ k) : Bar m P w k := ⟨hP k (by omega), .inr hk⟩
theorem IsInt.bar {m : Nat} {P : Nat → Prop} {w W : World} {v : Value} {z : Int} (h : IsInt P w v z) (hb : Below w.heap.size w W) : IsInt (Bar m P w) W v z :=
  (h.mono (fun k hk hp => (⟨hp, .inl hk⟩ : Bar m P w k))).kept (.all hb)

theorem boxes4 (w : World) (x y z u : Obj) : Below w.heap.size w ((((w.alloc x).alloc y).alloc z).alloc u) := (boxes3 w x y z).alloc (by simp; omega) u

theorem third_new (w : World) (x y z : Obj) : (((w.alloc x).alloc y).alloc z).heap[w.heap.size + 1 + 1]? = some z := by
  have := second_new (w.alloc x) y z
  rwa [World.size_alloc] at this
theorem fourth_new (w : World) (x y z u : Obj) : ((((w.alloc x).alloc y).alloc z).alloc u).heap[w.heap.size + 1 + 1 + 1]? = some u := by
  have := third_new (w.alloc x) y z u
  rwa [World.size_alloc] at this

theorem Bs.four (w : World) (x0 x1 y0 y1 z0 z1 u0 u1 : Value) (T1 T2 T3 T4 : TypeId) :
    Bs ((((w.alloc (.cells #[x0, x1] T1)).alloc (.cells #[y0, y1] T2)).alloc (.cells #[z0, z1] T3)).alloc (.cells #[u0, u1] T4)) [(w.heap.size, x0, x1), (w.heap.size + 1, y0, y1), (w.heap.size + 1 + 1, z0, z1), (w.heap.size + 1 + 1 + 1, u0, u1)] :=
  .cons (((Bx.new w x0 x1 T1).alloc _).alloc _ |>.alloc _) (.cons (((second_box w _ y0 y1 T2 ()).alloc _).alloc _) (.cons (Bx.alloc ⟨T3, third_new _ _ _ _⟩ _) (.cons ⟨T4, fourth_new _ _ _ _ _⟩ (.nil _))))

/-- A quotient and a remainder. -/
def DivPost (P : Nat → Prop) (q r : Int) (w : World) (e : Ending) (w' : World) : Prop :=
  ∃ s1 p1 s2 p2, e = .returned (.tuple #[.agg #[.int .i64 s1, .pointer p1], .agg #[.int .i64 s2, .pointer p2]]) ∧ IsInt P w' (.agg #[.int .i64 s1, .pointer p1]) q ∧ IsInt P w' (.agg #[.int .i64 s2, .pointer p2]) r ∧ Below w.heap.size w w'

theorem drew_cell (W : World) (g i : Nat) : W.drew.cell? ⟨g, i, none⟩ = W.cell? ⟨g, i, none⟩ := rfl

theorem four_in {P : Nat → Prop} {w w1 : World} {v v' x0 x1 y0 y1 : Value} {q r : Int} (h : IsInt (Bar 4 P w) w1 v q) (h' : IsInt (Bar 4 P w) w1 v' r) (hb : Below w.heap.size w w1) :
    IsInt P ((((w1.setCell ⟨w.heap.size + 1 + 1, 0, none⟩ x0).setCell ⟨w.heap.size + 1 + 1, 1, none⟩ x1).setCell ⟨w.heap.size + 1 + 1 + 1, 0, none⟩ y0).setCell ⟨w.heap.size + 1 + 1 + 1, 1, none⟩ y1) v q ∧
    IsInt P ((((w1.setCell ⟨w.heap.size + 1 + 1, 0, none⟩ x0).setCell ⟨w.heap.size + 1 + 1, 1, none⟩ x1).setCell ⟨w.heap.size + 1 + 1 + 1, 0, none⟩ y0).setCell ⟨w.heap.size + 1 + 1 + 1, 1, none⟩ y1) v' r ∧
    Below w.heap.size w ((((w1.setCell ⟨w.heap.size + 1 + 1, 0, none⟩ x0).setCell ⟨w.heap.size + 1 + 1, 1, none⟩ x1).setCell ⟨w.heap.size + 1 + 1 + 1, 0, none⟩ y0).setCell ⟨w.heap.size + 1 + 1 + 1, 1, none⟩ y1) := by
  have hk := pair_kept (Q := Bar 4 P w) w1 (w.heap.size + 1 + 1) x0 x1 y0 y1 (fun h => by have := h.2; omega) (fun h => by have := h.2; omega)
  exact ⟨(h.kept hk).mono (fun k _ h => h.1), (h'.kept hk).mono (fun k _ h => h.1), hb.trans ((pair_below _ _ _ _ _ _).mono (by omega))⟩

theorem Bs.two {W : World} {g1 g2 : Nat} {x0 x1 y0 y1 : Value} (h : Bs W [(g1, x0, x1), (g2, y0, y1)]) :
    W.cell? ⟨g1, 0, none⟩ = some x0 ∧ W.cell? ⟨g1, 1, none⟩ = some x1 ∧ W.cell? ⟨g2, 0, none⟩ = some y0 ∧ W.cell? ⟨g2, 1, none⟩ = some y1 ∧
    W.frozen? ⟨g1, 0, none⟩ = false ∧ W.frozen? ⟨g1, 1, none⟩ = false ∧ W.frozen? ⟨g2, 0, none⟩ = false ∧ W.frozen? ⟨g2, 1, none⟩ = false :=
  ⟨h.head.cell.1, h.head.cell.2.1, h.tail.head.cell.1, h.tail.head.cell.2.1, h.head.cell.2.2.1, h.head.cell.2.2.2, h.tail.head.cell.2.2.1, h.tail.head.cell.2.2.2⟩

/-- What a region of two loads reads: the second and the fourth box of six. -/
theorem Bs.two2 {W : World} {g1 g2 g3 g4 : Nat} {x0 x1 y0 y1 z0 z1 u0 u1 : Value} {l : List (Nat × Value × Value)} (h : Bs W ((g1, x0, x1) :: (g2, y0, y1) :: (g3, z0, z1) :: (g4, u0, u1) :: l)) :
    W.cell? ⟨g2, 0, none⟩ = some y0 ∧ W.cell? ⟨g2, 1, none⟩ = some y1 ∧ W.cell? ⟨g4, 0, none⟩ = some u0 ∧ W.cell? ⟨g4, 1, none⟩ = some u1 ∧
    W.cell? ⟨g1, 0, none⟩ = some x0 ∧ W.cell? ⟨g1, 1, none⟩ = some x1 ∧ W.cell? ⟨g3, 0, none⟩ = some z0 ∧ W.cell? ⟨g3, 1, none⟩ = some z1 :=
  ⟨h.tail.head.cell.1, h.tail.head.cell.2.1, h.tail.tail.tail.head.cell.1, h.tail.tail.tail.head.cell.2.1, h.head.cell.1, h.head.cell.2.1, h.tail.tail.head.cell.1, h.tail.tail.head.cell.2.1⟩

/-- All that six boxes say. -/
theorem Bs.six {W : World} {g1 g2 g3 g4 g5 g6 : Nat} {x0 x1 y0 y1 z0 z1 u0 u1 s0 s1 t0 t1 : Value} (h : Bs W [(g1, x0, x1), (g2, y0, y1), (g3, z0, z1), (g4, u0, u1), (g5, s0, s1), (g6, t0, t1)]) :
    W.cell? ⟨g1, 0, none⟩ = some x0 ∧ W.cell? ⟨g1, 1, none⟩ = some x1 ∧ W.cell? ⟨g2, 0, none⟩ = some y0 ∧ W.cell? ⟨g2, 1, none⟩ = some y1 ∧ W.cell? ⟨g4, 0, none⟩ = some u0 ∧ W.cell? ⟨g4, 1, none⟩ = some u1 ∧
    W.cell? ⟨g5, 0, none⟩ = some s0 ∧ W.cell? ⟨g5, 1, none⟩ = some s1 ∧ W.cell? ⟨g6, 0, none⟩ = some t0 ∧ W.cell? ⟨g6, 1, none⟩ = some t1 ∧
    W.frozen? ⟨g5, 0, none⟩ = false ∧ W.frozen? ⟨g5, 1, none⟩ = false ∧ W.frozen? ⟨g6, 0, none⟩ = false ∧ W.frozen? ⟨g6, 1, none⟩ = false :=
  ⟨h.head.cell.1, h.head.cell.2.1, h.tail.head.cell.1, h.tail.head.cell.2.1, h.tail.tail.tail.head.cell.1, h.tail.tail.tail.head.cell.2.1,
   h.tail.tail.tail.tail.head.cell.1, h.tail.tail.tail.tail.head.cell.2.1, h.tail.tail.tail.tail.tail.head.cell.1, h.tail.tail.tail.tail.tail.head.cell.2.1,
   h.tail.tail.tail.tail.head.cell.2.2.1, h.tail.tail.tail.tail.head.cell.2.2.2, h.tail.tail.tail.tail.tail.head.cell.2.2.1, h.tail.tail.tail.tail.tail.head.cell.2.2.2⟩

theorem sg_le (z : Int) : -1 ≤ sg z ∧ sg z ≤ 1 := by unfold sg; split <;> (try split) <;> omega

/-- q and r are the quotient, rounded down, and the remainder. -/
def Dv (a b q r : Int) : Prop := a = b * q + r ∧ r.natAbs < b.natAbs ∧ (r = 0 ∨ (r < 0 ↔ b < 0))

/-- The same, rounded towards 0. -/
def Tv (a b q r : Int) : Prop := a = b * q + r ∧ r.natAbs < b.natAbs ∧ (r = 0 ∨ (r < 0 ↔ a < 0))

theorem tv_tdiv (a b : Int) (hb : b ≠ 0) : Tv a b (a.tdiv b) (a.tmod b) := by
  refine ⟨(Int.mul_tdiv_add_tmod a b).symm, ?_⟩
  have h1 := Int.emod_nonneg a hb
  have h2 := Int.emod_lt a hb
  have h3 := Int.tmod_eq_emod (a := a) (b := b)
  by_cases h : 0 ≤ a ∨ b ∣ a
  · rw [if_pos h] at h3
    refine ⟨by omega, ?_⟩
    rcases h with h | h
    · right; omega
    · left
      have := Int.emod_eq_zero_of_dvd h
      omega
  · rw [if_neg h] at h3
    have h4 : ¬ b ∣ a := fun h' => h (.inr h')
    have h5 : a % b ≠ 0 := fun h' => h4 (Int.dvd_of_emod_eq_zero h')
    have h6 : ¬ 0 ≤ a := fun h' => h (.inl h')
    refine ⟨by omega, .inr ?_⟩
    omega

theorem Tv.down {a b q r : Int} (h : Tv a b q r) (hs : (sg r == -sg b) = true) : Dv a b (q - 1) (r + b) := by
  obtain ⟨h1, h2, h3⟩ := h
  have hs := eq_of_beq hs
  refine ⟨by rw [h1]; grind, ?_, ?_⟩
  · unfold sg at hs
    by_cases k1 : r < 0 <;> by_cases k2 : 0 < r <;> by_cases k3 : b < 0 <;> by_cases k4 : 0 < b <;> simp [k1, k2, k3, k4] at hs <;> omega
  · unfold sg at hs
    by_cases k1 : r < 0 <;> by_cases k2 : 0 < r <;> by_cases k3 : b < 0 <;> by_cases k4 : 0 < b <;> simp [k1, k2, k3, k4] at hs <;> omega

theorem Tv.stay {a b q r : Int} (h : Tv a b q r) (hs : (sg r == -sg b) = false) : Dv a b q r := by
  obtain ⟨h1, h2, h3⟩ := h
  have hs := beq_eq_false_iff_ne.1 hs
  refine ⟨h1, h2, ?_⟩
  unfold sg at hs
  by_cases k1 : r < 0 <;> by_cases k2 : 0 < r <;> by_cases k3 : b < 0 <;> by_cases k4 : 0 < b <;> simp [k1, k2, k3, k4] at hs <;> omega

theorem Dv.unique {a b q r q' r' : Int} (h : Dv a b q r) (h' : Dv a b q' r') : q = q' ∧ r = r' := by
  obtain ⟨h1, h2, h3⟩ := h
  obtain ⟨h4, h5, h6⟩ := h'
  have e : b * (q - q') = r' - r := by grind
  have hq : q = q' := by
    rcases Int.lt_trichotomy (q - q') 0 with hq | hq | hq
    · exfalso
      have : b.natAbs * 1 ≤ b.natAbs * (q - q').natAbs := Nat.mul_le_mul_left _ (by omega)
      rw [← Int.natAbs_mul, e] at this
      omega
    · omega
    · exfalso
      have : b.natAbs * 1 ≤ b.natAbs * (q - q').natAbs := Nat.mul_le_mul_left _ (by omega)
      rw [← Int.natAbs_mul, e] at this
      omega
  subst hq
  exact ⟨rfl, by simp at e; omega⟩

theorem Dv.size {a b q r : Int} (h : Dv a b q r) : r.natAbs < b.natAbs := h.2.1
theorem Tv.size {a b q r : Int} (h : Tv a b q r) : q.natAbs ≤ a.natAbs := by
  obtain ⟨h1, h2, h3⟩ := h
  rcases Nat.eq_zero_or_pos q.natAbs with hq | hq
  · omega
  · have h4 : b.natAbs * q.natAbs = (b * q).natAbs := (Int.natAbs_mul b q).symm
    have h5 : q.natAbs + b.natAbs ≤ b.natAbs * q.natAbs + 1 := by
      obtain ⟨x, hx⟩ : ∃ x, b.natAbs = x + 1 := ⟨b.natAbs - 1, by omega⟩
      obtain ⟨y, hy⟩ : ∃ y, q.natAbs = y + 1 := ⟨q.natAbs - 1, by omega⟩
      rw [hx, hy, Nat.add_mul, Nat.mul_add]
      omega
    have h6 : b * q = a - r := by omega
    have h8 : b.natAbs * 1 ≤ b.natAbs * q.natAbs := Nat.mul_le_mul_left _ hq
    rw [h6] at h4
    generalize b.natAbs * q.natAbs = M at *
    omega

theorem ds_le (m n k : Nat) (h : m ≤ n) (hn : (ds 1000000000 n).length ≤ k) : (ds 1000000000 m).length ≤ k := Nat.le_trans (ds_length_mono _ (by omega) _ _ h) hn

set_option maxRecDepth 100000 in
set_option maxHeartbeats 3200000 in
theorem DivideDown_int (P : Nat → Prop) (s1 s2 : Int) (p1 p2 : Option Addr) (a b q r : Int) (w : World) (hP : ∀ k, w.heap.size ≤ k → P k) (ha : IsInt P w (.agg #[.int .i64 s1, .pointer p1]) a) (hb : IsInt P w (.agg #[.int .i64 s2, .pointer p2]) b)
    (hdiv : ∀ W : World, Below w.heap.size w W → w.heap.size + 4 ≤ W.heap.size → Calls Tryz.prog 121 #[.agg #[.int .i64 s1, .pointer p1], .agg #[.int .i64 s2, .pointer p2]] W (DivPost (Bar 4 P w) q r W))
    (ht : Tv a b q r) (lq : (ds 1000000000 q.natAbs).length ≤ 1000) (lb : (ds 1000000000 b.natAbs).length ≤ 1000) :
    Calls Tryz.prog 100 #[.agg #[.int .i64 s1, .pointer p1], .agg #[.int .i64 s2, .pointer p2]] w fun e w' => ∃ q' r', Dv a b q' r' ∧ DivPost P q' r' w e w' := by
  have HA := Lib.hid ha
  have HB := Lib.hid hb
  have HP := Lib.hid hP
  have HD := Lib.hid hdiv
  have lr : (ds 1000000000 r.natAbs).length ≤ 1000 := ds_le _ _ _ (by have := ht.2.1; omega) lb
  have l1 : (ds 1000000000 (1 : Int).natAbs).length ≤ 1000 := by decide +kernel
  have HT := Lib.hid ht
  clear ha hb hP hdiv ht
  have hB0 := Bs.four w (.int .i64 s1) (.pointer p1) (.int .i64 s2) (.pointer p2) (.int .i64 0) (.pointer none) (.int .i64 0) (.pointer none) 61 61 61 61
  have HW0 := Lib.hid (boxes4 w (.cells #[.int .i64 s1, .pointer p1] 61) (.cells #[.int .i64 s2, .pointer p2] 61) (.cells #[.int .i64 0, .pointer none] 61) (.cells #[.int .i64 0, .pointer none] 61))
  go_enter Tryz.func100, Tryz.ntmps100
  go_wp2_with fail
  refine (HD.out _ HW0.out (by simp)).mono ?_
  rintro e w1 ⟨s3, p3, s4, p4, rfl, hq, hr, hb1⟩
  have hB1 := hB0.next hb1 (Nat.le_refl _)
  have HQ := Lib.hid hq
  have HR := Lib.hid hr
  have HW1 := Lib.hid (HW0.out.trans (hb1.mono (by simp; omega)))
  clear hq hr hb1 hB0
  have hB2 : Bs ((w1.alloc (.cells #[.int .i64 s3, .pointer p3] 61)).alloc (.cells #[.int .i64 s4, .pointer p4] 61)) [(w1.heap.size, .int .i64 s3, .pointer p3), (w1.heap.size + 1, .int .i64 s4, .pointer p4), (w.heap.size, .int .i64 s1, .pointer p1), (w.heap.size + 1, .int .i64 s2, .pointer p2), (w.heap.size + 1 + 1, .int .i64 0, .pointer none), (w.heap.size + 1 + 1 + 1, .int .i64 0, .pointer none)] :=
    .cons ((Bx.new w1 _ _ _).alloc _) (.cons (second_box w1 _ _ _ _ ()) ((hB1.next ((Below.refl _ _).alloc (Nat.le_refl _) _) (Nat.le_refl _)).next ((Below.refl _ _).alloc (Nat.le_refl _) _) (Nat.le_refl _)))
  have HW2 := Lib.hid (HW1.out.trans ((boxes2 w1 (.cells #[.int .i64 s3, .pointer p3] 61) (.cells #[.int .i64 s4, .pointer p4] 61)).mono HW1.out.size))
  have hsz : w.heap.size + 4 ≤ w1.heap.size := by
    have := hB1.tail.tail.tail.head.lt; omega
  have HSZ := Lib.hid hsz
  have HR2 := Lib.hid (HR.out.kept (.all (boxes2 w1 (.cells #[.int .i64 s3, .pointer p3] 61) (.cells #[.int .i64 s4, .pointer p4] 61))))
  have HQ2 := Lib.hid (HQ.out.kept (.all (boxes2 w1 (.cells #[.int .i64 s3, .pointer p3] 61) (.cells #[.int .i64 s4, .pointer p4] 61))))
  clear hB1 HQ HR
  obtain ⟨c1, hc1⟩ : ∃ c, sg r = c := ⟨_, rfl⟩
  obtain ⟨c2, hc2⟩ : ∃ c, sg b = c := ⟨_, rfl⟩
  have hc3 := sg_le b
  have HC1 := Lib.hid hc1
  have HC2 := Lib.hid hc2
  rw [hc2] at hc3
  obtain ⟨hc3, hc4⟩ := hc3
  have hwr : IntKind.i64.wrap (-c2) = -c2 := IntWalk.i64_in _ (by omega)
  clear hc1 hc2
  obtain ⟨f0, f1, f2, f3, f4, f5, f6, f7⟩ := hB2.drew.two2
  go_wp2_with fail
  go_region_held3 (fun w' => w'.cell? ⟨w1.heap.size + 1, 0, none⟩ = some (.int .i64 s4) ∧ w'.cell? ⟨w1.heap.size + 1, 1, none⟩ = some (.pointer p4) ∧ w'.cell? ⟨w.heap.size + 1, 0, none⟩ = some (.int .i64 s2) ∧ w'.cell? ⟨w.heap.size + 1, 1, none⟩ = some (.pointer p2)) (first | ((try dsimp only); (repeat' apply And.intro); all_goals assumption) | go_keep) (first | (go_at_call 84; refine (Sign_any (Bar 4 P w) _ r _ (by exact HR2.out.kept (.drew _ _))).mono ?_; rintro e w3 ⟨rfl, hb3⟩; rw [HC1.out]; have hB3 := hB2.drew.next hb3 (Nat.le_refl _); obtain ⟨d0, d1, d2, d3, d4, d5, d6, d7⟩ := hB3.two2) | (go_at_call 84; refine (Sign_any P _ b _ (by exact HB.out.kept (.all (HW2.out.drew.trans (hb3.mono HW2.out.size))))).mono ?_; rintro e w4 ⟨rfl, hb4⟩; rw [HC2.out]; have hB4 := hB3.next hb4 (Nat.le_refl _); obtain ⟨e0, e1, e2, e3, e4, e5, e6, e7⟩ := hB4.two2))
  have HW4 := Lib.hid (HW2.out.drew.trans (hb3.mono HW2.out.size) |>.trans (hb4.mono (by have := HW2.out.size; have := hb3.size; simp at *; omega)))
  have HR4 := Lib.hid ((HR2.out.kept (.drew _ _)).kept (.all hb3) |>.kept (.all hb4))
  have HQ4 := Lib.hid ((HQ2.out.kept (.drew _ _)).kept (.all hb3) |>.kept (.all hb4))
  have hz4 : w.heap.size + 4 ≤ w4.heap.size := by have := hB4.head.lt; omega
  clear f0 f1 f2 f3 f4 f5 f6 f7 d0 d1 d2 d3 d4 d5 d6 d7 e0 e1 e2 e3 e4 e5 e6 e7 hB2 hB3 hb3 hb4 HR2 HQ2 hwr
  cases hn : (c1 == -c2)
  · have HDV := Lib.hid (HT.out.stay (by rw [HC1.out, HC2.out]; exact hn))
    obtain ⟨f0, f1, f2, f3, f4, f5, f6, f7, f8, f9, f10, f11, f12, f13⟩ := hB4.six
    have d1 : w.heap.size + 1 + 1 ≠ w1.heap.size := by omega
    have d2 : w.heap.size + 1 + 1 ≠ w1.heap.size + 1 := by omega
    have d3 : w.heap.size + 1 + 1 + 1 ≠ w1.heap.size := by omega
    have d4 : w.heap.size + 1 + 1 + 1 ≠ w1.heap.size + 1 := by omega
    go_wp2_with fail
    go_region
    go_wp2
    refine bodyPost_ret (v := .tuple #[.agg #[.int .i64 s3, .pointer p3], .agg #[.int .i64 s4, .pointer p4]]) (by simp [results, Tryz.results100, go_sem, drew_cell, f6, f7, f8, f9]) rfl ?_
    obtain ⟨e1, e2, e3⟩ := four_in (x0 := .int .i64 s3) (x1 := .pointer p3) (y0 := .int .i64 s4) (y1 := .pointer p4) HQ4.out HR4.out HW4.out
    exact ⟨q, r, HDV.out, s3, p3, s4, p4, rfl, e1.kept (.drew _ _), e2.kept (.drew _ _), e3.drew⟩
  · have HDV := Lib.hid (HT.out.down (by rw [HC1.out, HC2.out]; exact hn))
    go_wp2_with fail
    obtain ⟨f0, f1, f2, f3, f4, f5, f6, f7, f8, f9, f10, f11, f12, f13⟩ := hB4.drew.six
    go_region_held3 (fun w' => w'.cell? ⟨w1.heap.size, 0, none⟩ = some (.int .i64 s3) ∧ w'.cell? ⟨w1.heap.size, 1, none⟩ = some (.pointer p3) ∧ w'.cell? ⟨w1.heap.size + 1, 0, none⟩ = some (.int .i64 s4) ∧ w'.cell? ⟨w1.heap.size + 1, 1, none⟩ = some (.pointer p4) ∧ w'.cell? ⟨w.heap.size + 1, 0, none⟩ = some (.int .i64 s2) ∧ w'.cell? ⟨w.heap.size + 1, 1, none⟩ = some (.pointer p2)) (first | ((try dsimp only); (repeat' apply And.intro); all_goals (first | (rw [cell_set2 _ _ _ _ _ _ (by omega), cell_set2 _ _ _ _ _ _ (by omega)]; with_reducible assumption) | (rw [cell_set2 _ _ _ _ _ _ (by omega)]; with_reducible assumption) | with_reducible assumption)) | go_keep) (first | (go_at_call 78; refine (Of_int (Bar 4 P w) 1 (by omega) (by omega) _ (by intro k hk; exact Bar.new HP.out k (Nat.le_trans hz4 hk))).mono ?_; rintro e w5 ⟨v5, rfl, hv5, hb5⟩; obtain ⟨s5, p5, rfl⟩ := hv5.form; have hB5 := hB4.drew.next hb5 (Nat.le_refl _); have hz5 := Nat.le_trans hz4 hb5.size; obtain ⟨g0, g1, g2, g3, g4, g5, g6, g7, g8, g9, g10, g11, g12, g13⟩ := hB5.six; clear f0 f1 f2 f3 f4 f5 f6 f7 f8 f9 f10 f11 f12 f13) | (go_at_call 122; refine (Minus_any (Bar 4 P w) _ _ q 1 _ (by intro k hk; exact Bar.new HP.out k (Nat.le_trans hz5 hk)) (by exact (HQ4.out.kept (.drew _ _)).kept (.all hb5)) hv5 lq l1).mono ?_; rintro e w6 ⟨v6, rfl, hv6, hb6⟩; obtain ⟨s6, p6, rfl⟩ := hv6.form; have hB6 := hB5.next hb6 (Nat.le_refl _); have hz6 := Nat.le_trans hz5 hb6.size; obtain ⟨h0, h1, h2, h3, h4, h5, h6, h7, h8, h9, h10, h11, h12, h13⟩ := hB6.six; clear g0 g1 g2 g3 g4 g5 g6 g7 g8 g9 g10 g11 g12 g13) | (go_at_call 92; refine (Plus_any (Bar 4 P w) _ _ r b _ (by intro k hk; exact Bar.new HP.out k (Nat.le_trans hz6 hk)) (by exact ((HR4.out.kept (.drew _ _)).kept (.all hb5)).kept (.all hb6)) (by exact HB.out.bar (HW4.out.drew.trans ((hb5.mono HW4.out.size).trans (hb6.mono (Nat.le_trans (Nat.le_add_right _ 4) hz5))))) lr lb).mono ?_; rintro e w7 ⟨v7, rfl, hv7, hb7⟩; obtain ⟨s7, p7, rfl⟩ := hv7.form; have hB7 := hB6.next hb7 (Nat.le_refl _); obtain ⟨l0, l1, l2, l3, l4, l5, l6, l7, l8, l9, l10, l11, l12, l13⟩ := hB7.six; clear h0 h1 h2 h3 h4 h5 h6 h7 h8 h9 h10 h11 h12 h13))
    have hb67 := HW4.out.drew.trans ((hb5.mono HW4.out.size).trans (hb6.mono (Nat.le_trans (Nat.le_add_right _ 4) hz5)) |>.trans (hb7.mono (Nat.le_trans (Nat.le_add_right _ 4) hz6)))
    have HV6 := Lib.hid (hv6.kept (.all hb7))
    have HV7 := Lib.hid hv7
    have HW7 := Lib.hid hb67
    clear hv5 hv6 hv7 hb5 hb6 hb7 hb67 l0 l1 l2 l3 l4 l5
    go_wp2
    refine bodyPost_ret (v := .tuple #[.agg #[.int .i64 s6, .pointer p6], .agg #[.int .i64 s7, .pointer p7]]) (by simp [results, Tryz.results100, go_sem, l6, l7, l8, l9]) rfl ?_
    obtain ⟨e1, e2, e3⟩ := four_in (x0 := .int .i64 s6) (x1 := .pointer p6) (y0 := .int .i64 s7) (y1 := .pointer p7) HV6.out HV7.out HW7.out
    exact ⟨q - 1, r + b, HDV.out, s6, p6, s7, p7, rfl, e1, e2, e3⟩

theorem DivideDown_any (P : Nat → Prop) (x y : Value) (a b q r : Int) (w : World) (hP : ∀ k, w.heap.size ≤ k → P k) (ha : IsInt P w x a) (hb : IsInt P w y b)
    (hdiv : ∀ W : World, Below w.heap.size w W → w.heap.size + 4 ≤ W.heap.size → Calls Tryz.prog 121 #[x, y] W (DivPost (Bar 4 P w) q r W))
    (ht : Tv a b q r) (lq : (ds 1000000000 q.natAbs).length ≤ 1000) (lb : (ds 1000000000 b.natAbs).length ≤ 1000) :
    Calls Tryz.prog 100 #[x, y] w fun e w' => ∃ q' r', Dv a b q' r' ∧ DivPost P q' r' w e w' := by
  obtain ⟨s1, p1, rfl⟩ := ha.form
  obtain ⟨s2, p2, rfl⟩ := hb.form
  exact DivideDown_int P s1 s2 p1 p2 a b q r w hP ha hb hdiv ht lq lb

end Go.Proofs.YtpnofebhpeiepaaGreatDoor
