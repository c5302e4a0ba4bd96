/- What DivideDown does, given what divide does. -/
import Derived.Test.YtmdppblhbmbakaaGreatDoorI9
set_option linter.unusedVariables false
set_option linter.unusedSimpArgs false
namespace Go.Proofs.YtmdppblhbmbakaaGreatDoor
open Go.RowKit _root_.Go.Proofs.YtmdppblhbmbakaaGreatDoor.Nm

/-- Boxes of two cells. -/
def Bs (W : World) (l : List (Nat × Value × Value)) : Prop := ∀ t ∈ l, Bx W t.1 t.2.1 t.2.2
theorem Bs.nil (W : World) : Bs W [] := fun t h => by cases h
theorem Bs.cons {W : World} {g : Nat} {x y : Value} {l : List (Nat × Value × Value)} (h : Bx W g x y) (hl : Bs W l) : Bs W ((g, x, y) :: l) := by
  intro t ht
  rcases List.mem_cons.1 ht with rfl | ht
  · exact h
  · exact hl t ht
theorem Bs.head {W : World} {g : Nat} {x y : Value} {l : List (Nat × Value × Value)} (h : Bs W ((g, x, y) :: l)) : Bx W g x y := h _ List.mem_cons_self
theorem Bs.tail {W : World} {g : Nat} {x y : Value} {l : List (Nat × Value × Value)} (h : Bs W ((g, x, y) :: l)) : Bs W l := fun t ht => h t (List.mem_cons_of_mem _ ht)
theorem Bs.next {W W' : World} {l : List (Nat × Value × Value)} {B : Nat} (h : Bs W l) (hb : Below B W W') (hB : W.heap.size ≤ B) : Bs W' l := fun t ht => (h t ht).below hb (Nat.lt_of_lt_of_le (h t ht).lt hB)
theorem Bs.drew {W : World} {l : List (Nat × Value × Value)} (h : Bs W l) : Bs W.drew l := h

/-- P, but not m blocks behind w's end. -/
def Bar (m : Nat) (P : Nat → Prop) (w : World) (k : Nat) : Prop := P k ∧ (k < w.heap.size ∨ w.heap.size + m ≤ k)
theorem Bar.new {m : Nat} {P : Nat → Prop} {w : World} (hP : ∀ k, w.heap.size ≤ k → P k) (k : Nat) (hk : w.heap.size + m ≤ k) : Bar m P w k := ⟨hP k (by omega), .inr hk⟩
theorem IsInt.bar {m : Nat} {P : Nat → Prop} {w W : World} {v : Value} {z : Int} (h : IsInt P w v z) (hb : Below w.heap.size w W) : IsInt (Bar m P w) W v z :=
  (h.mono (fun k hk hp => (⟨hp, .inl hk⟩ : Bar m P w k))).kept (.all hb)

theorem boxes4 (w : World) (x y z u : Obj) : Below w.heap.size w ((((w.alloc x).alloc y).alloc z).alloc u) := (boxes3 w x y z).alloc (by simp; omega) u

theorem third_new (w : World) (x y z : Obj) : (((w.alloc x).alloc y).alloc z).heap[w.heap.size + 1 + 1]? = some z := by
  have := second_new (w.alloc x) y z
  rwa [World.size_alloc] at this
theorem fourth_new (w : World) (x y z u : Obj) : ((((w.alloc x).alloc y).alloc z).alloc u).heap[w.heap.size + 1 + 1 + 1]? = some u := by
  have := third_new (w.alloc x) y z u
  rwa [World.size_alloc] at this

theorem Bs.four (w : World) (x0 x1 y0 y1 z0 z1 u0 u1 : Value) (T1 T2 T3 T4 : TypeId) :
    Bs ((((w.alloc (.cells #[x0, x1] T1)).alloc (.cells #[y0, y1] T2)).alloc (.cells #[z0, z1] T3)).alloc (.cells #[u0, u1] T4)) [(w.heap.size, x0, x1), (w.heap.size + 1, y0, y1), (w.heap.size + 1 + 1, z0, z1), (w.heap.size + 1 + 1 + 1, u0, u1)] :=
  .cons (((Bx.new w x0 x1 T1).alloc _).alloc _ |>.alloc _) (.cons (((second_box w _ y0 y1 T2 ()).alloc _).alloc _) (.cons (Bx.alloc ⟨T3, third_new _ _ _ _⟩ _) (.cons ⟨T4, fourth_new _ _ _ _ _⟩ (.nil _))))

/-- A quotient and a remainder. -/
def DivPost (P : Nat → Prop) (q r : Int) (w : World) (e : Ending) (w' : World) : Prop :=
  ∃ s1 p1 s2 p2, e = .returned (.tuple #[.agg #[.int .i64 s1, .pointer p1], .agg #[.int .i64 s2, .pointer p2]]) ∧ IsInt P w' (.agg #[.int .i64 s1, .pointer p1]) q ∧ IsInt P w' (.agg #[.int .i64 s2, .pointer p2]) r ∧ Below w.heap.size w w'

theorem drew_cell (W : World) (g i : Nat) : W.drew.cell? ⟨g, i, none⟩ = W.cell? ⟨g, i, none⟩ := rfl

theorem four_in {P : Nat → Prop} {w w1 : World} {v v' x0 x1 y0 y1 : Value} {q r : Int} (h : IsInt (Bar 4 P w) w1 v q) (h' : IsInt (Bar 4 P w) w1 v' r) (hb : Below w.heap.size w w1) :
    IsInt P ((((w1.setCell ⟨w.heap.size + 1 + 1, 0, none⟩ x0).setCell ⟨w.heap.size + 1 + 1, 1, none⟩ x1).setCell ⟨w.heap.size + 1 + 1 + 1, 0, none⟩ y0).setCell ⟨w.heap.size + 1 + 1 + 1, 1, none⟩ y1) v q ∧
    IsInt P ((((w1.setCell ⟨w.heap.size + 1 + 1, 0, none⟩ x0).setCell ⟨w.heap.size + 1 + 1, 1, none⟩ x1).setCell ⟨w.heap.size + 1 + 1 + 1, 0, none⟩ y0).setCell ⟨w.heap.size + 1 + 1 + 1, 1, none⟩ y1) v' r ∧
    Below w.heap.size w ((((w1.setCell ⟨w.heap.size + 1 + 1, 0, none⟩ x0).setCell ⟨w.heap.size + 1 + 1, 1, none⟩ x1).setCell ⟨w.heap.size + 1 + 1 + 1, 0, none⟩ y0).setCell ⟨w.heap.size + 1 + 1 + 1, 1, none⟩ y1) := by
  have hk := pair_kept (Q := Bar 4 P w) w1 (w.heap.size + 1 + 1) x0 x1 y0 y1 (fun h => by have := h.2; omega) (fun h => by have := h.2; omega)
  exact ⟨(h.kept hk).mono (fun k _ h => h.1), (h'.kept hk).mono (fun k _ h => h.1), hb.trans ((pair_below _ _ _ _ _ _).mono (by omega))⟩

theorem Bs.two {W : World} {g1 g2 : Nat} {x0 x1 y0 y1 : Value} (h : Bs W [(g1, x0, x1), (g2, y0, y1)]) :
    W.cell? ⟨g1, 0, none⟩ = some x0 ∧ W.cell? ⟨g1, 1, none⟩ = some x1 ∧ W.cell? ⟨g2, 0, none⟩ = some y0 ∧ W.cell? ⟨g2, 1, none⟩ = some y1 ∧
    W.frozen? ⟨g1, 0, none⟩ = false ∧ W.frozen? ⟨g1, 1, none⟩ = false ∧ W.frozen? ⟨g2, 0, none⟩ = false ∧ W.frozen? ⟨g2, 1, none⟩ = false :=
  ⟨h.head.cell.1, h.head.cell.2.1, h.tail.head.cell.1, h.tail.head.cell.2.1, h.head.cell.2.2.1, h.head.cell.2.2.2, h.tail.head.cell.2.2.1, h.tail.head.cell.2.2.2⟩

/-- What a region of two loads reads: the second and the fourth box of six. -/
theorem Bs.two2 {W : World} {g1 g2 g3 g4 : Nat} {x0 x1 y0 y1 z0 z1 u0 u1 : Value} {l : List (Nat × Value × Value)} (h : Bs W ((g1, x0, x1) :: (g2, y0, y1) :: (g3, z0, z1) :: (g4, u0, u1) :: l)) :
    W.cell? ⟨g2, 0, none⟩ = some y0 ∧ W.cell? ⟨g2, 1, none⟩ = some y1 ∧ W.cell? ⟨g4, 0, none⟩ = some u0 ∧ W.cell? ⟨g4, 1, none⟩ = some u1 ∧
    W.cell? ⟨g1, 0, none⟩ = some x0 ∧ W.cell? ⟨g1, 1, none⟩ = some x1 ∧ W.cell? ⟨g3, 0, none⟩ = some z0 ∧ W.cell? ⟨g3, 1, none⟩ = some z1 :=
  ⟨h.tail.head.cell.1, h.tail.head.cell.2.1, h.tail.tail.tail.head.cell.1, h.tail.tail.tail.head.cell.2.1, h.head.cell.1, h.head.cell.2.1, h.tail.tail.head.cell.1, h.tail.tail.head.cell.2.1⟩

/-- All that six boxes say. -/
theorem Bs.six {W : World} {g1 g2 g3 g4 g5 g6 : Nat} {x0 x1 y0 y1 z0 z1 u0 u1 s0 s1 t0 t1 : Value} (h : Bs W [(g1, x0, x1), (g2, y0, y1), (g3, z0, z1), (g4, u0, u1), (g5, s0, s1), (g6, t0, t1)]) :
    W.cell? ⟨g1, 0, none⟩ = some x0 ∧ W.cell? ⟨g1, 1, none⟩ = some x1 ∧ W.cell? ⟨g2, 0, none⟩ = some y0 ∧ W.cell? ⟨g2, 1, none⟩ = some y1 ∧ W.cell? ⟨g4, 0, none⟩ = some u0 ∧ W.cell? ⟨g4, 1, none⟩ = some u1 ∧
    W.cell? ⟨g5, 0, none⟩ = some s0 ∧ W.cell? ⟨g5, 1, none⟩ = some s1 ∧ W.cell? ⟨g6, 0, none⟩ = some t0 ∧ W.cell? ⟨g6, 1, none⟩ = some t1 ∧
    W.frozen? ⟨g5, 0, none⟩ = false ∧ W.frozen? ⟨g5, 1, none⟩ = false ∧ W.frozen? ⟨g6, 0, none⟩ = false ∧ W.frozen? ⟨g6, 1, none⟩ = false :=
  ⟨h.head.cell.1, h.head.cell.2.1, h.tail.head.cell.1, h.tail.head.cell.2.1, h.tail.tail.tail.head.cell.1, h.tail.tail.tail.head.cell.2.1,
   h.tail.tail.tail.tail.head.cell.1, h.tail.tail.tail.tail.head.cell.2.1, h.tail.tail.tail.tail.tail.head.cell.1, h.tail.tail.tail.tail.tail.head.cell.2.1,
   h.tail.tail.tail.tail.head.cell.2.2.1, h.tail.tail.tail.tail.head.cell.2.2.2, h.tail.tail.tail.tail.tail.head.cell.2.2.1, h.tail.tail.tail.tail.tail.head.cell.2.2.2⟩

theorem sg_le (z : Int) : -1 ≤ sg z ∧ sg z ≤ 1 := by unfold sg; split <;> (try split) <;> omega

/-- q and r are the quotient, rounded down, and the remainder. -/
def Dv (a b q r : Int) : Prop := a = b * q + r ∧ r.natAbs < b.natAbs ∧ (r = 0 ∨ (r < 0 ↔ b < 0))

/-- The same, rounded towards 0. -/
def Tv (a b q r : Int) : Prop := a = b * q + r ∧ r.natAbs < b.natAbs ∧ (r = 0 ∨ (r < 0 ↔ a < 0))

theorem tv_tdiv (a b : Int) (hb : b ≠ 0) : Tv a b (a.tdiv b) (a.tmod b) := by
  refine ⟨(Int.mul_tdiv_add_tmod a b).symm, ?_⟩
  have h1 := Int.emod_nonneg a hb
  have h2 := Int.emod_lt a hb
  have h3 := Int.tmod_eq_emod (a := a) (b := b)
  by_cases h : 0 ≤ a ∨ b ∣ a
  · rw [if_pos h] at h3
    refine ⟨by omega, ?_⟩
    rcases h with h | h
    · right; omega
    · left
      have := Int.emod_eq_zero_of_dvd h
      omega
  · rw [if_neg h] at h3
    have h4 : ¬ b ∣ a := fun h' => h (.inr h')
    have h5 : a % b ≠ 0 := fun h' => h4 (Int.dvd_of_emod_eq_zero h')
    have h6 : ¬ 0 ≤ a := fun h' => h (.inl h')
    refine ⟨by omega, .inr ?_⟩
    omega

theorem Tv.down {a b q r : Int} (h : Tv a b q r) (hs : (sg r == -sg b) = true) : Dv a b (q - 1) (r + b) := by
  obtain ⟨h1, h2, h3⟩ := h
  have hs := eq_of_beq hs
  refine ⟨by rw [h1]; grind, ?_, ?_⟩
  · unfold sg at hs
    by_cases k1 : r < 0 <;> by_cases k2 : 0 < r <;> by_cases k3 : b < 0 <;> by_cases k4 : 0 < b <;> simp [k1, k2, k3, k4] at hs <;> omega
  · unfold sg at hs
    by_cases k1 : r < 0 <;> by_cases k2 : 0 < r <;> by_cases k3 : b < 0 <;> by_cases k4 : 0 < b <;> simp [k1, k2, k3, k4] at hs <;> omega

theorem Tv.stay {a b q r : Int} (h : Tv a b q r) (hs : (sg r == -sg b) = false) : Dv a b q r := by
  obtain ⟨h1, h2, h3⟩ := h
  have hs := beq_eq_false_iff_ne.1 hs
  refine ⟨h1, h2, ?_⟩
  unfold sg at hs
  by_cases k1 : r < 0 <;> by_cases k2 : 0 < r <;> by_cases k3 : b < 0 <;> by_cases k4 : 0 < b <;> simp [k1, k2, k3, k4] at hs <;> omega

theorem Dv.unique {a b q r q' r' : Int} (h : Dv a b q r) (h' : Dv a b q' r') : q = q' ∧ r = r' := by
  obtain ⟨h1, h2, h3⟩ := h
  obtain ⟨h4, h5, h6⟩ := h'
  have e : b * (q - q') = r' - r := by grind
  have hq : q = q' := by
    rcases Int.lt_trichotomy (q - q') 0 with hq | hq | hq
    · exfalso
      have : b.natAbs * 1 ≤ b.natAbs * (q - q').natAbs := Nat.mul_le_mul_left _ (by omega)
      rw [← Int.natAbs_mul, e] at this
      omega
    · omega
    · exfalso
      have : b.natAbs * 1 ≤ b.natAbs * (q - q').natAbs := Nat.mul_le_mul_left _ (by omega)
      rw [← Int.natAbs_mul, e] at this
      omega
  subst hq
  exact ⟨rfl, by simp at e; omega⟩

theorem Dv.size {a b q r : Int} (h : Dv a b q r) : r.natAbs < b.natAbs := h.2.1
theorem Tv.size {a b q r : Int} (h : Tv a b q r) : q.natAbs ≤ a.natAbs := by
  obtain ⟨h1, h2, h3⟩ := h
  rcases Nat.eq_zero_or_pos q.natAbs with hq | hq
  · omega
  · have h4 : b.natAbs * q.natAbs = (b * q).natAbs := (Int.natAbs_mul b q).symm
    have h5 : q.natAbs + b.natAbs ≤ b.natAbs * q.natAbs + 1 := by
      obtain ⟨x, hx⟩ : ∃ x, b.natAbs = x + 1 := ⟨b.natAbs - 1, by omega⟩
      obtain ⟨y, hy⟩ : ∃ y, q.natAbs = y + 1 := ⟨q.natAbs - 1, by omega⟩
      rw [hx, hy, Nat.add_mul, Nat.mul_add]
      omega
    have h6 : b * q = a - r := by omega
    have h8 : b.natAbs * 1 ≤ b.natAbs * q.natAbs := Nat.mul_le_mul_left _ hq
    rw [h6] at h4
    generalize b.natAbs * q.natAbs = M at *
    omega

theorem ds_le (m n k : Nat) (h : m ≤ n) (hn : (ds 1000000000 n).length ≤ k) : (ds 1000000000 m).length ≤ k := Nat.le_trans (ds_length_mono _ (by omega) _ _ h) hn

end Go.Proofs.YtmdppblhbmbakaaGreatDoor
