/- The reference's rational numbers: how they lie in memory; what one, zero and abs do. -/
import Derived.Test.YtpnofebhpeiepaaGreatDoorQ12
import Derived.Test.YtpnofebhpeiepaaGreatDoorR22
import Derived.Test.YtpnofebhpeiepaaGreatDoorRT
import Derived.Test.YtpnofebhpeiepaaGreatDoorR14
set_option linter.unusedVariables false
set_option linter.unusedSimpArgs false
namespace Go.Proofs.YtpnofebhpeiepaaGreatDoor
open Go.RowKit _root_.Go.Proofs.YtpnofebhpeiepaaGreatDoor.Nm

/-- A value that is the reference's rational number q. -/
def RRef (W : World) (v : Value) (q : Rat) : Prop := ∃ n1 a1 l1 c1 n2 a2 l2 c2, v = .agg #[.bool n1, .slice a1 l1 c1, .bool n2, .slice a2 l2 c2] ∧ Ref W (.agg #[.bool n1, .slice a1 l1 c1]) q.num ∧ Ref W (.agg #[.bool n2, .slice a2 l2 c2]) (q.den : Int)

theorem RRef.keep {w w' : World} {v : Value} {q : Rat} {B : Nat} (h : RRef w v q) (hb : Below B w w') (hB : w.heap.size ≤ B) : RRef w' v q := by
  obtain ⟨n1, a1, l1, c1, n2, a2, l2, c2, h1, h2, h3⟩ := h
  exact ⟨n1, a1, l1, c1, n2, a2, l2, c2, h1, h2.keep hb hB, h3.keep hb hB⟩

/-- A row of integers does not lie in a box of two Bools and two slices. -/
theorem Rd.box4 {W : World} {v : Value} {xs : List Nat} {g : Nat} {n n' : Bool} {a a' : Option Addr} {l c l' c' : Nat} (h : Rd .i64 W v xs) (hb : B4 W g (.bool n) (.slice a l c) (.bool n') (.slice a' l' c')) (x y z u : Value) :
    Rd .i64 (set4 W g x y z u) v xs := by
  refine h.only (b := g) (set4_only W g x y z u) ?_
  intro ad m k e hm he
  obtain ⟨a', c', e2, _, _, h3⟩ := h
  rw [e2] at e
  simp only [Value.slice.injEq] at e
  obtain ⟨rfl, rfl, rfl⟩ := e
  obtain ⟨g', off, e3, hg, hr⟩ := h3 (by rintro rfl; simp at hm)
  cases e3
  have hc := hr 0 hm
  rw [show g' = g from he] at hc
  obtain ⟨T, hb⟩ := hb
  simp only [World.cell?, hb] at hc
  rcases Nat.lt_or_ge (off + 0) 4 with h2 | h2
  · have h4 : off = 0 ∨ off = 1 ∨ off = 2 ∨ off = 3 := by omega
    rcases h4 with rfl | rfl | rfl | rfl <;> simp at hc
  · rw [Array.getElem?_eq_none (by simpa using h2)] at hc
    cases hc

theorem Ref.box4 {W : World} {v : Value} {z : Int} {g : Nat} {n n' : Bool} {a a' : Option Addr} {l c l' c' : Nat} (h : Ref W v z) (hb : B4 W g (.bool n) (.slice a l c) (.bool n') (.slice a' l' c')) (x y p u : Value) : Ref (set4 W g x y p u) v z := by
  obtain ⟨sv, h1, h2⟩ := h
  exact ⟨sv, h1, h2.box4 hb _ _ _ _⟩
theorem RRef.box4 {W : World} {v : Value} {q : Rat} {g : Nat} {n n' : Bool} {a a' : Option Addr} {l c l' c' : Nat} (h : RRef W v q) (hb : B4 W g (.bool n) (.slice a l c) (.bool n') (.slice a' l' c')) (x y p u : Value) : RRef (set4 W g x y p u) v q := by
  obtain ⟨n1, a1, l1, c1, n2, a2, l2, c2, h1, h2, h3⟩ := h
  exact ⟨n1, a1, l1, c1, n2, a2, l2, c2, h1, h2.box4 hb _ _ _ _, h3.box4 hb _ _ _ _⟩
theorem Ref.box2 {W : World} {v : Value} {z : Int} {g : Nat} {n : Bool} {a : Option Addr} {l c : Nat} (h : Ref W v z) (hb : Bx W g (.bool n) (.slice a l c)) (x y : Value) : Ref ((W.setCell ⟨g, 0, none⟩ x).setCell ⟨g, 1, none⟩ y) v z := by
  obtain ⟨sv, h1, h2⟩ := h
  exact ⟨sv, h1, h2.box hb _ _⟩
theorem RRef.box2 {W : World} {v : Value} {q : Rat} {g : Nat} {n : Bool} {a : Option Addr} {l c : Nat} (h : RRef W v q) (hb : Bx W g (.bool n) (.slice a l c)) (x y : Value) : RRef ((W.setCell ⟨g, 0, none⟩ x).setCell ⟨g, 1, none⟩ y) v q := by
  obtain ⟨n1, a1, l1, c1, n2, a2, l2, c2, h1, h2, h3⟩ := h
  exact ⟨n1, a1, l1, c1, n2, a2, l2, c2, h1, h2.box2 hb _ _, h3.box2 hb _ _⟩

/-- What a function of the reference leaves: a rational number, and nothing that was there has changed. -/
def RRPost (q : Rat) (w : World) (e : Ending) (w' : World) : Prop := ∃ v, e = .returned v ∧ RRef w' v q ∧ Below w.heap.size w w'

theorem RRPost.boxed {w w2 : World} {g : Nat} {v : Value} {n n' : Bool} {a a' : Option Addr} {l l' c c' : Nat} {q : Rat} (h : RRef w2 v q) (hx : B4 w2 g (.bool n) (.slice a l c) (.bool n') (.slice a' l' c')) (hb : Below w.heap.size w w2) (hg : w.heap.size ≤ g) (x y z u : Value) :
    RRPost q w (.returned v) (set4 w2 g x y z u) := ⟨v, rfl, h.box4 hx _ _ _ _, hb.trans ((set4_only w2 g x y z u).below hg)⟩

/-- The form of an integer's value, its sign known. -/
theorem Ref.lit {W : World} {v : Value} {z : Int} {b : Bool} (h : Ref W v z) (hb : isNeg z = b) : ∃ a l c, v = .agg #[.bool b, .slice a l c] := by
  obtain ⟨a, c, e⟩ := h.form
  exact ⟨a, _, c, by rw [e, hb]⟩
theorem Ref.any {W : World} {v : Value} {z : Int} (h : Ref W v z) : ∃ b a l c, v = .agg #[.bool b, .slice a l c] := by
  obtain ⟨a, c, e⟩ := h.form
  exact ⟨_, a, _, c, e⟩
theorem Ref.neg_is {W : World} {z : Int} {b : Bool} {s : Value} (h : Ref W (.agg #[.bool b, s]) z) : b = isNeg z := by
  obtain ⟨a, c, e⟩ := h.form
  simp only [Value.agg.injEq, Array.mk.injEq, List.cons.injEq, and_true, Value.bool.injEq] at e
  exact e.1

theorem digs_ten {K : Nat} {z : Int} (h : Ten K z) (m : Nat) (hK : K ≤ m) : (dg z.natAbs).length ≤ m := by
  obtain ⟨k, h1, h2⟩ := h
  exact Nat.le_trans (dg_len _ k h2) (by omega)

theorem dg_one : dg (1 : Int).natAbs = [1] := by decide +kernel

set_option maxRecDepth 100000 in
set_option maxHeartbeats 1600000 in
theorem rone_any (w : World) : Calls Tryz.prog 51 #[] w (RefPost 1 w) := by
  have hO : Ow ((w.alloc (.cells #[.bool false, .slice (some ⟨w.heap.size + 1, 0, none⟩) 1 1] 28)).alloc (.cells #[.int .i64 1] 3)) (w.heap.size + 1) (.slice (some ⟨w.heap.size + 1, 0, none⟩) 1 1) [1] := by
    have h := Ow.one (w.alloc (.cells #[.bool false, .slice (some ⟨w.heap.size + 1, 0, none⟩) 1 1] 28)) (w.heap.size + 1) (by simp) 1
    rw [World.size_alloc] at h
    exact h
  have HV : Hid (Ref ((w.alloc (.cells #[.bool false, .slice (some ⟨w.heap.size + 1, 0, none⟩) 1 1] 28)).alloc (.cells #[.int .i64 1] 3)) (.agg #[.bool false, .slice (some ⟨w.heap.size + 1, 0, none⟩) 1 1]) 1) := Lib.hid ⟨_, rfl, by rw [dg_one]; exact hO.rd (by simp)⟩
  clear hO
  go_enter Tryz.func51, Tryz.ntmps51
  go_wp2
  refine bodyPost_ret (v := .agg #[.bool false, .slice (some ⟨w.heap.size + 1, 0, none⟩) 1 1]) (by simp [results, Tryz.results51, go_sem]) rfl ?_
  exact ⟨_, rfl, HV.out, boxes2 _ _ _⟩

set_option maxRecDepth 100000 in
set_option maxHeartbeats 1600000 in
theorem rzero_any (v : Value) (z : Int) (b : Bool) (w : World) (h : Ref w v z) (hb : Hid (True ∧ decide (z = 0) = b)) :
    Calls Tryz.prog 46 #[v] w fun e w' => e = .returned (.bool b) ∧ Below w.heap.size w w' := by
  obtain ⟨a, c, rfl⟩ := h.form
  have hl : (((dg z.natAbs).length : Int) == 0) = b := by
    rw [← hb.out.2]
    by_cases hz : z = 0
    · subst hz
      rw [show (0 : Int).natAbs = 0 from rfl, dg_zero]; rfl
    · rw [decide_eq_false hz, beq_eq_false_iff_ne]
      intro e
      have h1 : dg z.natAbs = [] := List.eq_nil_of_length_eq_zero (by omega)
      have h2 := dval_dg z.natAbs
      rw [h1, dval_nil] at h2
      omega
  generalize isNeg z = n at *
  generalize (dg z.natAbs).length = l at *
  clear h
  go_enter Tryz.func46, Tryz.ntmps46
  go_wp2
  go_ret
  exact ⟨by rw [← hl]; rfl, (Below.refl _ _).alloc (Nat.le_refl _) _⟩

set_option maxRecDepth 100000 in
set_option maxHeartbeats 1600000 in
theorem rabs_any (v : Value) (z y : Int) (w : World) (h : Ref w v z) (hy : Hid (True ∧ ((z.natAbs : Nat) : Int) = y)) :
    Calls Tryz.prog 54 #[v] w (RefPost y w) := by
  obtain ⟨a, c, rfl⟩ := h.form
  obtain ⟨sv, hv, hr⟩ := id h
  simp only [Value.agg.injEq, Array.mk.injEq, List.cons.injEq, and_true] at hv
  obtain ⟨_, rfl⟩ := hv
  have hA := boxes2 w (.cells #[.bool (isNeg z), .slice a (dg z.natAbs).length c] 28) (.cells #[.bool false, .slice a (dg z.natAbs).length c] 28)
  have hR := hr.keep hA (Nat.le_refl _)
  have HV : Hid (Ref ((w.alloc (.cells #[.bool (isNeg z), .slice a (dg z.natAbs).length c] 28)).alloc (.cells #[.bool false, .slice a (dg z.natAbs).length c] 28)) (.agg #[.bool false, .slice a (dg z.natAbs).length c]) y) := Lib.hid ⟨.slice a (dg z.natAbs).length c, by rw [← hy.out.2]; unfold isNeg; simp, by rw [← hy.out.2, Int.natAbs_natCast]; exact hR⟩
  have HW := Lib.hid hA
  clear hA hR hr h
  generalize isNeg z = n at *
  generalize (dg z.natAbs).length = l at *
  go_enter Tryz.func54, Tryz.ntmps54
  go_wp2
  refine bodyPost_ret (v := .agg #[.bool false, .slice a l c]) (by simp [results, Tryz.results54, go_sem]) rfl ?_
  exact ⟨_, rfl, HV.out, HW.out⟩

end Go.Proofs.YtpnofebhpeiepaaGreatDoor
