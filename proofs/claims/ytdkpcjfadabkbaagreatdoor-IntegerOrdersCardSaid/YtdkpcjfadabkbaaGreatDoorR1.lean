/- The reference's integers: how they lie in memory, and what make0 does. -/
import Derived.Test.YtdkpcjfadabkbaaGreatDoorJ5
import Derived.Deep.LoopGhost
set_option linter.unusedVariables false
set_option linter.unusedSimpArgs false
namespace Go.Proofs.YtdkpcjfadabkbaaGreatDoor
open Go.RowKit _root_.Go.Proofs.YtdkpcjfadabkbaaGreatDoor.Nm

/-- The digits of a number, the most significant one first. -/
def dg (n : Nat) : List Nat := (ds 10 n).reverse
/-- The number of a list of digits, the most significant one first. -/
def dval (xs : List Nat) : Nat := vl 10 xs.reverse

theorem dval_nil : dval [] = 0 := rfl
theorem dval_snoc (xs : List Nat) (x : Nat) : dval (xs ++ [x]) = x + 10 * dval xs := by unfold dval; rw [List.reverse_append]; rfl
theorem dval_cons (x : Nat) (xs : List Nat) : dval (x :: xs) = dval xs + 10 ^ xs.length * x := by
  unfold dval; rw [List.reverse_cons, vl_append, List.length_reverse]; simp [vl]
theorem dval_zero (xs : List Nat) : dval (0 :: xs) = dval xs := by rw [dval_cons]; simp
theorem dval_dg (n : Nat) : dval (dg n) = n := by unfold dval dg; rw [List.reverse_reverse, vl_ds 10 (by omega)]
theorem dg_lt (n : Nat) : ∀ x ∈ dg n, x < 10 := fun x hx => ds_lt 10 (by omega) n x (List.mem_reverse.1 hx)
theorem dg_zero : dg 0 = [] := by unfold dg; rw [ds_zero]; rfl
theorem dg_dval (xs : List Nat) (hx : ∀ x ∈ xs, x < 10) (hh : xs.head? ≠ some 0) : dg (dval xs) = xs := by
  unfold dg dval
  rw [ds_vl 10 (by omega) _ (fun x h => hx x (List.mem_reverse.1 h)) (by rwa [List.getLast?_reverse]), List.reverse_reverse]
theorem dg_len (n k : Nat) (h : n < 10 ^ k) : (dg n).length ≤ k := by unfold dg; rw [List.length_reverse]; exact ds_length_le 10 (by omega) n k h

/-- A value that is the reference's integer z. -/
def Ref (W : World) (v : Value) (z : Int) : Prop := ∃ sv, v = .agg #[.bool (isNeg z), sv] ∧ Rd .i64 W sv (dg z.natAbs)

theorem Ref.keep {w w' : World} {v : Value} {z : Int} {B : Nat} (h : Ref w v z) (hb : Below B w w') (hB : w.heap.size ≤ B) : Ref w' v z := by
  obtain ⟨sv, h1, h2⟩ := h
  exact ⟨sv, h1, h2.keep hb hB⟩
theorem Ref.form {w : World} {v : Value} {z : Int} (h : Ref w v z) : ∃ a c, v = .agg #[.bool (isNeg z), .slice a (dg z.natAbs).length c] := by
  obtain ⟨sv, h1, a, c, h2, _⟩ := h
  exact ⟨a, c, by rw [h1, h2]⟩

/-- A row of integers does not lie in a box of a Bool and a slice. -/
theorem Rd.box {W : World} {v : Value} {xs : List Nat} {g : Nat} {n : Bool} {a : Option Addr} {l c : Nat} (h : Rd .i64 W v xs) (hb : Bx W g (.bool n) (.slice a l c)) (x y : Value) :
    Rd .i64 ((W.setCell ⟨g, 0, none⟩ x).setCell ⟨g, 1, none⟩ y) v xs := by
  refine h.only (b := g) (((Only.refl g W).set 0 x).set 1 y) ?_
  intro ad m k e hm he
  obtain ⟨a', c', e2, _, _, h3⟩ := h
  rw [e2] at e
  simp only [Value.slice.injEq] at e
  obtain ⟨rfl, rfl, rfl⟩ := e
  obtain ⟨g', off, e3, hg, hr⟩ := h3 (by rintro rfl; simp at hm)
  cases e3
  have hc := hr 0 hm
  rw [show g' = g from he] at hc
  obtain ⟨T, hb⟩ := hb
  simp only [World.cell?, hb] at hc
  rcases Nat.lt_or_ge (off + 0) 2 with h2 | h2
  · have h4 : off = 0 ∨ off = 1 := by omega
    rcases h4 with rfl | rfl <;> simp at hc
  · rw [Array.getElem?_eq_none (by simpa using h2)] at hc
    cases hc

theorem sz_zero (b : Bool) : sz b 0 = 0 := by unfold sz; cases b <;> simp

theorem alloc_store (w : World) (a b x y : Value) (T : TypeId) : ((w.alloc (.cells #[a, b] T)).setCell ⟨w.heap.size, 0, none⟩ x).setCell ⟨w.heap.size, 1, none⟩ y = w.alloc (.cells #[x, y] T) := by
  rw [World.setCell_alloc_at _ _ _ _ _ rfl, World.setCell_alloc_at _ _ _ _ _ rfl]
  rfl

/-- What a function of the reference leaves: an integer, and nothing that was there has changed. -/
def RefPost (z : Int) (w : World) (e : Ending) (w' : World) : Prop := ∃ v, e = .returned v ∧ Ref w' v z ∧ Below w.heap.size w w'

theorem Bx.put0 {W : World} {g : Nat} {x y : Value} (h : Bx W g x y) (x' : Value) : Bx (W.setCell ⟨g, 0, none⟩ x') g x' y := by
  have hlt := h.lt
  obtain ⟨T, h⟩ := h
  rw [Array.getElem?_eq_getElem hlt] at h
  have h := Option.some.inj h
  refine ⟨T, ?_⟩
  show (W.heap.modify g _)[g]? = _
  rw [Array.getElem?_eq_getElem (by simpa using hlt), Array.getElem_modify_self, h]
  simp

theorem Bx.put1 {W : World} {g : Nat} {x y : Value} (h : Bx W g x y) (y' : Value) : Bx (W.setCell ⟨g, 1, none⟩ y') g x y' := by
  have hlt := h.lt
  obtain ⟨T, h⟩ := h
  rw [Array.getElem?_eq_getElem hlt] at h
  have h := Option.some.inj h
  refine ⟨T, ?_⟩
  show (W.heap.modify g _)[g]? = _
  rw [Array.getElem?_eq_getElem (by simpa using hlt), Array.getElem_modify_self, h]
  simp

theorem Bx.put {W : World} {g : Nat} {x y : Value} (h : Bx W g x y) (x' y' : Value) : Bx ((W.setCell ⟨g, 0, none⟩ x').setCell ⟨g, 1, none⟩ y') g x' y' := (h.put0 x').put1 y'

/-- An integer that is stored in a box. -/
theorem RefPost.boxed {w w2 : World} {g : Nat} {n n0 : Bool} {a a0 : Option Addr} {l l0 c c0 : Nat} {z : Int} (h : Ref w2 (.agg #[.bool n, .slice a l c]) z) (hx : Bx w2 g (.bool n0) (.slice a0 l0 c0)) (hb : Below w.heap.size w w2) (hg : w.heap.size ≤ g) :
    RefPost z w (.returned (.agg #[.bool n, .slice a l c])) ((w2.setCell ⟨g, 0, none⟩ (.bool n)).setCell ⟨g, 1, none⟩ (.slice a l c)) := by
  obtain ⟨sv, h1, h2⟩ := h
  simp only [Value.agg.injEq, Array.mk.injEq, List.cons.injEq, and_true] at h1
  obtain ⟨e1, rfl⟩ := h1
  refine ⟨_, rfl, ⟨_, by rw [e1], h2.box hx _ _⟩, hb.trans ((((Only.refl g w2).set 0 _).set 1 _).below hg)⟩

theorem Rd.tail {W : World} {g off c x : Nat} {r : List Nat} (hc : r.length + 1 ≤ c) (hcap : Cap (r.length + 1) c) (hg : g < W.heap.size) (hr : Row .i64 W g off (x :: r)) :
    Rd .i64 W (.slice (if c = 1 then some ⟨g, off, none⟩ else some ⟨g, off + 1, none⟩) r.length (c - 1)) r := by
  have hcap2 : Cap r.length (c - 1) := by obtain ⟨h1, h2⟩ := hcap; exact ⟨by omega, by omega⟩
  by_cases h1 : c = 1
  · have : r = [] := List.length_eq_zero_iff.1 (by omega)
    subst this
    exact Rd.nil _ _ _ _ hcap2
  · rw [if_neg h1]
    refine Rd.mk (by omega) hcap2 hg (fun i hi => ?_)
    have := hr (i + 1) (by simp; omega)
    rw [show off + 1 + i = off + (i + 1) from by omega]
    simpa using this

set_option maxRecDepth 100000 in
set_option maxHeartbeats 1600000 in
theorem make0_any (neg : Bool) (v : Value) (xs : List Nat) (w : World) (hr : Rd .i64 w v xs) (hx : ∀ x ∈ xs, x < 10) :
    Calls Tryz.prog 32 #[.bool neg, v] w (RefPost (sz neg (dval xs)) w) := by
  have hb1 := (Below.refl w.heap.size w).alloc (Nat.le_refl _) (.cells #[.bool false, .slice none 0 0] 30)
  have HB1 := Lib.hid hb1
  have HR1 := Lib.hid (hr.keep hb1 (Nat.le_refl _))
  have HX := Lib.hid hx
  have HBX := Lib.hid (Bx.new w (.bool false) (.slice none 0 0) 30)
  clear hb1 hr hx
  go_enter Tryz.func32, Tryz.ntmps32
  go_wp2
  go_loopg [1] xs.length (fun k s1 wr => ∃ ys, Hid (Rd .i64 wr s1 ys) ∧ Hid (∀ y ∈ ys, y < 10) ∧ Hid (True ∧ dval ys = dval xs ∧ k = ys.length) ∧ wr = w.alloc (.cells #[.bool false, .slice none 0 0] 30))
  case atStart => exact ⟨xs, HR1, HX, Lib.hid ⟨trivial, rfl, rfl⟩, rfl⟩
  case round =>
    obtain ⟨ys, HR, HY, HK, rfl⟩ := hrel
    rcases HR.out.cases with ⟨rfl, a, c, rfl, hc⟩ | ⟨h0, g, off, c, rfl, hyc, hc, hg, hrow⟩
    · obtain ⟨f0, f1, f2, f3⟩ := HBX.out.cell
      have HZ : Hid (True ∧ sz neg (dval xs) = 0) := Lib.hid ⟨trivial, by rw [← HK.out.2.1, dval_nil, sz_zero]⟩
      clear hc
      go_wp2
      refine bodyPost_ret (v := .agg #[.bool false, .slice none 0 0]) (by simp [results, Tryz.results32, go_sem, f0, f1]) rfl ?_
      exact ⟨_, rfl, ⟨.slice none 0 0, by rw [HZ.out.2]; rfl, by rw [HZ.out.2, show (0 : Int).natAbs = 0 from rfl, dg_zero]; exact Rd.nil _ _ none 0 ⟨by omega, by unfold maxLen; omega⟩⟩, HB1.out⟩
    · match ys, h0, HY, HK, HR, hyc, hc, hrow with
      | y :: r, h0, HY, HK, HR, hyc, hc, hrow =>
        have hy10 := HY.out y List.mem_cons_self
        have c0 := hrow 0 h0
        rw [List.getElem_cons_zero, Nat.add_zero] at c0
        by_cases hy : y = 0
        · subst hy
          have HT := Lib.hid (Rd.tail (by simpa using hyc) (by simpa using hc) hg hrow)
          have HY2 : Hid (∀ y ∈ r, y < 10) := Lib.hid (fun x hx => HY.out x (List.mem_cons_of_mem _ hx))
          have HK2 : Hid (True ∧ dval r = dval xs ∧ gk = r.length + 1) := Lib.hid ⟨trivial, by rw [← HK.out.2.1, dval_zero], by rw [HK.out.2.2]; rfl⟩
          obtain ⟨l, hl⟩ : ∃ l, r.length = l := ⟨_, rfl⟩
          have hcl : l + 1 ≤ c := by rw [← hl]; simpa using hyc
          have hcm : c ≤ maxLen := hc.2
          rw [List.length_cons, hl]
          rw [hl] at HT HK2
          have HL := Lib.hid (And.intro trivial hl)
          clear hl hyc hc hrow HK HY HR h0
          by_cases hc1 : c = 1
          · rw [if_pos hc1] at HT
            subst hc1
            obtain rfl : l = 0 := by omega
            clear hcl
            go_wp2
            go_roundg 0
            case measure => have := HK2.out.2.2; omega
            case rel => exact ⟨r, HT, HY2, Lib.hid ⟨trivial, HK2.out.2.1, HL.out.2.symm⟩, rfl⟩
          · rw [if_neg hc1] at HT
            go_wp2
            go_roundg l
            case measure => have := HK2.out.2.2; omega
            case rel => exact ⟨r, HT, HY2, Lib.hid ⟨trivial, HK2.out.2.1, HL.out.2.symm⟩, rfl⟩
        · have hyb : ((y : Int) == 0) = false := by rw [beq_eq_false_iff_ne]; omega
          have HD : Hid (True ∧ dg (dval xs) = y :: r) := Lib.hid ⟨trivial, by rw [← HK.out.2.1]; exact dg_dval _ HY.out (by simpa using hy)⟩
          have hn0 : 0 < dval xs := by
            rcases Nat.eq_zero_or_pos (dval xs) with h | h
            · have h2 := HD.out.2
              rw [h, dg_zero] at h2
              cases h2
            · exact h
          have HN0 := Lib.hid (And.intro trivial hn0)
          obtain ⟨f0, f1, f2, f3⟩ := HBX.out.cell
          obtain ⟨l, hl⟩ : ∃ l, r.length = l := ⟨_, rfl⟩
          have hz : ((l : Int) + 1 == 0) = false := by rw [beq_eq_false_iff_ne]; omega
          rw [List.length_cons, hl] at HR ⊢
          have HR2 := Lib.hid (HR.out.box HBX.out (.bool neg) (.slice (some ⟨g, off, none⟩) (l + 1) c))
          rw [alloc_store] at HR2
          have HB2 := Lib.hid ((Below.refl w.heap.size w).alloc (Nat.le_refl _) (.cells #[.bool neg, .slice (some ⟨g, off, none⟩) (l + 1) c] 30))
          have HBX2 := Lib.hid (Bx.new w (.bool neg) (.slice (some ⟨g, off, none⟩) (l + 1) c) 30)
          clear hyc hc hrow hn0 hl HK HY HR HR1 HB1
          go_wp2
          obtain ⟨e0, e1, _, _⟩ := HBX2.out.cell
          refine bodyPost_ret (v := .agg #[.bool neg, .slice (some ⟨g, off, none⟩) (l + 1) c]) (by simp [results, Tryz.results32, go_sem, e0, e1]) rfl ?_
          exact ⟨_, rfl, ⟨_, by rw [sz_neg _ _ HN0.out.2], by rw [sz_abs, HD.out.2]; exact HR2.out⟩, HB2.out⟩

end Go.Proofs.YtdkpcjfadabkbaaGreatDoor
