/- What the reference's New does. -/
import Derived.Test.YtpnofebhpeiepaaGreatDoorT1
import Derived.Deep.DeepCutAuto
import Derived.Deep.RegionWith
set_option linter.unusedVariables false
set_option linter.unusedSimpArgs false
namespace Go.Proofs.YtpnofebhpeiepaaGreatDoor
open Go.RowKit _root_.Go.Proofs.YtpnofebhpeiepaaGreatDoor.Nm

/-- The memory of New: its two parameters and its result. -/
structure Nw (w W : World) (n1 : Bool) (a1 : Option Addr) (l1 c1 : Nat) (n2 : Bool) (a2 : Option Addr) (l2 c2 : Nat) (x y : Int) : Prop where
  below : Below w.heap.size w W
  far : w.heap.size + 3 ≤ W.heap.size
  box1 : Bx W w.heap.size (.bool n1) (.slice a1 l1 c1)
  box2 : Bx W (w.heap.size + 1) (.bool n2) (.slice a2 l2 c2)
  box3 : B4 W (w.heap.size + 1 + 1) (.bool false) (.slice none 0 0) (.bool false) (.slice none 0 0)
  r1 : Ref W (.agg #[.bool n1, .slice a1 l1 c1]) x
  r2 : Ref W (.agg #[.bool n2, .slice a2 l2 c2]) y

theorem Nw.keep {w W W' : World} {n1 n2 : Bool} {a1 a2 : Option Addr} {l1 c1 l2 c2 B : Nat} {x y : Int} (h : Nw w W n1 a1 l1 c1 n2 a2 l2 c2 x y) (hb : Below B W W') (hB : W.heap.size ≤ B) : Nw w W' n1 a1 l1 c1 n2 a2 l2 c2 x y :=
  ⟨h.below.trans (hb.mono (Nat.le_trans h.below.size hB)), Nat.le_trans h.far hb.size, h.box1.below hb (Nat.lt_of_lt_of_le h.box1.lt hB), h.box2.below hb (Nat.lt_of_lt_of_le h.box2.lt hB), h.box3.below hb (Nat.lt_of_lt_of_le h.box3.lt hB), h.r1.keep hb hB, h.r2.keep hb hB⟩
theorem Nw.drew {w W : World} {n1 n2 : Bool} {a1 a2 : Option Addr} {l1 c1 l2 c2 : Nat} {x y : Int} (h : Nw w W n1 a1 l1 c1 n2 a2 l2 c2 x y) : Nw w W.drew n1 a1 l1 c1 n2 a2 l2 c2 x y := h.keep (Below.refl _ _).drew (Nat.le_refl _)
theorem Nw.cells {w W : World} {n1 n2 : Bool} {a1 a2 : Option Addr} {l1 c1 l2 c2 : Nat} {x y : Int} (h : Nw w W n1 a1 l1 c1 n2 a2 l2 c2 x y) :
    W.cell? ⟨w.heap.size, 0, none⟩ = some (.bool n1) ∧ W.cell? ⟨w.heap.size, 1, none⟩ = some (.slice a1 l1 c1) ∧ W.cell? ⟨w.heap.size + 1, 0, none⟩ = some (.bool n2) ∧ W.cell? ⟨w.heap.size + 1, 1, none⟩ = some (.slice a2 l2 c2) :=
  ⟨h.box1.cell.1, h.box1.cell.2.1, h.box2.cell.1, h.box2.cell.2.1⟩
theorem Nw.free {w W : World} {n1 n2 : Bool} {a1 a2 : Option Addr} {l1 c1 l2 c2 : Nat} {x y : Int} (h : Nw w W n1 a1 l1 c1 n2 a2 l2 c2 x y) :
    W.frozen? ⟨w.heap.size, 0, none⟩ = false ∧ W.frozen? ⟨w.heap.size, 1, none⟩ = false ∧ W.frozen? ⟨w.heap.size + 1, 0, none⟩ = false ∧ W.frozen? ⟨w.heap.size + 1, 1, none⟩ = false :=
  ⟨h.box1.cell.2.2.1, h.box1.cell.2.2.2, h.box2.cell.2.2.1, h.box2.cell.2.2.2⟩
theorem Nw.set1 {w W : World} {n1 n2 m : Bool} {a1 a2 b : Option Addr} {l1 c1 l2 c2 k d : Nat} {x y x' : Int} (h : Nw w W n1 a1 l1 c1 n2 a2 l2 c2 x y) (hr : Ref W (.agg #[.bool m, .slice b k d]) x') :
    Nw w ((W.setCell ⟨w.heap.size, 0, none⟩ (.bool m)).setCell ⟨w.heap.size, 1, none⟩ (.slice b k d)) m b k d n2 a2 l2 c2 x' y := by
  have o := ((Only.refl w.heap.size W).set 0 (.bool m)).set 1 (.slice b k d)
  exact ⟨h.below.trans (o.below (Nat.le_refl _)), by rw [o.size]; exact h.far, h.box1.put _ _, h.box2.only o (by omega), h.box3.only o (by omega), hr.box2 h.box1 _ _, h.r2.box2 h.box1 _ _⟩
theorem Nw.set2 {w W : World} {n1 n2 m : Bool} {a1 a2 b : Option Addr} {l1 c1 l2 c2 k d : Nat} {x y y' : Int} (h : Nw w W n1 a1 l1 c1 n2 a2 l2 c2 x y) (hr : Ref W (.agg #[.bool m, .slice b k d]) y') :
    Nw w ((W.setCell ⟨w.heap.size + 1, 0, none⟩ (.bool m)).setCell ⟨w.heap.size + 1, 1, none⟩ (.slice b k d)) n1 a1 l1 c1 m b k d x y' := by
  have o := ((Only.refl (w.heap.size + 1) W).set 0 (.bool m)).set 1 (.slice b k d)
  exact ⟨h.below.trans (o.below (by omega)), by rw [o.size]; exact h.far, h.box1.only o (by omega), h.box2.put _ _, h.box3.only o (by omega), h.r1.box2 h.box2 _ _, hr.box2 h.box2 _ _⟩
theorem Nw.both {w W : World} {n1 n2 m1 m2 : Bool} {a1 a2 b1 b2 : Option Addr} {l1 c1 l2 c2 k1 d1 k2 d2 : Nat} {x y x' y' : Int} (h : Nw w W n1 a1 l1 c1 n2 a2 l2 c2 x y) (hr1 : Ref W (.agg #[.bool m1, .slice b1 k1 d1]) x') (hr2 : Ref W (.agg #[.bool m2, .slice b2 k2 d2]) y') :
    Nw w ((((W.setCell ⟨w.heap.size, 0, none⟩ (.bool m1)).setCell ⟨w.heap.size, 1, none⟩ (.slice b1 k1 d1)).setCell ⟨w.heap.size + 1, 0, none⟩ (.bool m2)).setCell ⟨w.heap.size + 1, 1, none⟩ (.slice b2 k2 d2)) m1 b1 k1 d1 m2 b2 k2 d2 x' y' :=
  (h.set1 hr1).set2 (hr2.box2 h.box1 _ _)
theorem Nw.both' {w W : World} {n1 n2 m1 m2 : Bool} {a1 a2 b1 b2 : Option Addr} {l1 c1 l2 c2 k1 d1 k2 d2 : Nat} {x y x' y' : Int} (h : Nw w W n1 a1 l1 c1 n2 a2 l2 c2 x y) (hr1 : Ref W (.agg #[.bool m1, .slice b1 k1 d1]) x') (hr2 : Ref W (.agg #[.bool m2, .slice b2 k2 d2]) y') :
    Nw w ((((W.setCell ⟨w.heap.size + 1, 0, none⟩ (.bool m2)).setCell ⟨w.heap.size + 1, 1, none⟩ (.slice b2 k2 d2)).setCell ⟨w.heap.size, 0, none⟩ (.bool m1)).setCell ⟨w.heap.size, 1, none⟩ (.slice b1 k1 d1)) m1 b1 k1 d1 m2 b2 k2 d2 x' y' :=
  (h.set2 hr2).set1 (hr1.box2 h.box2 _ _)

theorem Nw.start (w : World) (n1 n2 : Bool) (a1 a2 : Option Addr) (l1 c1 l2 c2 : Nat) (x y : Int) (T1 T2 T3 : TypeId) (h1 : Ref w (.agg #[.bool n1, .slice a1 l1 c1]) x) (h2 : Ref w (.agg #[.bool n2, .slice a2 l2 c2]) y) :
    Nw w (((w.alloc (.cells #[.bool n1, .slice a1 l1 c1] T1)).alloc (.cells #[.bool n2, .slice a2 l2 c2] T2)).alloc (.cells #[.bool false, .slice none 0 0, .bool false, .slice none 0 0] T3)) n1 a1 l1 c1 n2 a2 l2 c2 x y := by
  have hb := boxes3 w (.cells #[.bool n1, .slice a1 l1 c1] T1) (.cells #[.bool n2, .slice a2 l2 c2] T2) (.cells #[.bool false, .slice none 0 0, .bool false, .slice none 0 0] T3)
  have h3 := B4.new ((w.alloc (.cells #[.bool n1, .slice a1 l1 c1] T1)).alloc (.cells #[.bool n2, .slice a2 l2 c2] T2)) (.bool false) (.slice none 0 0) (.bool false) (.slice none 0 0) T3
  rw [World.size_alloc, World.size_alloc] at h3
  exact ⟨hb, by simp, ((Bx.new w _ _ T1).alloc _).alloc _, (second_box w _ _ _ T2 ()).alloc _, h3, h1.keep hb (Nat.le_refl _), h2.keep hb (Nat.le_refl _)⟩

theorem Ref.sgn {W : World} {z : Int} {b : Bool} {s : Value} (h : Ref W (.agg #[.bool b, s]) z) : b = decide (z < 0) := h.neg_is
theorem Ref.lits {W : World} {v : Value} {z : Int} (h : Ref W v z) : ∃ a l c, v = .agg #[.bool (decide (z < 0)), .slice a l c] := by
  obtain ⟨a, c, e⟩ := h.form
  exact ⟨a, _, c, e⟩

set_option maxRecDepth 100000 in
set_option maxHeartbeats 6400000 in
theorem rNew_zero (v1 v2 : Value) (n d : Int) (q : Rat) (w : World) (h1 : Ref w v1 n) (h2 : Ref w v2 d) (hn : n = 0) (hq : Hid (Rat.divInt n d = q)) :
    Calls Tryz.prog 19 #[v1, v2] w (RRPost q w) := by
  obtain ⟨n1, a1, l1, c1, rfl⟩ := h1.any
  obtain ⟨n2, a2, l2, c2, rfl⟩ := h2.any
  have HM := Lib.hid (Nw.start w n1 n2 a1 a2 l1 c1 l2 c2 n d 28 28 30 h1 h2)
  have HZ : Hid (True ∧ decide (n = 0) = true) := Lib.hid ⟨trivial, decide_eq_true hn⟩
  have HQ : Hid (n = q.num ∧ (1 : Int) = q.den) := Lib.hid (by rw [← hq.out, hn, Rat.zero_divInt]; exact ⟨rfl, rfl⟩)
  clear h1 h2 hn
  obtain ⟨k0, k1, k2, k3⟩ := HM.out.cells
  go_enter Tryz.func19, Tryz.ntmps19
  go_wp2_with fail
  refine (rzero_any _ n true _ HM.out.r1 HZ).mono ?_
  rintro e w1 ⟨rfl, hb1⟩
  have HM1 := Lib.hid (HM.out.keep hb1 (Nat.le_refl _)).drew
  clear HM hb1 k0 k1 k2 k3
  obtain ⟨k0, k1, k2, k3⟩ := HM1.out.cells
  go_wp2_with fail
  go_region_held3 (fun w' => w'.cell? ⟨w.heap.size, 0, none⟩ = some (.bool n1) ∧ w'.cell? ⟨w.heap.size, 1, none⟩ = some (.slice a1 l1 c1)) (first | ((try dsimp only); (repeat' apply And.intro); all_goals with_reducible assumption) | go_keep) ((go_at_call 51; refine (rone_any _).mono ?_; rintro e w2 ⟨v2, rfl, hv2, hb2⟩; have hM2 := HM1.out.keep hb2 (Nat.le_refl _); obtain ⟨n3, a3, l3, c3, rfl⟩ := hv2.any; clear k0 k1 k2 k3; obtain ⟨j0, j1, j2, j3⟩ := hM2.cells; obtain ⟨e0, e1, e2, e3⟩ := hM2.box3.cell; obtain ⟨f0, f1, f2, f3⟩ := hM2.box3.froz; have t0 := ((set4_only w2 (w.heap.size + 1 + 1) (.bool n1) (.slice a1 l1 c1) (.bool n3) (.slice a3 l3 c3)).cell w.heap.size 0 (by omega)).trans j0; have t1 := ((set4_only w2 (w.heap.size + 1 + 1) (.bool n1) (.slice a1 l1 c1) (.bool n3) (.slice a3 l3 c3)).cell w.heap.size 1 (by omega)).trans j1))
  have hr1 := hM2.r1
  rw [HQ.out.1] at hr1
  rw [HQ.out.2] at hv2
  have HR : Hid (RRef w2 (.agg #[.bool n1, .slice a1 l1 c1, .bool n3, .slice a3 l3 c3]) q) := Lib.hid ⟨_, _, _, _, _, _, _, _, rfl, hr1, hv2⟩
  have HM2 := Lib.hid hM2
  clear hM2 hr1 hv2 hb2 j0 j1 j2 j3 e0 e1 e2 e3 f0 f1 f2 f3 t0 t1 HM1
  go_wp2
  obtain ⟨l0, l1', l2', l3'⟩ := (HM2.out.box3.put (.bool n1) (.slice a1 l1 c1) (.bool n3) (.slice a3 l3 c3)).cell
  refine bodyPost_ret (v := .agg #[.bool n1, .slice a1 l1 c1, .bool n3, .slice a3 l3 c3]) (by simp only [results, Tryz.results19]; simp [go_sem, l0, l1', l2', l3']) rfl ?_
  exact RRPost.boxed HR.out HM2.out.box3 HM2.out.below (by omega) _ _ _ _

theorem dg_mono (m n : Nat) (h : m ≤ n) : (dg m).length ≤ (dg n).length := by
  have h1 := lt_pow_length 10 (by omega) n
  have h2 := dg_len m (ds 10 n).length (Nat.lt_of_le_of_lt h h1)
  unfold dg at *
  simp only [List.length_reverse] at *
  exact h2

theorem cell_alloc {W : World} {b o : Nat} {v : Value} {x : Obj} (h : W.cell? ⟨b, o, none⟩ = some v) : (W.alloc x).cell? ⟨b, o, none⟩ = some v := by
  refine Eq.trans (((Below.refl W.heap.size W).alloc (Nat.le_refl _) x).cell (p := ⟨b, o, none⟩) ?_) h
  rcases Nat.lt_or_ge b W.heap.size with h' | h'
  · exact h'
  · simp [World.cell?, Array.getElem?_eq_none h'] at h
theorem cell_off {W : World} {b o g : Nat} {v x y : Value} (h : W.cell? ⟨b, o, none⟩ = some v) (hb : b ≠ g) : ((W.setCell ⟨g, 0, none⟩ x).setCell ⟨g, 1, none⟩ y).cell? ⟨b, o, none⟩ = some v := (cell_set2 W g x y b o hb).trans h
theorem Bx.putZ {W : World} {g : Nat} {x y : Value} (h : Bx W g (.bool false) (.slice none 0 0)) : Bx ((W.setCell ⟨g, 0, none⟩ x).setCell ⟨g, 1, none⟩ y) g x y := h.put _ _
theorem Bx.offZ {W : World} {g b : Nat} {x y p q : Value} (h : Bx W g p q) (hg : g ≠ b) : Bx ((W.setCell ⟨b, 0, none⟩ x).setCell ⟨b, 1, none⟩ y) g p q := h.only (((Only.refl b W).set 0 x).set 1 y) hg
theorem Ref.away {W : World} {v x y : Value} {z : Int} {g : Nat} (h : Ref W v z) (hb : Bx W g (.bool false) (.slice none 0 0)) : Ref ((W.setCell ⟨g, 0, none⟩ x).setCell ⟨g, 1, none⟩ y) v z := h.box2 hb _ _
theorem Ref.up {W : World} {v : Value} {z : Int} {o : Obj} (h : Ref W v z) : Ref (W.alloc o) v z := h.keep ((Below.refl _ _).alloc (Nat.le_refl _) o) (Nat.le_refl _)
theorem Nw.up {w W : World} {n1 n2 : Bool} {a1 a2 : Option Addr} {l1 c1 l2 c2 : Nat} {x y : Int} {o : Obj} (h : Nw w W n1 a1 l1 c1 n2 a2 l2 c2 x y) : Nw w (W.alloc o) n1 a1 l1 c1 n2 a2 l2 c2 x y := h.keep ((Below.refl _ _).alloc (Nat.le_refl _) o) (Nat.le_refl _)
theorem Nw.away {w W : World} {n1 n2 : Bool} {a1 a2 : Option Addr} {l1 c1 l2 c2 g : Nat} {x y : Int} {p q : Value} (h : Nw w W n1 a1 l1 c1 n2 a2 l2 c2 x y) (hb : Bx W g (.bool false) (.slice none 0 0)) (hg : w.heap.size + 3 ≤ g) :
    Nw w ((W.setCell ⟨g, 0, none⟩ p).setCell ⟨g, 1, none⟩ q) n1 a1 l1 c1 n2 a2 l2 c2 x y := by
  have o := ((Only.refl g W).set 0 p).set 1 q
  exact ⟨h.below.trans (o.below (by omega)), by rw [o.size]; exact h.far, h.box1.only o (by omega), h.box2.only o (by omega), h.box3.only o (by omega), h.r1.box2 hb _ _, h.r2.box2 hb _ _⟩

/-- The memory of New, with the box of the divisor. -/
structure Nv (w W : World) (n1 : Bool) (a1 : Option Addr) (l1 c1 : Nat) (n2 : Bool) (a2 : Option Addr) (l2 c2 : Nat) (x y : Int) (g : Nat) (m : Bool) (b : Option Addr) (k d : Nat) (G : Int) : Prop where
  nw : Nw w W n1 a1 l1 c1 n2 a2 l2 c2 x y
  far : w.heap.size + 3 ≤ g
  box : Bx W g (.bool m) (.slice b k d)
  r : Ref W (.agg #[.bool m, .slice b k d]) G
section
variable {w W W' : World} {n1 n2 m : Bool} {a1 a2 b : Option Addr} {l1 c1 l2 c2 g k d B : Nat} {x y G : Int} {o : Obj} {p q : Value}
theorem Nv.keep (h : Nv w W n1 a1 l1 c1 n2 a2 l2 c2 x y g m b k d G) (hb : Below B W W') (hB : W.heap.size ≤ B) : Nv w W' n1 a1 l1 c1 n2 a2 l2 c2 x y g m b k d G :=
  ⟨h.nw.keep hb hB, h.far, h.box.below hb (Nat.lt_of_lt_of_le h.box.lt hB), h.r.keep hb hB⟩
theorem Nv.up (h : Nv w W n1 a1 l1 c1 n2 a2 l2 c2 x y g m b k d G) : Nv w (W.alloc o) n1 a1 l1 c1 n2 a2 l2 c2 x y g m b k d G := h.keep ((Below.refl _ _).alloc (Nat.le_refl _) o) (Nat.le_refl _)
theorem Nv.drew (h : Nv w W n1 a1 l1 c1 n2 a2 l2 c2 x y g m b k d G) : Nv w W.drew n1 a1 l1 c1 n2 a2 l2 c2 x y g m b k d G := h.keep (Below.refl _ _).drew (Nat.le_refl _)
theorem Nv.away {g' : Nat} (h : Nv w W n1 a1 l1 c1 n2 a2 l2 c2 x y g m b k d G) (hb : Bx W g' (.bool false) (.slice none 0 0)) (hg : w.heap.size + 3 ≤ g') (hn : g ≠ g') :
    Nv w ((W.setCell ⟨g', 0, none⟩ p).setCell ⟨g', 1, none⟩ q) n1 a1 l1 c1 n2 a2 l2 c2 x y g m b k d G := ⟨h.nw.away hb hg, h.far, h.box.offZ hn, h.r.away hb⟩
theorem Nv.cells (h : Nv w W n1 a1 l1 c1 n2 a2 l2 c2 x y g m b k d G) :
    W.cell? ⟨w.heap.size, 0, none⟩ = some (.bool n1) ∧ W.cell? ⟨w.heap.size, 1, none⟩ = some (.slice a1 l1 c1) ∧ W.cell? ⟨w.heap.size + 1, 0, none⟩ = some (.bool n2) ∧ W.cell? ⟨w.heap.size + 1, 1, none⟩ = some (.slice a2 l2 c2) ∧
    W.cell? ⟨g, 0, none⟩ = some (.bool m) ∧ W.cell? ⟨g, 1, none⟩ = some (.slice b k d) :=
  ⟨h.nw.box1.cell.1, h.nw.box1.cell.2.1, h.nw.box2.cell.1, h.nw.box2.cell.2.1, h.box.cell.1, h.box.cell.2.1⟩
theorem Nv.lt (h : Nv w W n1 a1 l1 c1 n2 a2 l2 c2 x y g m b k d G) : g < W.heap.size := h.box.lt
end

theorem dv_div (a b : Int) (hb : 0 < b) (h : b ∣ a) : Dv a b (a / b) 0 := by
  refine ⟨?_, by simp; omega, .inl rfl⟩
  rw [Int.add_zero, Int.mul_comm, Int.ediv_mul_cancel h]

theorem divInt_parts (x y X G M E : Int) (q : Rat) (hy : 0 < y) (hX : ((x.natAbs : Nat) : Int) = X) (hG : ((Int.gcd X y : Nat) : Int) = G) (hM : X / G = M) (hE : y / G = E) (hq : Rat.divInt x y = q) :
    (q.den : Int) = E ∧ (x < 0 → q.num = -M) ∧ (¬ x < 0 → q.num = M) := by
  have hg : Int.gcd X y = Int.gcd x y := by rw [← hX]; simp [Int.gcd]
  obtain ⟨h1, h2⟩ := rdiv_div x y (by omega)
  have hr : rdiv x y = G := by unfold rdiv; rw [if_neg (by omega), ← hG, hg]
  rw [hr, hq] at h1 h2
  have hG0 : 0 < G := by have := Int.gcd_pos_of_ne_zero_right X (show y ≠ 0 by omega); omega
  refine ⟨?_, fun h => ?_, fun h => ?_⟩
  · rw [h2, ← hE, Int.tdiv_eq_ediv_of_nonneg (by omega)]
  · rw [h1, ← hM, ← hX, show ((x.natAbs : Nat) : Int) = -x from by omega]
    have h3 := Int.tdiv_eq_ediv_of_nonneg (a := -x) (b := G) (by omega)
    rw [← h3, Int.neg_tdiv]; omega
  · rw [h1, ← hM, ← hX, show ((x.natAbs : Nat) : Int) = x from by omega, Int.tdiv_eq_ediv_of_nonneg (by omega)]

theorem drew_size (W : World) : W.drew.heap.size = W.heap.size := rfl

set_option maxRecDepth 100000 in
set_option maxHeartbeats 12800000 in
theorem rNew_pos (v1 v2 : Value) (n d x y : Int) (q : Rat) (w : World) (h1 : Ref w v1 n) (h2 : Ref w v2 d) (hn : n ≠ 0) (hd : 0 < d) (hx : Hid (True ∧ n = x)) (hy : Hid (True ∧ d = y)) (hl : Hid ((dg x.natAbs).length ≤ 1000 ∧ (dg y.natAbs).length ≤ 1000)) (hq : Hid (Rat.divInt x y = q)) :
    Calls Tryz.prog 19 #[v1, v2] w (RRPost q w) := by
  obtain rfl : n = x := hx.out.2
  obtain rfl : d = y := hy.out.2
  obtain ⟨x, hxx⟩ : ∃ x, n = x := ⟨_, rfl⟩
  obtain ⟨y, hyy⟩ : ∃ y, d = y := ⟨_, rfl⟩
  subst hxx hyy
  obtain ⟨n1, a1, l1, c1, rfl⟩ := h1.any
  obtain ⟨n2, a2, l2, c2, rfl⟩ := h2.any
  obtain rfl : n2 = false := by rw [h2.sgn]; exact decide_eq_false (by omega)
  have HM := Lib.hid (Nw.start w n1 false a1 a2 l1 c1 l2 c2 n d 28 28 30 h1 h2)
  have HZ : Hid (True ∧ decide (n = 0) = false) := Lib.hid ⟨trivial, decide_eq_false hn⟩
  have hy0 : 0 < d := by have := hy.out.2; omega
  have HY0 := Lib.hid hy0
  have HX0 : Hid (n ≠ 0) := Lib.hid (by have := hx.out.2; omega)
  obtain ⟨X, hX⟩ : ∃ X : Int, ((n.natAbs : Nat) : Int) = X := ⟨_, rfl⟩
  obtain ⟨G, hG⟩ : ∃ G : Int, ((Int.gcd X d : Nat) : Int) = G := ⟨_, rfl⟩
  have hG0 : 0 < G := by have := Int.gcd_pos_of_ne_zero_right X (show d ≠ 0 by omega); omega
  have HG0 := Lib.hid hG0
  have HXX := Lib.hid (And.intro trivial hX)
  have HGG := Lib.hid (And.intro trivial hG)
  have HLX : Hid ((dg X.natAbs).length ≤ 1000) := Lib.hid (by rw [← hX, Int.natAbs_natCast]; exact hl.out.1)
  have HLG : Hid ((dg G.natAbs).length ≤ 1000) := Lib.hid (by
    rw [← hG, Int.natAbs_natCast]
    exact Nat.le_trans (dg_mono _ _ (Nat.le_of_dvd (by omega) (Int.gcd_dvd_natAbs_right X d))) hl.out.2)
  obtain ⟨M, hM⟩ : ∃ M : Int, X / G = M := ⟨_, rfl⟩
  obtain ⟨E, hE⟩ : ∃ M : Int, d / G = M := ⟨_, rfl⟩
  have HMV : Hid (Dv X G M 0) := Lib.hid (by rw [← hM]; exact dv_div X G hG0 (by rw [← hG]; exact Int.gcd_dvd_left _ _))
  have HEV : Hid (Dv d G E 0) := Lib.hid (by rw [← hE]; exact dv_div d G hG0 (by rw [← hG]; exact Int.gcd_dvd_right _ _))
  have HPQ := Lib.hid (divInt_parts n d X G M E q hy0 hX hG hM hE hq.out)
  have HBN : Hid (True ∧ n1 = decide (n < 0)) := Lib.hid ⟨trivial, h1.sgn⟩
  clear h1 h2 hn hd hy0 hX hG hG0 hM hE
  obtain ⟨k0, k1, k2, k3⟩ := HM.out.cells
  go_enter Tryz.func19, Tryz.ntmps19
  go_wp2_with fail
  refine (rzero_any _ n false _ HM.out.r1 HZ).mono ?_
  rintro e w1 ⟨rfl, hb1⟩
  have HM1 := Lib.hid (HM.out.keep hb1 (Nat.le_refl _))
  clear HM hb1 k0 k1 k2 k3
  obtain ⟨k0, k1, k2, k3⟩ := HM1.out.cells
  go_upto_region 5 with fail
  go_cut [5] (fun t wx => ∃ (g5 : Nat) (nG : Bool) (aG : Option Addr) (lG cG : Nat), t = .pointer (some ⟨g5, 0, none⟩) ∧ Hid (w.heap.size + 3 ≤ g5 ∧ Nw w wx n1 a1 l1 c1 false a2 l2 c2 n d ∧ Bx wx g5 (.bool nG) (.slice aG lG cG) ∧ Ref wx (.agg #[.bool nG, .slice aG lG cG]) G))
  case first =>
    clear k0 k1 k2 k3
    have HN := Lib.hid HM1.out.drew
    have hs1 : w.heap.size + 3 ≤ w1.heap.size := HM1.out.far
    have HNA : Hid (Nw w (w1.alloc (.cells #[.bool false, .slice none 0 0] 28)).drew n1 a1 l1 c1 false a2 l2 c2 n d) := Lib.hid HM1.out.up.drew
    obtain ⟨k0, k1, k2, k3⟩ := HN.out.cells
    obtain ⟨i0, i1, i2, i3⟩ := HNA.out.cells
    go_region_held3 (fun w' => w'.cell? ⟨w.heap.size, 0, none⟩ = some (.bool n1) ∧ w'.cell? ⟨w.heap.size, 1, none⟩ = some (.slice a1 l1 c1) ∧ w'.cell? ⟨w.heap.size + 1, 0, none⟩ = some (.bool false) ∧ w'.cell? ⟨w.heap.size + 1, 1, none⟩ = some (.slice a2 l2 c2)) (first | ((try dsimp only); (repeat' apply And.intro); all_goals with_reducible assumption) | ((try dsimp only); (repeat' apply And.intro); all_goals (first | with_reducible assumption | (with_reducible refine cell_alloc ?_; with_reducible assumption) | (with_reducible refine cell_alloc (cell_alloc ?_); with_reducible assumption))) | ((try dsimp only); (repeat' apply And.intro); all_goals (repeat' (first | with_reducible assumption | with_reducible refine cell_alloc ?_ | with_reducible refine cell_off ?_ ?_ | omega))) | go_keep) (first | (go_at_call 54; refine (rabs_any _ n X _ (by (first | exact HN.out.r1 | exact HNA.out.r1)) HXX).mono ?_; rintro e w2 ⟨v2, rfl, hv2, hb2⟩; have hN2 : Nw w w2 n1 a1 l1 c1 false a2 l2 c2 n d := (by first | exact HN.out.keep hb2 (Nat.le_refl _) | exact HNA.out.keep hb2 (Nat.le_refl _)); have hs2 := hb2.size; (try simp only [World.size_alloc, drew_size] at hs2); obtain ⟨n3, a3, l3, c3, rfl⟩ := hv2.any; clear k0 k1 k2 k3 i0 i1 i2 i3; obtain ⟨j0, j1, j2, j3⟩ := hN2.cells) | (go_at_call 53; refine (rGcd_any _ _ X d _ (by first | exact hv2 | exact hv2.up) (by first | exact hN2.r2 | exact hN2.r2.up) HLX.out hl.out.2).mono ?_; rintro e w3 ⟨v3, rfl, hv3, hb3⟩; rw [HGG.out.2] at hv3; have hN3 : Nw w w3 n1 a1 l1 c1 false a2 l2 c2 n d := (by first | exact hN2.keep hb3 (Nat.le_refl _) | exact hN2.up.keep hb3 (Nat.le_refl _)); have hs3 := hb3.size; (try simp only [World.size_alloc, drew_size] at hs3); obtain ⟨n4, a4, l4, c4, rfl⟩ := hv3.any; clear j0 j1 j2 j3; obtain ⟨m0, m1, m2, m3⟩ := hN3.cells; (first | (have hX : Bx w3 w2.heap.size (.bool false) (.slice none 0 0) := (Bx.new w2 _ _ 28).below hb3 (by simp); obtain ⟨y0, y1, y2, y3⟩ := hX.cell) | (have hX : Bx w3 w1.heap.size (.bool false) (.slice none 0 0) := ((Bx.new w1 _ _ 28).drew.below hb2 (by simp)).below hb3 (by omega); obtain ⟨y0, y1, y2, y3⟩ := hX.cell) | skip)))
    all_goals (go_wp2_with fail; go_meet; case rel => (refine ⟨_, n4, a4, l4, c4, rfl, ?_⟩; refine Lib.hid ⟨?_, ?_, ?_, ?_⟩; all_goals (repeat' (first | with_reducible assumption | with_reducible exact Bx.new _ _ _ _ | with_reducible exact second_box _ _ _ _ _ () | with_reducible refine Nw.away ?_ ?_ ?_ | with_reducible refine Nv.away ?_ ?_ ?_ ?_ | with_reducible refine Nv.up ?_ | with_reducible refine Ref.away ?_ ?_ | with_reducible refine Bx.putZ ?_ | with_reducible refine Bx.offZ ?_ ?_ | with_reducible refine Nw.up ?_ | with_reducible refine Ref.up ?_ | with_reducible refine Bx.alloc ?_ _ | with_reducible refine Bx.below ?_ hb3 ?_ | with_reducible refine Bx.below ?_ hb2 ?_ | with_reducible refine Bx.drew ?_ | omega | (simp only [World.size_alloc, drew_size]; omega)))))
  case rest =>
  obtain ⟨g5, nG, aG, lG, cG, rfl, HR5⟩ := hcut
  obtain ⟨w4, rfl⟩ : ∃ w4 : World, w4 = wc := ⟨_, rfl⟩
  have HV4 : Hid (Nv w w4 n1 a1 l1 c1 false a2 l2 c2 n d g5 nG aG lG cG G) := Lib.hid ⟨HR5.out.2.1, HR5.out.1, HR5.out.2.2.1, HR5.out.2.2.2⟩
  clear HR5 HM1 k0 k1 k2 k3
  obtain ⟨k0, k1, k2, k3, k4, k5⟩ := HV4.out.cells
  go_upto_region 6 with fail
  go_cut [6] (fun t wx => ∃ (g6 : Nat) (n6 : Bool) (a6 : Option Addr) (l6 c6 : Nat), t = .pointer (some ⟨g6, 0, none⟩) ∧ Hid (w.heap.size + 3 ≤ g6 ∧ g5 ≠ g6 ∧ Nv w wx n1 a1 l1 c1 false a2 l2 c2 n d g5 nG aG lG cG G ∧ Bx wx g6 (.bool n6) (.slice a6 l6 c6) ∧ Ref wx (.agg #[.bool n6, .slice a6 l6 c6]) M))
  case first =>
    clear k0 k1 k2 k3 k4 k5
    have hs4 : w.heap.size + 3 ≤ w4.heap.size := HV4.out.nw.far
    have hg5 : g5 < w4.heap.size := HV4.out.lt
    have HN := Lib.hid HV4.out.drew
    have HNA : Hid (Nv w (w4.alloc (.cells #[.bool false, .slice none 0 0] 28)).drew n1 a1 l1 c1 false a2 l2 c2 n d g5 nG aG lG cG G) := Lib.hid HV4.out.up.drew
    have HNB : Hid (Nv w ((w4.alloc (.cells #[.bool false, .slice none 0 0] 28)).alloc (.cells #[.bool false, .slice none 0 0] 28)).drew n1 a1 l1 c1 false a2 l2 c2 n d g5 nG aG lG cG G) := Lib.hid HV4.out.up.up.drew
    obtain ⟨k0, k1, k2, k3, k4, k5⟩ := HN.out.cells
    obtain ⟨i0, i1, i2, i3, i4, i5⟩ := HNA.out.cells
    obtain ⟨u0, u1, u2, u3, u4, u5⟩ := HNB.out.cells
    go_region_held3 (fun w' => w'.cell? ⟨w.heap.size, 0, none⟩ = some (.bool n1) ∧ w'.cell? ⟨w.heap.size, 1, none⟩ = some (.slice a1 l1 c1) ∧ w'.cell? ⟨g5, 0, none⟩ = some (.bool nG) ∧ w'.cell? ⟨g5, 1, none⟩ = some (.slice aG lG cG)) (first | ((try dsimp only); (repeat' apply And.intro); all_goals with_reducible assumption) | ((try dsimp only); (repeat' apply And.intro); all_goals (first | with_reducible assumption | (with_reducible refine cell_alloc ?_; with_reducible assumption) | (with_reducible refine cell_alloc (cell_alloc ?_); with_reducible assumption))) | ((try dsimp only); (repeat' apply And.intro); all_goals (repeat' (first | with_reducible assumption | with_reducible refine cell_alloc ?_ | with_reducible refine cell_off ?_ ?_ | omega))) | go_keep) (first | (go_at_call 54; refine (rabs_any _ n X _ (by first | exact HN.out.nw.r1 | exact HNA.out.nw.r1 | exact HNB.out.nw.r1) HXX).mono ?_; rintro e w5 ⟨v5, rfl, hv5, hb5⟩; have hN5 : Nv w w5 n1 a1 l1 c1 false a2 l2 c2 n d g5 nG aG lG cG G := (by first | exact HN.out.keep hb5 (Nat.le_refl _) | exact HNA.out.keep hb5 (Nat.le_refl _) | exact HNB.out.keep hb5 (Nat.le_refl _)); have hs5 := hb5.size; (try simp only [World.size_alloc, drew_size] at hs5); obtain ⟨n7, a7, l7, c7, rfl⟩ := hv5.any; clear k0 k1 k2 k3 k4 k5 i0 i1 i2 i3 i4 i5 u0 u1 u2 u3 u4 u5; obtain ⟨j0, j1, j2, j3, j4, j5⟩ := hN5.cells) | (go_at_call 55; refine (rDivMod_any _ _ X G _ (by first | exact hv5 | exact hv5.up | exact hv5.up.up) (by first | exact hN5.r | exact hN5.r.up | exact hN5.r.up.up) HLX.out HLG.out (by have := HG0.out; omega)).mono ?_; rintro e w6 ⟨vq, vr, qq, rr, rfl, hvq, hvr, hdv, hb6⟩; obtain ⟨eq1, _⟩ := hdv.unique HMV.out; rw [eq1] at hvq; clear eq1 hdv; have hN6 : Nv w w6 n1 a1 l1 c1 false a2 l2 c2 n d g5 nG aG lG cG G := (by first | exact hN5.keep hb6 (Nat.le_refl _) | exact hN5.up.keep hb6 (Nat.le_refl _) | exact hN5.up.up.keep hb6 (Nat.le_refl _)); have hs6 := hb6.size; (try simp only [World.size_alloc, drew_size] at hs6); obtain ⟨n8, a8, l8, c8, rfl⟩ := hvq.any; obtain ⟨n9, a9, l9, c9, rfl⟩ := hvr.any; clear j0 j1 j2 j3 j4 j5; obtain ⟨m0, m1, m2, m3, m4, m5⟩ := hN6.cells; (first | (have pA : Bx w6 w4.heap.size (.bool false) (.slice none 0 0) := (by first | exact (((Bx.new w4 _ _ 28).drew.below hb5 (by simp)).alloc _).below hb6 (by first | omega | (simp only [World.size_alloc]; omega)) | exact ((Bx.new w4 _ _ 28).drew.below hb5 (by simp)).below hb6 (by first | omega | (simp only [World.size_alloc]; omega)) | exact (((Bx.new w4 _ _ 28).alloc _).drew.below hb5 (by simp; omega)).below hb6 (by first | omega | (simp only [World.size_alloc]; omega))); obtain ⟨pA0, pA1, pA2, pA3⟩ := pA.cell; obtain ⟨pA4, pA5, pA6, pA7⟩ := (pA.alloc (.cells #[.bool false, .slice none 0 0] 28)).cell; obtain ⟨pA8, pA9, pA10, pA11⟩ := (pA.alloc (.cells #[.bool n8, .slice a8 l8 c8] 28)).cell) | skip); (first | (have pB : Bx w6 (w4.heap.size + 1) (.bool false) (.slice none 0 0) := (by first | exact ((second_box w4 _ _ _ 28 ()).drew.below hb5 (by simp)).below hb6 (by first | omega | (simp only [World.size_alloc]; omega))); obtain ⟨pB0, pB1, pB2, pB3⟩ := pB.cell; obtain ⟨pB4, pB5, pB6, pB7⟩ := (pB.alloc (.cells #[.bool false, .slice none 0 0] 28)).cell; obtain ⟨pB8, pB9, pB10, pB11⟩ := (pB.alloc (.cells #[.bool n8, .slice a8 l8 c8] 28)).cell) | skip); (first | (have pC : Bx w6 w5.heap.size (.bool false) (.slice none 0 0) := (by first | exact (Bx.new w5 _ _ 28).below hb6 (by simp) | exact ((Bx.new w5 _ _ 28).alloc _).below hb6 (by simp; omega)); obtain ⟨pC0, pC1, pC2, pC3⟩ := pC.cell; obtain ⟨pC4, pC5, pC6, pC7⟩ := (pC.alloc (.cells #[.bool false, .slice none 0 0] 28)).cell; obtain ⟨pC8, pC9, pC10, pC11⟩ := (pC.alloc (.cells #[.bool n8, .slice a8 l8 c8] 28)).cell) | skip); (first | (have pD : Bx w6 (w5.heap.size + 1) (.bool false) (.slice none 0 0) := (by first | exact (second_box w5 _ _ _ 28 ()).below hb6 (by simp)); obtain ⟨pD0, pD1, pD2, pD3⟩ := pD.cell; obtain ⟨pD4, pD5, pD6, pD7⟩ := (pD.alloc (.cells #[.bool false, .slice none 0 0] 28)).cell; obtain ⟨pD8, pD9, pD10, pD11⟩ := (pD.alloc (.cells #[.bool n8, .slice a8 l8 c8] 28)).cell) | skip); (first | (have ne1 : w4.heap.size ≠ w5.heap.size := (by omega); have ne2 : w5.heap.size ≠ w4.heap.size := (by omega); have ne3 : w5.heap.size ≠ w4.heap.size + 1 := (by omega)) | skip)))
    all_goals (go_wp2_with fail; go_meet; case rel => (refine ⟨_, n8, a8, l8, c8, rfl, ?_⟩; refine Lib.hid ⟨?_, ?_, ?_, ?_, ?_⟩; all_goals (repeat' (first | with_reducible assumption | with_reducible exact Bx.new _ _ _ _ | with_reducible exact second_box _ _ _ _ _ () | with_reducible refine Nw.away ?_ ?_ ?_ | with_reducible refine Nv.away ?_ ?_ ?_ ?_ | with_reducible refine Nv.up ?_ | with_reducible refine Ref.away ?_ ?_ | with_reducible refine Bx.putZ ?_ | with_reducible refine Bx.offZ ?_ ?_ | with_reducible refine Nw.up ?_ | with_reducible refine Ref.up ?_ | with_reducible refine Bx.alloc ?_ _ | with_reducible refine Bx.drew ?_ | omega | (simp only [World.size_alloc, drew_size]; omega)))))
  case rest =>
  obtain ⟨g6, n6, a6, l6, c6, rfl, HR6⟩ := hcut
  obtain ⟨w7, rfl⟩ : ∃ w7 : World, w7 = wc := ⟨_, rfl⟩
  clear HV4 k0 k1 k2 k3 k4 k5
  obtain ⟨k0, k1, k2, k3, k4, k5⟩ := HR6.out.2.2.1.cells
  go_wp2_with fail
  refine (rDivMod_any _ _ d G _ HR6.out.2.2.1.nw.r2 HR6.out.2.2.1.r hl.out.2 HLG.out (by have := HG0.out; omega)).mono ?_
  rintro e w8 ⟨vq, vr, qq, rr, rfl, hvq, hvr, hdv, hb8⟩
  obtain ⟨eq1, _⟩ := hdv.unique HEV.out
  rw [eq1] at hvq
  obtain ⟨n8, a8, l8, c8, rfl⟩ := hvq.any
  obtain ⟨n9, a9, l9, c9, rfl⟩ := hvr.any
  have hN8 := HR6.out.2.2.1.keep hb8 (Nat.le_refl _)
  have hX8 := HR6.out.2.2.2.1.below hb8 HR6.out.2.2.2.1.lt
  have hM8 := HR6.out.2.2.2.2.keep hb8 (Nat.le_refl _)
  have HN9 : Hid (Nv w ((w8.alloc (.cells #[.bool n8, .slice a8 l8 c8] 28)).alloc (.cells #[.bool n9, .slice a9 l9 c9] 28)) n1 a1 l1 c1 false a2 l2 c2 n d g5 nG aG lG cG G) := Lib.hid hN8.up.up
  have HX9 := Lib.hid ((hX8.alloc (.cells #[.bool n8, .slice a8 l8 c8] 28)).alloc (.cells #[.bool n9, .slice a9 l9 c9] 28))
  have HM9 : Hid (Ref ((w8.alloc (.cells #[.bool n8, .slice a8 l8 c8] 28)).alloc (.cells #[.bool n9, .slice a9 l9 c9] 28)) (.agg #[.bool n6, .slice a6 l6 c6]) M) := Lib.hid hM8.up.up
  have HE9 : Hid (Ref ((w8.alloc (.cells #[.bool n8, .slice a8 l8 c8] 28)).alloc (.cells #[.bool n9, .slice a9 l9 c9] 28)) (.agg #[.bool n8, .slice a8 l8 c8]) E) := Lib.hid hvq.up.up
  have HE8 := Lib.hid ((Bx.new w8 (.bool n8) (.slice a8 l8 c8) 28).alloc (.cells #[.bool n9, .slice a9 l9 c9] 28))
  have hfar : w.heap.size + 3 ≤ w8.heap.size := hN8.nw.far
  have hg6 : g6 < w8.heap.size := hX8.lt
  have h6 : w.heap.size + 3 ≤ g6 := HR6.out.1
  have ne1 : w8.heap.size ≠ g6 := by omega
  have ne2 : g6 ≠ w8.heap.size := by omega
  have ne3 : g6 ≠ w8.heap.size + 1 := by omega
  clear HR6 hdv eq1 hvq hvr hb8 hN8 hX8 hM8 k0 k1 k2 k3 k4 k5 HMV HEV HLX HLG HG0 HXX HGG
  have hsg : (n1 = true ∧ q.num = -M) ∨ (n1 = false ∧ q.num = M) := by
    have h1 := HBN.out.2
    by_cases hs : n < 0
    · exact .inl ⟨by rw [h1]; exact decide_eq_true hs, HPQ.out.2.1 hs⟩
    · exact .inr ⟨by rw [h1]; exact decide_eq_false hs, HPQ.out.2.2 (by first | exact hs | omega)⟩
  obtain ⟨k0, k1, _, _, _, _⟩ := HN9.out.cells
  obtain ⟨x0, x1, x2, x3⟩ := HX9.out.cell
  obtain ⟨y0, y1, _, _⟩ := HE8.out.cell
  obtain ⟨z0, z1, z2, z3⟩ := HN9.out.nw.box3.cell
  obtain ⟨z4, z5, z6, z7⟩ := HN9.out.nw.box3.froz
  have HED : Hid ((q.den : Int) = E) := Lib.hid HPQ.out.1
  rcases hsg with ⟨rfl, hqn⟩ | ⟨rfl, hqn⟩
  · have HNG : Hid (True ∧ -M = q.num) := Lib.hid ⟨trivial, hqn.symm⟩
    clear hqn
    go_wp2_with fail
    refine (rNeg_any _ M _ HM9.out).mono ?_
    rintro e wA ⟨vA, rfl, hvA, hbA⟩
    rw [HNG.out.2] at hvA
    obtain ⟨nA, aA, lA, cA, rfl⟩ := hvA.any
    have hN10 := HN9.out.keep hbA (Nat.le_refl _)
    have hX10 := HX9.out.below hbA HX9.out.lt
    have hE10 := HE9.out.keep hbA (Nat.le_refl _)
    have hY10 := HE8.out.below hbA HE8.out.lt
    rw [← HED.out] at hE10
    clear k0 k1 x0 x1 x2 x3 y0 y1 z0 z1 z2 z3 z4 z5 z6 z7
    have HR : Hid (RRef wA (.agg #[.bool nA, .slice aA lA cA, .bool n8, .slice a8 l8 c8]) q) := Lib.hid ⟨_, _, _, _, _, _, _, _, rfl, hvA, hE10⟩
    have HR2 : Hid (RRef ((wA.setCell ⟨g6, 0, none⟩ (.bool nA)).setCell ⟨g6, 1, none⟩ (.slice aA lA cA)) (.agg #[.bool nA, .slice aA lA cA, .bool n8, .slice a8 l8 c8]) q) := Lib.hid (HR.out.box2 hX10 _ _)
    have o := ((Only.refl g6 wA).set 0 (.bool nA)).set 1 (.slice aA lA cA)
    have HB3 := Lib.hid (hN10.nw.box3.only o (by omega))
    have HBW := Lib.hid (hN10.nw.below.trans (o.below (by omega)))
    obtain ⟨x0, x1, x2, x3⟩ := hX10.cell
    obtain ⟨y0, y1, _, _⟩ := hY10.cell
    obtain ⟨z0, z1, z2, z3⟩ := hN10.nw.box3.cell
    obtain ⟨z4, z5, z6, z7⟩ := hN10.nw.box3.froz
    have ne4 : w.heap.size + 1 + 1 ≠ g6 := by omega
    clear hvA hbA hN10 hX10 hE10 hY10 o HN9 HX9 HM9 HE9 HE8
    go_wp2
    obtain ⟨l0, l1', l2', l3'⟩ := (HB3.out.put (.bool nA) (.slice aA lA cA) (.bool n8) (.slice a8 l8 c8)).cell
    refine bodyPost_ret (v := .agg #[.bool nA, .slice aA lA cA, .bool n8, .slice a8 l8 c8]) (by simp only [results, Tryz.results19]; simp [go_sem, l0, l1', l2', l3']) rfl ?_
    exact RRPost.boxed HR2.out HB3.out HBW.out (by omega) _ _ _ _
  · have hr1 := HM9.out
    have hr2 := HE9.out
    rw [← hqn] at hr1
    rw [← HED.out] at hr2
    have HR : Hid (RRef ((w8.alloc (.cells #[.bool n8, .slice a8 l8 c8] 28)).alloc (.cells #[.bool n9, .slice a9 l9 c9] 28)) (.agg #[.bool n6, .slice a6 l6 c6, .bool n8, .slice a8 l8 c8]) q) := Lib.hid ⟨_, _, _, _, _, _, _, _, rfl, hr1, hr2⟩
    clear hqn hr1 hr2
    go_wp2
    obtain ⟨l0, l1', l2', l3'⟩ := (HN9.out.nw.box3.put (.bool n6) (.slice a6 l6 c6) (.bool n8) (.slice a8 l8 c8)).cell
    refine bodyPost_ret (v := .agg #[.bool n6, .slice a6 l6 c6, .bool n8, .slice a8 l8 c8]) (by simp only [results, Tryz.results19]; simp [go_sem, l0, l1', l2', l3']) rfl ?_
    exact RRPost.boxed HR.out HN9.out.nw.box3 HN9.out.nw.below (by omega) _ _ _ _
set_option maxRecDepth 100000 in
set_option maxHeartbeats 12800000 in
theorem rNew_neg (v1 v2 : Value) (n d x y : Int) (q : Rat) (w : World) (h1 : Ref w v1 n) (h2 : Ref w v2 d) (hn : n ≠ 0) (hd : d < 0) (hx : Hid (True ∧ -n = x)) (hy : Hid (True ∧ -d = y)) (hl : Hid ((dg x.natAbs).length ≤ 1000 ∧ (dg y.natAbs).length ≤ 1000)) (hq : Hid (Rat.divInt x y = q)) :
    Calls Tryz.prog 19 #[v1, v2] w (RRPost q w) := by
  obtain ⟨n1, a1, l1, c1, rfl⟩ := h1.any
  obtain ⟨n2, a2, l2, c2, rfl⟩ := h2.any
  obtain rfl : n2 = true := by rw [h2.sgn]; exact decide_eq_true hd
  have HM := Lib.hid (Nw.start w n1 true a1 a2 l1 c1 l2 c2 n d 28 28 30 h1 h2)
  have HZ : Hid (True ∧ decide (n = 0) = false) := Lib.hid ⟨trivial, decide_eq_false hn⟩
  have hy0 : 0 < y := by have := hy.out.2; omega
  have HY0 := Lib.hid hy0
  have HX0 : Hid (x ≠ 0) := Lib.hid (by have := hx.out.2; omega)
  obtain ⟨X, hX⟩ : ∃ X : Int, ((x.natAbs : Nat) : Int) = X := ⟨_, rfl⟩
  obtain ⟨G, hG⟩ : ∃ G : Int, ((Int.gcd X y : Nat) : Int) = G := ⟨_, rfl⟩
  have hG0 : 0 < G := by have := Int.gcd_pos_of_ne_zero_right X (show y ≠ 0 by omega); omega
  have HG0 := Lib.hid hG0
  have HXX := Lib.hid (And.intro trivial hX)
  have HGG := Lib.hid (And.intro trivial hG)
  have HLX : Hid ((dg X.natAbs).length ≤ 1000) := Lib.hid (by rw [← hX, Int.natAbs_natCast]; exact hl.out.1)
  have HLG : Hid ((dg G.natAbs).length ≤ 1000) := Lib.hid (by
    rw [← hG, Int.natAbs_natCast]
    exact Nat.le_trans (dg_mono _ _ (Nat.le_of_dvd (by omega) (Int.gcd_dvd_natAbs_right X y))) hl.out.2)
  obtain ⟨M, hM⟩ : ∃ M : Int, X / G = M := ⟨_, rfl⟩
  obtain ⟨E, hE⟩ : ∃ M : Int, y / G = M := ⟨_, rfl⟩
  have HMV : Hid (Dv X G M 0) := Lib.hid (by rw [← hM]; exact dv_div X G hG0 (by rw [← hG]; exact Int.gcd_dvd_left _ _))
  have HEV : Hid (Dv y G E 0) := Lib.hid (by rw [← hE]; exact dv_div y G hG0 (by rw [← hG]; exact Int.gcd_dvd_right _ _))
  have HPQ := Lib.hid (divInt_parts x y X G M E q hy0 hX hG hM hE hq.out)
  have HBN : Hid (True ∧ n1 = decide (n < 0)) := Lib.hid ⟨trivial, h1.sgn⟩
  clear h1 h2 hn hd hy0 hX hG hG0 hM hE
  obtain ⟨k0, k1, k2, k3⟩ := HM.out.cells
  go_enter Tryz.func19, Tryz.ntmps19
  go_wp2_with fail
  refine (rzero_any _ n false _ HM.out.r1 HZ).mono ?_
  rintro e w1 ⟨rfl, hb1⟩
  have HM1 := Lib.hid (HM.out.keep hb1 (Nat.le_refl _))
  clear HM hb1 k0 k1 k2 k3
  obtain ⟨k0, k1, k2, k3⟩ := HM1.out.cells
  have hx' : -n = x := by have := hx.out.2; omega
  have hy' : -d = y := by have := hy.out.2; omega
  have HX' := Lib.hid (And.intro trivial hx')
  have HY' := Lib.hid (And.intro trivial hy')
  clear hx' hy'
  go_upto_region 4 with fail
  go_cut [20] (fun t wx => ∃ (m1 : Bool) (b1 : Option Addr) (k1 d1 : Nat) (m2 : Bool) (b2 : Option Addr) (k2 d2 : Nat), Hid (Nw w wx m1 b1 k1 d1 m2 b2 k2 d2 x y))
  case first =>
    clear k0 k1 k2 k3
    have HN := Lib.hid HM1.out.drew
    obtain ⟨k0, k1, k2, k3⟩ := HN.out.cells
    obtain ⟨u0, u1, u2, u3⟩ := HN.out.free
    first | go_region_with (first | (go_at_call 52; have hgd := hN2; clear hgd; refine (rNeg_any _ d _ (by exact hN2.r2)).mono ?_; rintro e w3 ⟨v3, rfl, hv3, hb3⟩; rw [HY'.out.2] at hv3; have hN3 := hN2.keep hb3 (Nat.le_refl _); have hv2' := hv2.keep hb3 (Nat.le_refl _); obtain ⟨m2, b2, k2', d2, rfl⟩ := hv3.any; obtain ⟨q0, q1, q2, q3⟩ := hN3.cells; obtain ⟨r0, r1, r2, r3⟩ := hN3.free) | (go_at_call 52; refine (rNeg_any _ n _ (by exact HN.out.r1)).mono ?_; rintro e w2 ⟨v2, rfl, hv2, hb2⟩; rw [HX'.out.2] at hv2; have hN2 := HN.out.keep hb2 (Nat.le_refl _); obtain ⟨m1, b1, k1', d1, rfl⟩ := hv2.any; obtain ⟨j0, j1, j2, j3⟩ := hN2.cells)) | fail
    all_goals (go_wp2_with fail; go_meet; case rel => exact ⟨m1, b1, k1', d1, m2, b2, k2', d2, Lib.hid (by first | exact hN3.both hv2' hv3 | exact hN3.both' hv2' hv3)⟩)
  case rest =>
  obtain ⟨n1, a1, l1, c1, n2, a2, l2, c2, HM1⟩ := hcut
  obtain ⟨w1, rfl⟩ : ∃ w1 : World, w1 = wc := ⟨_, rfl⟩
  have HBN : Hid (True ∧ n1 = decide (x < 0)) := Lib.hid ⟨trivial, HM1.out.r1.sgn⟩
  clear k0 k1 k2 k3 HX' HY' hx hy
  obtain ⟨k0, k1, k2, k3⟩ := HM1.out.cells
  go_upto_region 5 with fail
  go_cut [5] (fun t wx => ∃ (g5 : Nat) (nG : Bool) (aG : Option Addr) (lG cG : Nat), t = .pointer (some ⟨g5, 0, none⟩) ∧ Hid (w.heap.size + 3 ≤ g5 ∧ Nw w wx n1 a1 l1 c1 n2 a2 l2 c2 x y ∧ Bx wx g5 (.bool nG) (.slice aG lG cG) ∧ Ref wx (.agg #[.bool nG, .slice aG lG cG]) G))
  case first =>
    clear k0 k1 k2 k3
    have HN := Lib.hid HM1.out.drew
    have hs1 : w.heap.size + 3 ≤ w1.heap.size := HM1.out.far
    have HNA : Hid (Nw w (w1.alloc (.cells #[.bool false, .slice none 0 0] 28)).drew n1 a1 l1 c1 n2 a2 l2 c2 x y) := Lib.hid HM1.out.up.drew
    obtain ⟨k0, k1, k2, k3⟩ := HN.out.cells
    obtain ⟨i0, i1, i2, i3⟩ := HNA.out.cells
    go_region_held3 (fun w' => w'.cell? ⟨w.heap.size, 0, none⟩ = some (.bool n1) ∧ w'.cell? ⟨w.heap.size, 1, none⟩ = some (.slice a1 l1 c1) ∧ w'.cell? ⟨w.heap.size + 1, 0, none⟩ = some (.bool n2) ∧ w'.cell? ⟨w.heap.size + 1, 1, none⟩ = some (.slice a2 l2 c2)) (first | ((try dsimp only); (repeat' apply And.intro); all_goals with_reducible assumption) | ((try dsimp only); (repeat' apply And.intro); all_goals (first | with_reducible assumption | (with_reducible refine cell_alloc ?_; with_reducible assumption) | (with_reducible refine cell_alloc (cell_alloc ?_); with_reducible assumption))) | ((try dsimp only); (repeat' apply And.intro); all_goals (repeat' (first | with_reducible assumption | with_reducible refine cell_alloc ?_ | with_reducible refine cell_off ?_ ?_ | omega))) | go_keep) (first | (go_at_call 54; refine (rabs_any _ x X _ (by (first | exact HN.out.r1 | exact HNA.out.r1)) HXX).mono ?_; rintro e w2 ⟨v2, rfl, hv2, hb2⟩; have hN2 : Nw w w2 n1 a1 l1 c1 n2 a2 l2 c2 x y := (by first | exact HN.out.keep hb2 (Nat.le_refl _) | exact HNA.out.keep hb2 (Nat.le_refl _)); have hs2 := hb2.size; (try simp only [World.size_alloc, drew_size] at hs2); obtain ⟨n3, a3, l3, c3, rfl⟩ := hv2.any; clear k0 k1 k2 k3 i0 i1 i2 i3; obtain ⟨j0, j1, j2, j3⟩ := hN2.cells) | (go_at_call 53; refine (rGcd_any _ _ X y _ (by first | exact hv2 | exact hv2.up) (by first | exact hN2.r2 | exact hN2.r2.up) HLX.out hl.out.2).mono ?_; rintro e w3 ⟨v3, rfl, hv3, hb3⟩; rw [HGG.out.2] at hv3; have hN3 : Nw w w3 n1 a1 l1 c1 n2 a2 l2 c2 x y := (by first | exact hN2.keep hb3 (Nat.le_refl _) | exact hN2.up.keep hb3 (Nat.le_refl _)); have hs3 := hb3.size; (try simp only [World.size_alloc, drew_size] at hs3); obtain ⟨n4, a4, l4, c4, rfl⟩ := hv3.any; clear j0 j1 j2 j3; obtain ⟨m0, m1, m2, m3⟩ := hN3.cells; (first | (have hX : Bx w3 w2.heap.size (.bool false) (.slice none 0 0) := (Bx.new w2 _ _ 28).below hb3 (by simp); obtain ⟨y0, y1, y2, y3⟩ := hX.cell) | (have hX : Bx w3 w1.heap.size (.bool false) (.slice none 0 0) := ((Bx.new w1 _ _ 28).drew.below hb2 (by simp)).below hb3 (by omega); obtain ⟨y0, y1, y2, y3⟩ := hX.cell) | skip)))
    all_goals (go_wp2_with fail; go_meet; case rel => (refine ⟨_, n4, a4, l4, c4, rfl, ?_⟩; refine Lib.hid ⟨?_, ?_, ?_, ?_⟩; all_goals (repeat' (first | with_reducible assumption | with_reducible exact Bx.new _ _ _ _ | with_reducible exact second_box _ _ _ _ _ () | with_reducible refine Nw.away ?_ ?_ ?_ | with_reducible refine Nv.away ?_ ?_ ?_ ?_ | with_reducible refine Nv.up ?_ | with_reducible refine Ref.away ?_ ?_ | with_reducible refine Bx.putZ ?_ | with_reducible refine Bx.offZ ?_ ?_ | with_reducible refine Nw.up ?_ | with_reducible refine Ref.up ?_ | with_reducible refine Bx.alloc ?_ _ | with_reducible refine Bx.below ?_ hb3 ?_ | with_reducible refine Bx.below ?_ hb2 ?_ | with_reducible refine Bx.drew ?_ | omega | (simp only [World.size_alloc, drew_size]; omega)))))
  case rest =>
  obtain ⟨g5, nG, aG, lG, cG, rfl, HR5⟩ := hcut
  obtain ⟨w4, rfl⟩ : ∃ w4 : World, w4 = wc := ⟨_, rfl⟩
  have HV4 : Hid (Nv w w4 n1 a1 l1 c1 n2 a2 l2 c2 x y g5 nG aG lG cG G) := Lib.hid ⟨HR5.out.2.1, HR5.out.1, HR5.out.2.2.1, HR5.out.2.2.2⟩
  clear HR5 HM1 k0 k1 k2 k3
  obtain ⟨k0, k1, k2, k3, k4, k5⟩ := HV4.out.cells
  go_upto_region 6 with fail
  go_cut [6] (fun t wx => ∃ (g6 : Nat) (n6 : Bool) (a6 : Option Addr) (l6 c6 : Nat), t = .pointer (some ⟨g6, 0, none⟩) ∧ Hid (w.heap.size + 3 ≤ g6 ∧ g5 ≠ g6 ∧ Nv w wx n1 a1 l1 c1 n2 a2 l2 c2 x y g5 nG aG lG cG G ∧ Bx wx g6 (.bool n6) (.slice a6 l6 c6) ∧ Ref wx (.agg #[.bool n6, .slice a6 l6 c6]) M))
  case first =>
    clear k0 k1 k2 k3 k4 k5
    have hs4 : w.heap.size + 3 ≤ w4.heap.size := HV4.out.nw.far
    have hg5 : g5 < w4.heap.size := HV4.out.lt
    have HN := Lib.hid HV4.out.drew
    have HNA : Hid (Nv w (w4.alloc (.cells #[.bool false, .slice none 0 0] 28)).drew n1 a1 l1 c1 n2 a2 l2 c2 x y g5 nG aG lG cG G) := Lib.hid HV4.out.up.drew
    have HNB : Hid (Nv w ((w4.alloc (.cells #[.bool false, .slice none 0 0] 28)).alloc (.cells #[.bool false, .slice none 0 0] 28)).drew n1 a1 l1 c1 n2 a2 l2 c2 x y g5 nG aG lG cG G) := Lib.hid HV4.out.up.up.drew
    obtain ⟨k0, k1, k2, k3, k4, k5⟩ := HN.out.cells
    obtain ⟨i0, i1, i2, i3, i4, i5⟩ := HNA.out.cells
    obtain ⟨u0, u1, u2, u3, u4, u5⟩ := HNB.out.cells
    go_region_held3 (fun w' => w'.cell? ⟨w.heap.size, 0, none⟩ = some (.bool n1) ∧ w'.cell? ⟨w.heap.size, 1, none⟩ = some (.slice a1 l1 c1) ∧ w'.cell? ⟨g5, 0, none⟩ = some (.bool nG) ∧ w'.cell? ⟨g5, 1, none⟩ = some (.slice aG lG cG)) (first | ((try dsimp only); (repeat' apply And.intro); all_goals with_reducible assumption) | ((try dsimp only); (repeat' apply And.intro); all_goals (first | with_reducible assumption | (with_reducible refine cell_alloc ?_; with_reducible assumption) | (with_reducible refine cell_alloc (cell_alloc ?_); with_reducible assumption))) | ((try dsimp only); (repeat' apply And.intro); all_goals (repeat' (first | with_reducible assumption | with_reducible refine cell_alloc ?_ | with_reducible refine cell_off ?_ ?_ | omega))) | go_keep) (first | (go_at_call 54; refine (rabs_any _ x X _ (by first | exact HN.out.nw.r1 | exact HNA.out.nw.r1 | exact HNB.out.nw.r1) HXX).mono ?_; rintro e w5 ⟨v5, rfl, hv5, hb5⟩; have hN5 : Nv w w5 n1 a1 l1 c1 n2 a2 l2 c2 x y g5 nG aG lG cG G := (by first | exact HN.out.keep hb5 (Nat.le_refl _) | exact HNA.out.keep hb5 (Nat.le_refl _) | exact HNB.out.keep hb5 (Nat.le_refl _)); have hs5 := hb5.size; (try simp only [World.size_alloc, drew_size] at hs5); obtain ⟨n7, a7, l7, c7, rfl⟩ := hv5.any; clear k0 k1 k2 k3 k4 k5 i0 i1 i2 i3 i4 i5 u0 u1 u2 u3 u4 u5; obtain ⟨j0, j1, j2, j3, j4, j5⟩ := hN5.cells) | (go_at_call 55; refine (rDivMod_any _ _ X G _ (by first | exact hv5 | exact hv5.up | exact hv5.up.up) (by first | exact hN5.r | exact hN5.r.up | exact hN5.r.up.up) HLX.out HLG.out (by have := HG0.out; omega)).mono ?_; rintro e w6 ⟨vq, vr, qq, rr, rfl, hvq, hvr, hdv, hb6⟩; obtain ⟨eq1, _⟩ := hdv.unique HMV.out; rw [eq1] at hvq; clear eq1 hdv; have hN6 : Nv w w6 n1 a1 l1 c1 n2 a2 l2 c2 x y g5 nG aG lG cG G := (by first | exact hN5.keep hb6 (Nat.le_refl _) | exact hN5.up.keep hb6 (Nat.le_refl _) | exact hN5.up.up.keep hb6 (Nat.le_refl _)); have hs6 := hb6.size; (try simp only [World.size_alloc, drew_size] at hs6); obtain ⟨n8, a8, l8, c8, rfl⟩ := hvq.any; obtain ⟨n9, a9, l9, c9, rfl⟩ := hvr.any; clear j0 j1 j2 j3 j4 j5; obtain ⟨m0, m1, m2, m3, m4, m5⟩ := hN6.cells; (first | (have pA : Bx w6 w4.heap.size (.bool false) (.slice none 0 0) := (by first | exact (((Bx.new w4 _ _ 28).drew.below hb5 (by simp)).alloc _).below hb6 (by first | omega | (simp only [World.size_alloc]; omega)) | exact ((Bx.new w4 _ _ 28).drew.below hb5 (by simp)).below hb6 (by first | omega | (simp only [World.size_alloc]; omega)) | exact (((Bx.new w4 _ _ 28).alloc _).drew.below hb5 (by simp; omega)).below hb6 (by first | omega | (simp only [World.size_alloc]; omega))); obtain ⟨pA0, pA1, pA2, pA3⟩ := pA.cell; obtain ⟨pA4, pA5, pA6, pA7⟩ := (pA.alloc (.cells #[.bool false, .slice none 0 0] 28)).cell; obtain ⟨pA8, pA9, pA10, pA11⟩ := (pA.alloc (.cells #[.bool n8, .slice a8 l8 c8] 28)).cell) | skip); (first | (have pB : Bx w6 (w4.heap.size + 1) (.bool false) (.slice none 0 0) := (by first | exact ((second_box w4 _ _ _ 28 ()).drew.below hb5 (by simp)).below hb6 (by first | omega | (simp only [World.size_alloc]; omega))); obtain ⟨pB0, pB1, pB2, pB3⟩ := pB.cell; obtain ⟨pB4, pB5, pB6, pB7⟩ := (pB.alloc (.cells #[.bool false, .slice none 0 0] 28)).cell; obtain ⟨pB8, pB9, pB10, pB11⟩ := (pB.alloc (.cells #[.bool n8, .slice a8 l8 c8] 28)).cell) | skip); (first | (have pC : Bx w6 w5.heap.size (.bool false) (.slice none 0 0) := (by first | exact (Bx.new w5 _ _ 28).below hb6 (by simp) | exact ((Bx.new w5 _ _ 28).alloc _).below hb6 (by simp; omega)); obtain ⟨pC0, pC1, pC2, pC3⟩ := pC.cell; obtain ⟨pC4, pC5, pC6, pC7⟩ := (pC.alloc (.cells #[.bool false, .slice none 0 0] 28)).cell; obtain ⟨pC8, pC9, pC10, pC11⟩ := (pC.alloc (.cells #[.bool n8, .slice a8 l8 c8] 28)).cell) | skip); (first | (have pD : Bx w6 (w5.heap.size + 1) (.bool false) (.slice none 0 0) := (by first | exact (second_box w5 _ _ _ 28 ()).below hb6 (by simp)); obtain ⟨pD0, pD1, pD2, pD3⟩ := pD.cell; obtain ⟨pD4, pD5, pD6, pD7⟩ := (pD.alloc (.cells #[.bool false, .slice none 0 0] 28)).cell; obtain ⟨pD8, pD9, pD10, pD11⟩ := (pD.alloc (.cells #[.bool n8, .slice a8 l8 c8] 28)).cell) | skip); (first | (have ne1 : w4.heap.size ≠ w5.heap.size := (by omega); have ne2 : w5.heap.size ≠ w4.heap.size := (by omega); have ne3 : w5.heap.size ≠ w4.heap.size + 1 := (by omega)) | skip)))
    all_goals (go_wp2_with fail; go_meet; case rel => (refine ⟨_, n8, a8, l8, c8, rfl, ?_⟩; refine Lib.hid ⟨?_, ?_, ?_, ?_, ?_⟩; all_goals (repeat' (first | with_reducible assumption | with_reducible exact Bx.new _ _ _ _ | with_reducible exact second_box _ _ _ _ _ () | with_reducible refine Nw.away ?_ ?_ ?_ | with_reducible refine Nv.away ?_ ?_ ?_ ?_ | with_reducible refine Nv.up ?_ | with_reducible refine Ref.away ?_ ?_ | with_reducible refine Bx.putZ ?_ | with_reducible refine Bx.offZ ?_ ?_ | with_reducible refine Nw.up ?_ | with_reducible refine Ref.up ?_ | with_reducible refine Bx.alloc ?_ _ | with_reducible refine Bx.drew ?_ | omega | (simp only [World.size_alloc, drew_size]; omega)))))
  case rest =>
  obtain ⟨g6, n6, a6, l6, c6, rfl, HR6⟩ := hcut
  obtain ⟨w7, rfl⟩ : ∃ w7 : World, w7 = wc := ⟨_, rfl⟩
  clear HV4 k0 k1 k2 k3 k4 k5
  obtain ⟨k0, k1, k2, k3, k4, k5⟩ := HR6.out.2.2.1.cells
  go_wp2_with fail
  refine (rDivMod_any _ _ y G _ HR6.out.2.2.1.nw.r2 HR6.out.2.2.1.r hl.out.2 HLG.out (by have := HG0.out; omega)).mono ?_
  rintro e w8 ⟨vq, vr, qq, rr, rfl, hvq, hvr, hdv, hb8⟩
  obtain ⟨eq1, _⟩ := hdv.unique HEV.out
  rw [eq1] at hvq
  obtain ⟨n8, a8, l8, c8, rfl⟩ := hvq.any
  obtain ⟨n9, a9, l9, c9, rfl⟩ := hvr.any
  have hN8 := HR6.out.2.2.1.keep hb8 (Nat.le_refl _)
  have hX8 := HR6.out.2.2.2.1.below hb8 HR6.out.2.2.2.1.lt
  have hM8 := HR6.out.2.2.2.2.keep hb8 (Nat.le_refl _)
  have HN9 : Hid (Nv w ((w8.alloc (.cells #[.bool n8, .slice a8 l8 c8] 28)).alloc (.cells #[.bool n9, .slice a9 l9 c9] 28)) n1 a1 l1 c1 n2 a2 l2 c2 x y g5 nG aG lG cG G) := Lib.hid hN8.up.up
  have HX9 := Lib.hid ((hX8.alloc (.cells #[.bool n8, .slice a8 l8 c8] 28)).alloc (.cells #[.bool n9, .slice a9 l9 c9] 28))
  have HM9 : Hid (Ref ((w8.alloc (.cells #[.bool n8, .slice a8 l8 c8] 28)).alloc (.cells #[.bool n9, .slice a9 l9 c9] 28)) (.agg #[.bool n6, .slice a6 l6 c6]) M) := Lib.hid hM8.up.up
  have HE9 : Hid (Ref ((w8.alloc (.cells #[.bool n8, .slice a8 l8 c8] 28)).alloc (.cells #[.bool n9, .slice a9 l9 c9] 28)) (.agg #[.bool n8, .slice a8 l8 c8]) E) := Lib.hid hvq.up.up
  have HE8 := Lib.hid ((Bx.new w8 (.bool n8) (.slice a8 l8 c8) 28).alloc (.cells #[.bool n9, .slice a9 l9 c9] 28))
  have hfar : w.heap.size + 3 ≤ w8.heap.size := hN8.nw.far
  have hg6 : g6 < w8.heap.size := hX8.lt
  have h6 : w.heap.size + 3 ≤ g6 := HR6.out.1
  have ne1 : w8.heap.size ≠ g6 := by omega
  have ne2 : g6 ≠ w8.heap.size := by omega
  have ne3 : g6 ≠ w8.heap.size + 1 := by omega
  clear HR6 hdv eq1 hvq hvr hb8 hN8 hX8 hM8 k0 k1 k2 k3 k4 k5 HMV HEV HLX HLG HG0 HXX HGG
  have hsg : (n1 = true ∧ q.num = -M) ∨ (n1 = false ∧ q.num = M) := by
    have h1 := HBN.out.2
    by_cases hs : x < 0
    · exact .inl ⟨by rw [h1]; exact decide_eq_true hs, HPQ.out.2.1 hs⟩
    · exact .inr ⟨by rw [h1]; exact decide_eq_false hs, HPQ.out.2.2 (by first | exact hs | omega)⟩
  obtain ⟨k0, k1, _, _, _, _⟩ := HN9.out.cells
  obtain ⟨x0, x1, x2, x3⟩ := HX9.out.cell
  obtain ⟨y0, y1, _, _⟩ := HE8.out.cell
  obtain ⟨z0, z1, z2, z3⟩ := HN9.out.nw.box3.cell
  obtain ⟨z4, z5, z6, z7⟩ := HN9.out.nw.box3.froz
  have HED : Hid ((q.den : Int) = E) := Lib.hid HPQ.out.1
  rcases hsg with ⟨rfl, hqn⟩ | ⟨rfl, hqn⟩
  · have HNG : Hid (True ∧ -M = q.num) := Lib.hid ⟨trivial, hqn.symm⟩
    clear hqn
    go_wp2_with fail
    refine (rNeg_any _ M _ HM9.out).mono ?_
    rintro e wA ⟨vA, rfl, hvA, hbA⟩
    rw [HNG.out.2] at hvA
    obtain ⟨nA, aA, lA, cA, rfl⟩ := hvA.any
    have hN10 := HN9.out.keep hbA (Nat.le_refl _)
    have hX10 := HX9.out.below hbA HX9.out.lt
    have hE10 := HE9.out.keep hbA (Nat.le_refl _)
    have hY10 := HE8.out.below hbA HE8.out.lt
    rw [← HED.out] at hE10
    clear k0 k1 x0 x1 x2 x3 y0 y1 z0 z1 z2 z3 z4 z5 z6 z7
    have HR : Hid (RRef wA (.agg #[.bool nA, .slice aA lA cA, .bool n8, .slice a8 l8 c8]) q) := Lib.hid ⟨_, _, _, _, _, _, _, _, rfl, hvA, hE10⟩
    have HR2 : Hid (RRef ((wA.setCell ⟨g6, 0, none⟩ (.bool nA)).setCell ⟨g6, 1, none⟩ (.slice aA lA cA)) (.agg #[.bool nA, .slice aA lA cA, .bool n8, .slice a8 l8 c8]) q) := Lib.hid (HR.out.box2 hX10 _ _)
    have o := ((Only.refl g6 wA).set 0 (.bool nA)).set 1 (.slice aA lA cA)
    have HB3 := Lib.hid (hN10.nw.box3.only o (by omega))
    have HBW := Lib.hid (hN10.nw.below.trans (o.below (by omega)))
    obtain ⟨x0, x1, x2, x3⟩ := hX10.cell
    obtain ⟨y0, y1, _, _⟩ := hY10.cell
    obtain ⟨z0, z1, z2, z3⟩ := hN10.nw.box3.cell
    obtain ⟨z4, z5, z6, z7⟩ := hN10.nw.box3.froz
    have ne4 : w.heap.size + 1 + 1 ≠ g6 := by omega
    clear hvA hbA hN10 hX10 hE10 hY10 o HN9 HX9 HM9 HE9 HE8
    go_wp2
    obtain ⟨l0, l1', l2', l3'⟩ := (HB3.out.put (.bool nA) (.slice aA lA cA) (.bool n8) (.slice a8 l8 c8)).cell
    refine bodyPost_ret (v := .agg #[.bool nA, .slice aA lA cA, .bool n8, .slice a8 l8 c8]) (by simp only [results, Tryz.results19]; simp [go_sem, l0, l1', l2', l3']) rfl ?_
    exact RRPost.boxed HR2.out HB3.out HBW.out (by omega) _ _ _ _
  · have hr1 := HM9.out
    have hr2 := HE9.out
    rw [← hqn] at hr1
    rw [← HED.out] at hr2
    have HR : Hid (RRef ((w8.alloc (.cells #[.bool n8, .slice a8 l8 c8] 28)).alloc (.cells #[.bool n9, .slice a9 l9 c9] 28)) (.agg #[.bool n6, .slice a6 l6 c6, .bool n8, .slice a8 l8 c8]) q) := Lib.hid ⟨_, _, _, _, _, _, _, _, rfl, hr1, hr2⟩
    clear hqn hr1 hr2
    go_wp2
    obtain ⟨l0, l1', l2', l3'⟩ := (HN9.out.nw.box3.put (.bool n6) (.slice a6 l6 c6) (.bool n8) (.slice a8 l8 c8)).cell
    refine bodyPost_ret (v := .agg #[.bool n6, .slice a6 l6 c6, .bool n8, .slice a8 l8 c8]) (by simp only [results, Tryz.results19]; simp [go_sem, l0, l1', l2', l3']) rfl ?_
    exact RRPost.boxed HR.out HN9.out.nw.box3 HN9.out.nw.below (by omega) _ _ _ _

theorem rNew_any (v1 v2 : Value) (n d : Int) (q : Rat) (w : World) (h1 : Ref w v1 n) (h2 : Ref w v2 d) (hd : d ≠ 0) (ln : (dg n.natAbs).length ≤ 1000) (ld : (dg d.natAbs).length ≤ 1000) (hq : Hid (Rat.divInt n d = q)) :
    Calls Tryz.prog 19 #[v1, v2] w (RRPost q w) := by
  by_cases hn : n = 0
  · exact rNew_zero v1 v2 n d q w h1 h2 hn hq
  · by_cases hneg : d < 0
    · exact rNew_neg v1 v2 n d (-n) (-d) q w h1 h2 hn hneg (Lib.hid ⟨trivial, rfl⟩) (Lib.hid ⟨trivial, rfl⟩) (Lib.hid (by rw [Int.natAbs_neg, Int.natAbs_neg]; exact ⟨ln, ld⟩)) (Lib.hid (by rw [Rat.neg_divInt_neg]; exact hq.out))
    · exact rNew_pos v1 v2 n d n d q w h1 h2 hn (by omega) (Lib.hid ⟨trivial, rfl⟩) (Lib.hid ⟨trivial, rfl⟩) (Lib.hid ⟨ln, ld⟩) hq


end Go.Proofs.YtpnofebhpeiepaaGreatDoor
