/- What Sign, isNegative, limbs, Negated and Of do. -/
import Derived.Test.YtpnofebhpeiepaaGreatDoorI2
import Derived.Deep.RegionHeld3
set_option linter.unusedVariables false
set_option linter.unusedSimpArgs false
namespace Go.Proofs.YtpnofebhpeiepaaGreatDoor
open Go.RowKit

/-- -1, 0 or 1. -/
def sg (z : Int) : Int := if z < 0 then -1 else if 0 < z then 1 else 0

set_option maxHeartbeats 800000 in
theorem isNaN64 (n : Int) (w : World) : Calls Tryz.prog 118 #[.int .i64 n] w fun e w' => e = .returned (.bool false) ∧ w = w' := by
  have hd : (n == n) = true := by simp
  go_enter Tryz.func118, Tryz.ntmps118
  go_wp2
  go_ret
  exact ⟨rfl, rfl⟩

def sgn2 (a b : Int) : Int := if a < b then -1 else if b < a then 1 else 0

set_option maxHeartbeats 800000 in
theorem compare64 (a b : Int) (w : World) : Calls Tryz.prog 98 #[.int .i64 a, .int .i64 b] w fun e w' => e = .returned (.int .i64 (sgn2 a b)) ∧ w = w' := by
  unfold sgn2
  by_cases h1 : a < b
  · rw [if_pos h1]
    go_enter Tryz.func98, Tryz.ntmps98
    go_wp2_with (go_at_call 118; refine (isNaN64 _ _).mono ?_; rintro e w' ⟨rfl, rfl⟩)
    go_ret
    exact ⟨rfl, rfl⟩
  · rw [if_neg h1]
    by_cases h2 : b < a
    · rw [if_pos h2]
      go_enter Tryz.func98, Tryz.ntmps98
      go_wp2_with (go_at_call 118; refine (isNaN64 _ _).mono ?_; rintro e w' ⟨rfl, rfl⟩)
      go_ret
      exact ⟨rfl, rfl⟩
    · rw [if_neg h2]
      go_enter Tryz.func98, Tryz.ntmps98
      go_wp2_with (go_at_call 118; refine (isNaN64 _ _).mono ?_; rintro e w' ⟨rfl, rfl⟩)
      go_ret
      exact ⟨rfl, rfl⟩

set_option maxRecDepth 100000 in
set_option maxHeartbeats 800000 in
theorem Sign_any (P : Nat → Prop) (x : Value) (z : Int) (w : World) (h : IsInt P w x z) :
    Calls Tryz.prog 84 #[x] w fun e w' => e = .returned (.int .i64 (sg z)) ∧ Below w.heap.size w w' := by
  rcases h with ⟨h1, rfl⟩ | ⟨h1, g, sv, rfl, h2⟩
  · have HS : Hid (sgn2 z 0 = sg z) := Lib.hid rfl
    go_enter Tryz.func84, Tryz.ntmps84
    go_wp2_with (go_at_call 98; refine (compare64 _ _ _).mono ?_; rintro e w' ⟨rfl, rfl⟩)
    go_ret
    exact ⟨by rw [← HS.out]; rfl, (Below.refl _ _).alloc (Nat.le_refl _) _⟩
  · have hc := h2.cells
    have hg := h2.1
    obtain ⟨c0, c1⟩ := hc
    clear h2
    by_cases hz : z < 0
    · have HS : Hid (sg z = -1) := Lib.hid (by unfold sg; rw [if_pos hz])
      rw [show isNeg z = true from by simp [isNeg, hz]] at c0
      go_enter Tryz.func84, Tryz.ntmps84
      go_wp2
      go_ret
      exact ⟨by rw [HS.out]; rfl, (Below.refl _ _).alloc (Nat.le_refl _) _⟩
    · have HS : Hid (sg z = 1) := Lib.hid (by unfold sg; rw [if_neg hz, if_pos (by omega)])
      rw [show isNeg z = false from by simp [isNeg, hz]] at c0
      go_enter Tryz.func84, Tryz.ntmps84
      go_wp2
      go_ret
      exact ⟨by rw [HS.out]; rfl, (Below.refl _ _).alloc (Nat.le_refl _) _⟩

/-- A box of two cells. -/
def Bx (w : World) (g : Nat) (x y : Value) : Prop := ∃ T, w.heap[g]? = some (.cells #[x, y] T (0, 0))

theorem Bx.cell {w : World} {g : Nat} {x y : Value} (h : Bx w g x y) : w.cell? ⟨g, 0, none⟩ = some x ∧ w.cell? ⟨g, 1, none⟩ = some y ∧ w.frozen? ⟨g, 0, none⟩ = false ∧ w.frozen? ⟨g, 1, none⟩ = false := by
  obtain ⟨T, h⟩ := h
  simp [World.cell?, World.frozen?, h]
theorem Bx.lt {w : World} {g : Nat} {x y : Value} (h : Bx w g x y) : g < w.heap.size := by
  obtain ⟨T, h⟩ := h
  rcases Nat.lt_or_ge g w.heap.size with h' | h'
  · exact h'
  · simp [Array.getElem?_eq_none h'] at h
theorem Bx.below {w w' : World} {g B : Nat} {x y : Value} (h : Bx w g x y) (hb : Below B w w') (hg : g < B) : Bx w' g x y := by
  obtain ⟨T, h⟩ := h
  exact ⟨T, by rw [hb.block g hg]; exact h⟩
theorem Bx.only {w w' : World} {g b : Nat} {x y : Value} (h : Bx w g x y) (hb : Only b w w') (hg : g ≠ b) : Bx w' g x y := by
  obtain ⟨T, h⟩ := h
  exact ⟨T, by rw [hb.block g hg]; exact h⟩
theorem Bx.new (w : World) (x y : Value) (T : TypeId) : Bx (w.alloc (.cells #[x, y] T)) w.heap.size x y := ⟨T, heap_alloc_new _ _⟩
theorem Bx.alloc {w : World} {g : Nat} {x y : Value} (h : Bx w g x y) (o : Obj) : Bx (w.alloc o) g x y := h.below ((Below.refl _ _).alloc (Nat.le_refl _) o) h.lt
theorem Bx.drew {w : World} {g : Nat} {x y : Value} (h : Bx w g x y) : Bx w.drew g x y := h
theorem Bx.drewN {w : World} {g : Nat} {x y : Value} (h : Bx w g x y) (n : Nat) : Bx (w.drewN n) g x y := h

set_option maxRecDepth 100000 in
set_option maxHeartbeats 800000 in
theorem isNegative_any (P : Nat → Prop) (x : Value) (z : Int) (w : World) (h : IsInt P w x z) :
    Calls Tryz.prog 95 #[x] w fun e w' => e = .returned (.bool (isNeg z)) ∧ Below w.heap.size w w' := by
  obtain ⟨s, p, rfl⟩ := h.form
  have H := Lib.hid h
  clear h
  by_cases hz : z < 0
  · have HS : Hid (sg z = -1) := Lib.hid (by unfold sg; rw [if_pos hz])
    have HN : Hid (isNeg z = true) := Lib.hid (by simp [isNeg, hz])
    clear hz
    go_enter Tryz.func95, Tryz.ntmps95
    go_wp2_with fail
    refine (Sign_any P _ z _ (H.out.kept (.alloc _ _ _))).mono ?_
    rintro e w1 ⟨rfl, hb⟩
    rw [HS.out]
    have HB := Lib.hid (((Below.refl w.heap.size w).alloc (Nat.le_refl _) _).trans (hb.mono (by simp)))
    clear hb
    go_wp2
    go_ret
    exact ⟨by rw [HN.out]; rfl, HB.out⟩
  · obtain ⟨r, hr, hr0⟩ : ∃ r : Int, sg z = r ∧ 0 ≤ r := ⟨_, rfl, by unfold sg; split <;> (try split) <;> omega⟩
    have HS := Lib.hid hr
    have HN : Hid (isNeg z = false) := Lib.hid (by simp [isNeg, hz])
    have hr1 : decide (r < 0) = false := by simp; omega
    clear hz hr
    go_enter Tryz.func95, Tryz.ntmps95
    go_wp2_with fail
    refine (Sign_any P _ z _ (H.out.kept (.alloc _ _ _))).mono ?_
    rintro e w1 ⟨rfl, hb⟩
    rw [HS.out]
    have HB := Lib.hid (((Below.refl w.heap.size w).alloc (Nat.le_refl _) _).trans (hb.mono (by simp)))
    clear hb
    go_wp2
    go_ret
    exact ⟨by rw [HN.out]; rfl, HB.out⟩

/-- The call returns the size of an integer. -/
def SizePost (P : Nat → Prop) (n : Nat) (w : World) (e : Ending) (w' : World) : Prop := ∃ v, e = .returned v ∧ IsNat w' v n ∧ In P v ∧ Below w.heap.size w w'

set_option maxRecDepth 100000 in
set_option maxHeartbeats 800000 in
theorem limbs_any (P : Nat → Prop) (x : Value) (z : Int) (w : World) (hP : ∀ k, w.heap.size ≤ k → P k) (h : IsInt P w x z) :
    Calls Tryz.prog 97 #[x] w (SizePost P z.natAbs w) := by
  rcases h with ⟨h1, rfl⟩ | ⟨h1, g, sv, rfl, h2⟩
  · have hz1 : -9223372036854775808 ≤ z := by omega
    have hz2 : z ≤ 9223372036854775807 := by omega
    go_enter Tryz.func97, Tryz.ntmps97
    go_wp2_with fail
    refine (magnitude_any z hz1 hz2 _).mono ?_
    rintro e w1 ⟨rfl, rfl⟩
    obtain ⟨n, hn⟩ : ∃ n : Nat, n = z.natAbs := ⟨_, rfl⟩
    rw [← hn]
    have hn2 : n < 18446744073709551616 := by omega
    have HN := Lib.hid hn
    clear hn
    go_wp2_with fail
    refine (naturalOf_any n hn2 _).mono ?_
    rintro e w1 ⟨v, rfl, hv, hf, hb⟩
    have HV := Lib.hid hv
    have HF := Lib.hid hf
    have HB := Lib.hid (((Below.refl w.heap.size w).alloc (Nat.le_refl _) _).trans (hb.mono (by simp)))
    clear hv hf hb
    go_wp2
    go_ret
    exact ⟨v, rfl, by rw [← HN.out]; exact HV.out, In.fresh HF.out (fun k hk => hP k (by simp at hk; omega)), HB.out⟩
  · obtain ⟨a, m, c, rfl⟩ := h2.2.2.2.2.slice
    have hc := h2.cells
    have hg := h2.1
    have HF := Lib.hid h2
    obtain ⟨c0, c1⟩ := hc
    clear h2
    go_enter Tryz.func97, Tryz.ntmps97
    go_wp2
    go_ret
    have hb := (Below.refl w.heap.size w).alloc (Nat.le_refl _) (.cells #[.int .i64 0, .pointer (some ⟨g, 0, none⟩)] 61)
    exact ⟨_, rfl, HF.out.2.2.2.2.keep hb (Nat.le_refl _), HF.out.2.2.1, hb⟩

theorem sz_self (z : Int) : sz (isNeg z) z.natAbs = z := by unfold sz isNeg; by_cases h : z < 0 <;> simp [h] <;> omega
theorem sz_not (z : Int) : sz (!isNeg z) z.natAbs = -z := by unfold sz isNeg; by_cases h : z < 0 <;> simp [h] <;> omega

/-- The end of a call whose result stands in a box of its own: the box was set last. -/
theorem IntPost.boxed {P : Nat → Prop} {z : Int} {w w1 : World} {v x y : Value} {g : Nat} (hb : Below w.heap.size w w1) (hg : w.heap.size ≤ g) (hn : IsInt (fun k => P k ∧ k ≠ g) w1 v z) :
    IntPost P z w (.returned v) ((w1.setCell ⟨g, 0, none⟩ x).setCell ⟨g, 1, none⟩ y) := by
  have ho : Only g w1 ((w1.setCell ⟨g, 0, none⟩ x).setCell ⟨g, 1, none⟩ y) := ((Only.refl g w1).set 0 x).set 1 y
  exact ⟨v, rfl, (hn.kept (.only ho (fun h => h.2 rfl))).mono (fun k _ hk => hk.1), hb.trans (ho.below hg)⟩

theorem boxes2 (w : World) (x y : Obj) : Below w.heap.size w ((w.alloc x).alloc y) := ((Below.refl _ _).alloc (Nat.le_refl _) _).alloc (by simp) _

theorem second_box (w : World) (o : Obj) (x y : Value) (T : TypeId) (u : Unit) : Bx ((w.alloc o).alloc (.cells #[x, y] T)) (w.heap.size + 1) x y := ⟨T, second_new _ _ _⟩

theorem old_two (w : World) (x y : Obj) (g o : Nat) (hg : g < w.heap.size) {v : Value} (h : w.cell? ⟨g, o, none⟩ = some v) : ((w.alloc x).alloc y).drew.cell? ⟨g, o, none⟩ = some v :=
  ((boxes2 w x y).drew.cell (p := ⟨g, o, none⟩) hg).trans h

theorem cell_set2 (w : World) (g : Nat) (x y : Value) (b o : Nat) (h : b ≠ g) : ((w.setCell ⟨g, 0, none⟩ x).setCell ⟨g, 1, none⟩ y).cell? ⟨b, o, none⟩ = w.cell? ⟨b, o, none⟩ :=
  (((Only.refl g w).set 0 x).set 1 y).cell b o h

set_option maxRecDepth 100000 in
set_option maxHeartbeats 1600000 in
theorem Negated_any (P : Nat → Prop) (x : Value) (z : Int) (w : World) (hP : ∀ k, w.heap.size ≤ k → P k) (h : IsInt P w x z) :
    Calls Tryz.prog 71 #[x] w (IntPost P (-z) w) := by
  rcases h with ⟨h1, rfl⟩ | ⟨h1, g, sv, rfl, h2⟩
  · have hz1 : -9223372036854775808 ≤ -z := by omega
    have hz2 : -z ≤ 9223372036854775807 := by omega
    go_enter Tryz.func71, Tryz.ntmps71
    go_wp2
    refine bodyPost_ret (v := .agg #[.int .i64 (-z), .pointer none]) (by simp [results, Tryz.results71, go_sem]) rfl ?_
    exact ⟨_, rfl, .inl ⟨by omega, rfl⟩, ((Below.refl _ _).alloc (Nat.le_refl _) _).alloc (by simp) _⟩
  · obtain ⟨a, m, c, rfl⟩ := h2.2.2.2.2.slice
    have hc := h2.cells
    have hg := h2.1
    have HF := Lib.hid h2
    obtain ⟨c0, c1⟩ := hc
    have HZ := Lib.hid (sz_not z)
    clear h2
    generalize isNeg z = neg at *
    go_enter Tryz.func71, Tryz.ntmps71
    have HQ : Hid (Far (fun k => P k ∧ k ≠ w.heap.size + 1) w g neg (.slice a m c) z.natAbs) := Lib.hid (HF.out.mono (fun k hk hp => ⟨hp, by omega⟩))
    go_wp2_with fail
    have HK : Hid (∀ k, w.heap.size + 2 ≤ k → P k ∧ k ≠ w.heap.size + 1) := Lib.hid (fun k hk => ⟨hP k (by omega), by omega⟩)
    go_region_held3 (fun w' => w'.cell? ⟨w.heap.size, 1, none⟩ = some (.pointer (some ⟨g, 0, none⟩)) ∧ w'.cell? ⟨g, 0, none⟩ = some (.bool neg) ∧ w'.cell? ⟨g, 1, none⟩ = some (.slice a m c))
      (first | ((try dsimp only); (repeat' apply And.intro); all_goals (first | assumption | (rw [cell_set2 _ _ _ _ _ _ (by omega)]; assumption))) | go_keep)
      ((go_at_call 86; refine (signed_any (fun k => P k ∧ k ≠ w.heap.size + 1) _ _ z.natAbs _ (by intro k hk; exact HK.out k (Nat.le_trans (by simp) hk)) (by exact HQ.out.2.2.2.2.keep (boxes2 w _ _).drew (Nat.le_refl _)) (by exact HQ.out.2.2.1)).mono ?_; rintro e w2 ⟨v, rfl, hv, hbel⟩; obtain ⟨s, p, rfl⟩ := hv.form; obtain ⟨q0, q1, q2, q3⟩ := (((Bx.new w _ _ _).alloc _).drew.below hbel (by simp; omega)).cell; obtain ⟨r0, r1, r2, r3⟩ := ((second_box w _ _ _ _ ()).drew.below hbel (by simp)).cell; have k0 := (hbel.cell (p := ⟨g, 0, none⟩) (by simp; omega)).trans (old_two w _ _ g 0 hg c0); have k1 := (hbel.cell (p := ⟨g, 1, none⟩) (by simp; omega)).trans (old_two w _ _ g 1 hg c1)))
    rw [HZ.out] at hv
    have HV := Lib.hid hv
    have HB := Lib.hid ((boxes2 w (.cells #[.int .i64 0, .pointer (some ⟨g, 0, none⟩)] 61) (.cells #[.int .i64 0, .pointer none] 61)).drew.trans (hbel.mono (by simp; omega)))
    clear hv hbel k0 k1 q0 q1 q2 q3
    go_wp2
    refine bodyPost_ret (v := .agg #[.int .i64 s, .pointer p]) (by simp [results, Tryz.results71, go_sem, r0, r1]) rfl ?_
    exact IntPost.boxed HB.out (by omega) HV.out

end Go.Proofs.YtpnofebhpeiepaaGreatDoor
