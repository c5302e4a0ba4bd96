/- What Of and Plus do. -/
import Derived.Test.YtpnofebhpeiepaaGreatDoorI3
set_option linter.unusedVariables false
set_option linter.unusedSimpArgs false
namespace Go.Proofs.YtpnofebhpeiepaaGreatDoor
open Go.RowKit

theorem sz_of (n : Int) : sz (decide (n < 0)) n.natAbs = n := by unfold sz; by_cases h : n < 0 <;> simp [h] <;> omega

set_option maxRecDepth 100000 in
set_option maxHeartbeats 1600000 in
theorem Of_int (P : Nat → Prop) (n : Int) (hn : -9223372036854775808 ≤ n) (hn2 : n ≤ 9223372036854775807) (w : World) (hP : ∀ k, w.heap.size ≤ k → P k) :
    Calls Tryz.prog 78 #[.int .i64 n] w (IntPost P n w) := by
  by_cases h1 : -1000000000000000000 < n
  · by_cases h2 : n < 1000000000000000000
    · go_enter Tryz.func78, Tryz.ntmps78
      go_wp2
      refine bodyPost_ret (v := .agg #[.int .i64 n, .pointer none]) (by simp [results, Tryz.results78, go_sem]) rfl ?_
      exact ⟨_, rfl, .inl ⟨by omega, rfl⟩, (Below.refl _ _).alloc (Nat.le_refl _) _⟩
    · have hneg : decide (n < 0) = false := by simp; omega
      have HZ := Lib.hid (sz_of n)
      rw [hneg] at HZ
      go_enter Tryz.func78, Tryz.ntmps78
      go_wp2_with fail
      refine (magnitude_any n hn hn2 _).mono ?_
      rintro e w1 ⟨rfl, rfl⟩
      obtain ⟨m, hm⟩ : ∃ m : Nat, m = n.natAbs := ⟨_, rfl⟩
      rw [← hm] at HZ ⊢
      have hm2 : m < 18446744073709551616 := by omega
      clear hm
      go_wp2_with fail
      refine (naturalOf_any m hm2 _).mono ?_
      rintro e w1 ⟨v, rfl, hv, hf, hb⟩
      have HV := Lib.hid hv
      have HF := Lib.hid hf
      have HB := Lib.hid hb
      clear hv hf hb
      have HK : Hid (∀ k, w.heap.size + 1 ≤ k → P k ∧ k ≠ w.heap.size) := Lib.hid (fun k hk => ⟨hP k (by omega), by omega⟩)
      go_wp2_with fail
      refine (signed_any (fun k => P k ∧ k ≠ w.heap.size) _ _ m _ (by intro k hk; exact HK.out k (Nat.le_trans (by have := HB.out.size; simp at this; omega) hk)) HV.out (In.fresh HF.out (by intro k hk; exact HK.out k (by simpa using hk)))).mono ?_
      rintro e w2 ⟨v2, rfl, hv, hb⟩
      rw [HZ.out] at hv
      obtain ⟨s, p, rfl⟩ := hv.form
      obtain ⟨q0, q1, q2, q3⟩ := (((Bx.new w _ _ _).below HB.out (by simp)).below hb (by have := HB.out.size; simp at this; omega)).cell
      have HV2 := Lib.hid hv
      have HB2 := Lib.hid (((Below.refl w.heap.size w).alloc (Nat.le_refl _) _).trans ((HB.out.mono (by simp)).trans (hb.mono (by have := HB.out.size; simp at this; omega))))
      clear hv hb
      go_wp2
      refine bodyPost_ret (v := .agg #[.int .i64 s, .pointer p]) (by simp [results, Tryz.results78, go_sem, q0, q1]) rfl ?_
      exact IntPost.boxed HB2.out (Nat.le_refl _) HV2.out
  · have hneg : decide (n < 0) = true := by simp; omega
    have HZ := Lib.hid (sz_of n)
    rw [hneg] at HZ
    go_enter Tryz.func78, Tryz.ntmps78
    go_wp2_with fail
    refine (magnitude_any n hn hn2 _).mono ?_
    rintro e w1 ⟨rfl, rfl⟩
    obtain ⟨m, hm⟩ : ∃ m : Nat, m = n.natAbs := ⟨_, rfl⟩
    rw [← hm] at HZ ⊢
    have hm2 : m < 18446744073709551616 := by omega
    clear hm
    go_wp2_with fail
    refine (naturalOf_any m hm2 _).mono ?_
    rintro e w1 ⟨v, rfl, hv, hf, hb⟩
    have HV := Lib.hid hv
    have HF := Lib.hid hf
    have HB := Lib.hid hb
    clear hv hf hb
    have HK : Hid (∀ k, w.heap.size + 1 ≤ k → P k ∧ k ≠ w.heap.size) := Lib.hid (fun k hk => ⟨hP k (by omega), by omega⟩)
    go_wp2_with fail
    refine (signed_any (fun k => P k ∧ k ≠ w.heap.size) _ _ m _ (by intro k hk; exact HK.out k (Nat.le_trans (by have := HB.out.size; simp at this; omega) hk)) HV.out (In.fresh HF.out (by intro k hk; exact HK.out k (by simpa using hk)))).mono ?_
    rintro e w2 ⟨v2, rfl, hv, hb⟩
    rw [HZ.out] at hv
    obtain ⟨s, p, rfl⟩ := hv.form
    obtain ⟨q0, q1, q2, q3⟩ := (((Bx.new w _ _ _).below HB.out (by simp)).below hb (by have := HB.out.size; simp at this; omega)).cell
    have HV2 := Lib.hid hv
    have HB2 := Lib.hid (((Below.refl w.heap.size w).alloc (Nat.le_refl _) _).trans ((HB.out.mono (by simp)).trans (hb.mono (by have := HB.out.size; simp at this; omega))))
    clear hv hb
    go_wp2
    refine bodyPost_ret (v := .agg #[.int .i64 s, .pointer p]) (by simp [results, Tryz.results78, go_sem, q0, q1]) rfl ?_
    exact IntPost.boxed HB2.out (Nat.le_refl _) HV2.out

/-- Not both pointers are nil. -/
theorem IsInt.ptr {P : Nat → Prop} {w : World} {s : Int} {p : Option Addr} {z : Int} (h : IsInt P w (.agg #[.int .i64 s, .pointer p]) z) :
    (z.natAbs < 1000000000000000000 ∧ s = z ∧ p = none) ∨ (1000000000000000000 ≤ z.natAbs ∧ ∃ g, p = some ⟨g, 0, none⟩) := by
  rcases h with ⟨h1, h2⟩ | ⟨h1, g, sv, h2, _⟩
  · left; simp at h2; exact ⟨h1, h2⟩
  · right; simp at h2; exact ⟨h1, g, h2.2⟩

theorem boxes3 (w : World) (x y z : Obj) : Below w.heap.size w (((w.alloc x).alloc y).alloc z) :=
  (((Below.refl _ _).alloc (Nat.le_refl _) _).alloc (by simp) _).alloc (by simp; omega) _

/-- Three boxes stand behind w's end: two arguments and a result. -/
def St (w W : World) (x0 x1 y0 y1 z0 z1 : Value) : Prop :=
  Below w.heap.size w W ∧ w.heap.size + 3 ≤ W.heap.size ∧ Bx W w.heap.size x0 x1 ∧ Bx W (w.heap.size + 1) y0 y1 ∧ Bx W (w.heap.size + 1 + 1) z0 z1

theorem St.start (w : World) (x0 x1 y0 y1 z0 z1 : Value) (T1 T2 T3 : TypeId) : St w (((w.alloc (.cells #[x0, x1] T1)).alloc (.cells #[y0, y1] T2)).alloc (.cells #[z0, z1] T3)) x0 x1 y0 y1 z0 z1 := by
  refine ⟨boxes3 _ _ _ _, by simp, ((Bx.new w x0 x1 T1).alloc _).alloc _, (second_box w _ y0 y1 T2 ()).alloc _, ⟨T3, ?_⟩⟩
  have := second_new (w.alloc (.cells #[x0, x1] T1)) (.cells #[y0, y1] T2) (.cells #[z0, z1] T3)
  rwa [World.size_alloc] at this

theorem St.next {w W W' : World} {x0 x1 y0 y1 z0 z1 : Value} {B : Nat} (h : St w W x0 x1 y0 y1 z0 z1) (hb : Below B W W') (hB : W.heap.size ≤ B) : St w W' x0 x1 y0 y1 z0 z1 := by
  obtain ⟨h1, h2, h3, h4, h5⟩ := h
  exact ⟨h1.trans (hb.mono (by omega)), Nat.le_trans h2 hb.size, h3.below hb (by have := h3.lt; omega), h4.below hb (by have := h4.lt; omega), h5.below hb (by have := h5.lt; omega)⟩
theorem St.drew {w W : World} {x0 x1 y0 y1 z0 z1 : Value} (h : St w W x0 x1 y0 y1 z0 z1) : St w W.drew x0 x1 y0 y1 z0 z1 := ⟨h.1.drew, h.2.1, h.2.2.1.drew, h.2.2.2.1.drew, h.2.2.2.2.drew⟩

theorem St.cells {w W : World} {x0 x1 y0 y1 z0 z1 : Value} (h : St w W x0 x1 y0 y1 z0 z1) :
    W.cell? ⟨w.heap.size, 0, none⟩ = some x0 ∧ W.cell? ⟨w.heap.size, 1, none⟩ = some x1 ∧ W.cell? ⟨w.heap.size + 1, 0, none⟩ = some y0 ∧ W.cell? ⟨w.heap.size + 1, 1, none⟩ = some y1 ∧
    W.cell? ⟨w.heap.size + 1 + 1, 0, none⟩ = some z0 ∧ W.cell? ⟨w.heap.size + 1 + 1, 1, none⟩ = some z1 ∧ W.frozen? ⟨w.heap.size + 1 + 1, 0, none⟩ = false ∧ W.frozen? ⟨w.heap.size + 1 + 1, 1, none⟩ = false := by
  obtain ⟨_, _, h3, h4, h5⟩ := h
  exact ⟨h3.cell.1, h3.cell.2.1, h4.cell.1, h4.cell.2.1, h5.cell.1, h5.cell.2.1, h5.cell.2.2.1, h5.cell.2.2.2⟩

theorem St.of {P : Nat → Prop} {w : World} {x0 x1 y0 y1 : Value} {a b : Int} (ha : IsInt P w (.agg #[x0, x1]) a) (hb : IsInt P w (.agg #[y0, y1]) b) (z0 z1 : Value) (T1 T2 T3 : TypeId) :
    St w (((w.alloc (.cells #[x0, x1] T1)).alloc (.cells #[y0, y1] T2)).alloc (.cells #[z0, z1] T3)) x0 x1 y0 y1 z0 z1 := St.start w x0 x1 y0 y1 z0 z1 T1 T2 T3

/-- P, but not the three boxes. -/
def Bar3 (P : Nat → Prop) (w : World) (k : Nat) : Prop := P k ∧ (k < w.heap.size ∨ w.heap.size + 3 ≤ k)
theorem Bar3.new {P : Nat → Prop} {w : World} (hP : ∀ k, w.heap.size ≤ k → P k) (k : Nat) (hk : w.heap.size + 3 ≤ k) : Bar3 P w k := ⟨hP k (by omega), .inr hk⟩
theorem IsInt.bar3 {P : Nat → Prop} {w W : World} {v : Value} {z : Int} (h : IsInt P w v z) (hb : Below w.heap.size w W) : IsInt (Bar3 P w) W v z :=
  (h.mono (fun k hk hp => (⟨hp, .inl hk⟩ : Bar3 P w k))).kept (.all hb)
theorem IntPost.three {P : Nat → Prop} {z : Int} {w w1 : World} {v x y : Value} (hb : Below w.heap.size w w1) (hn : IsInt (Bar3 P w) w1 v z) :
    IntPost P z w (.returned v) ((w1.setCell ⟨w.heap.size + 1 + 1, 0, none⟩ x).setCell ⟨w.heap.size + 1 + 1, 1, none⟩ y) :=
  IntPost.boxed hb (by omega) (hn.mono (fun k _ hk => ⟨hk.1, by have := hk.2; omega⟩))

/-- The sizes of two arguments, as limbs. -/
def Two (Q : Nat → Prop) (W : World) (v1 v2 : Value) (a b : Nat) : Prop := IsNat W v1 a ∧ IsNat W v2 b ∧ In Q v1 ∧ In Q v2

theorem Two.kept {Q : Nat → Prop} {W W' : World} {v1 v2 : Value} {a b : Nat} (h : Two Q W v1 v2 a b) (hk : Kept Q W W') : Two Q W' v1 v2 a b :=
  ⟨Rd.kept h.1 h.2.2.1 hk, Rd.kept h.2.1 h.2.2.2 hk, h.2.2.1, h.2.2.2⟩

theorem St.drewN {w W : World} {x0 x1 y0 y1 z0 z1 : Value} (h : St w W x0 x1 y0 y1 z0 z1) (n : Nat) : St w (W.drewN n) x0 x1 y0 y1 z0 z1 :=
  h.next (B := W.heap.size) ⟨rfl, rfl, rfl, Nat.le_refl _, fun _ _ => rfl⟩ (Nat.le_refl _)

theorem add_same (a b : Int) (h : isNeg a = isNeg b) : sz (isNeg a) (a.natAbs + b.natAbs) = a + b := by
  unfold sz isNeg at *
  by_cases h1 : a < 0 <;> by_cases h2 : b < 0 <;> simp [h1, h2] at h ⊢ <;> omega
theorem add_less (a b : Int) (h : (isNeg a == isNeg b) = false) (hl : a.natAbs ≤ b.natAbs) : sz (isNeg b) (b.natAbs - a.natAbs) = a + b := by
  unfold sz isNeg at *
  by_cases h1 : a < 0 <;> by_cases h2 : b < 0 <;> simp [h1, h2] at h ⊢ <;> omega
theorem add_more (a b : Int) (h : (isNeg a == isNeg b) = false) (hl : b.natAbs ≤ a.natAbs) : sz (isNeg a) (a.natAbs - b.natAbs) = a + b := by
  unfold sz isNeg at *
  by_cases h1 : a < 0 <;> by_cases h2 : b < 0 <;> simp [h1, h2] at h ⊢ <;> omega

set_option maxRecDepth 100000 in
set_option maxHeartbeats 1600000 in
theorem Plus_int (P : Nat → Prop) (s1 s2 : Int) (p1 p2 : Option Addr) (a b : Int) (w : World) (hP : ∀ k, w.heap.size ≤ k → P k) (ha : IsInt P w (.agg #[.int .i64 s1, .pointer p1]) a) (hb : IsInt P w (.agg #[.int .i64 s2, .pointer p2]) b)
    (la : (Nm.ds 1000000000 a.natAbs).length ≤ 1000) (lb : (Nm.ds 1000000000 b.natAbs).length ≤ 1000) :
    Calls Tryz.prog 92 #[.agg #[.int .i64 s1, .pointer p1], .agg #[.int .i64 s2, .pointer p2]] w (IntPost P (a + b) w) := by
  have HA := Lib.hid ha
  have HB := Lib.hid hb
  have HP := Lib.hid hP
  clear ha hb hP
  obtain ⟨na, hna⟩ : ∃ na, isNeg a = na := ⟨_, rfl⟩
  obtain ⟨nb, hnb⟩ : ∃ nb, isNeg b = nb := ⟨_, rfl⟩
  have HNA := Lib.hid hna
  have HNB := Lib.hid hnb
  clear hna hnb
  cases h1 : p1.isNone <;> cases h2 : p2.isNone
  case true.true =>
    rw [Option.isNone_iff_eq_none] at h1 h2
    subst h1 h2
    have hs1 : s1 = a ∧ a.natAbs < 1000000000000000000 := by
      rcases HA.out.ptr with ⟨h1, h2, _⟩ | ⟨_, g, h⟩
      · exact ⟨h2, h1⟩
      · cases h
    have hs2 : s2 = b ∧ b.natAbs < 1000000000000000000 := by
      rcases HB.out.ptr with ⟨h1, h2, _⟩ | ⟨_, g, h⟩
      · exact ⟨h2, h1⟩
      · cases h
    obtain ⟨rfl, hs1⟩ := hs1
    obtain ⟨rfl, hs2⟩ := hs2
    have h1 : -9223372036854775808 ≤ s1 + s2 := by omega
    have h2 : s1 + s2 ≤ 9223372036854775807 := by omega
    go_enter Tryz.func92, Tryz.ntmps92
    go_wp2_with fail
    have hS0 := St.start w (.int .i64 s1) (.pointer none) (.int .i64 s2) (.pointer none) (.int .i64 0) (.pointer none) 61 61 61
    refine (Of_int (Bar3 P w) _ h1 h2 _ (by intro k hk; exact Bar3.new HP.out k (Nat.le_trans hS0.2.1 hk))).mono ?_
    rintro e w1 ⟨v, rfl, hv, hb⟩
    have hS1 := hS0.next hb (Nat.le_refl _)
    obtain ⟨s, p, rfl⟩ := hv.form
    obtain ⟨c0, c1, c2, c3, c4, c5, c6, c7⟩ := hS1.cells
    have HV := Lib.hid hv
    clear hv hb
    go_wp2
    refine bodyPost_ret (v := .agg #[.int .i64 s, .pointer p]) (by simp [results, Tryz.results92, go_sem, c4, c5]) rfl ?_
    exact IntPost.three hS1.1 HV.out
  all_goals
    go_enter Tryz.func92, Tryz.ntmps92
    go_wp2_with fail
    have hS0 := St.of HA.out HB.out (.int .i64 0) (.pointer none) 61 61 61
    have HAQ := Lib.hid (HA.out.bar3 hS0.1.drew)
    have HBQ := HB
    go_region_held3 (fun w' => w'.cell? ⟨w.heap.size, 0, none⟩ = some (.int .i64 s1) ∧ w'.cell? ⟨w.heap.size, 1, none⟩ = some (.pointer p1) ∧ w'.cell? ⟨w.heap.size + 1, 0, none⟩ = some (.int .i64 s2) ∧ w'.cell? ⟨w.heap.size + 1, 1, none⟩ = some (.pointer p2))
      (first | ((try dsimp only); (repeat' apply And.intro); all_goals assumption) | go_keep)
      (first | (go_at_call 97; refine (limbs_any (Bar3 P w) _ a _ (by intro k hk; exact Bar3.new HP.out k (Nat.le_trans hS0.2.1 hk)) (by exact HAQ.out)).mono ?_; rintro e w1 ⟨v1, rfl, hv1, hi1, hb1⟩; have hS1 := hS0.drew.next hb1 (Nat.le_refl _); obtain ⟨c0, c1, c2, c3, c4, c5, c6, c7⟩ := hS1.cells; obtain ⟨a1, m1, k1, rfl⟩ := hv1.slice) | (go_at_call 97; refine (limbs_any (Bar3 P w) _ b _ (by intro k hk; exact Bar3.new HP.out k (Nat.le_trans hS1.2.1 hk)) (by exact HB.out.bar3 hS1.1)).mono ?_; rintro e w2 ⟨v2, rfl, hv2, hi2, hb2⟩; have hS2 := hS1.next hb2 (Nat.le_refl _); obtain ⟨d0, d1, d2, d3, d4, d5, d6, d7⟩ := hS2.cells; obtain ⟨a2, m2, k2, rfl⟩ := hv2.slice))
    have HT := Lib.hid (show Two (Bar3 P w) w2 (.slice a1 m1 k1) (.slice a2 m2 k2) a.natAbs b.natAbs from ⟨hv1.kept hi1 (.all hb2), hv2, hi1, hi2⟩)
    have HAR := Lib.hid (HAQ.out.kept (.all hb1) |>.kept (.all hb2))
    clear c0 c1 c2 c3 c4 c5 c6 c7 hv1 hv2 hi1 hi2 hb1 hb2 hS1 hS0 HAQ HBQ
    have HBR := Lib.hid (HB.out.bar3 hS2.1)
    go_wp2_with fail
    go_region_held3 (fun w' => w'.cell? ⟨w.heap.size, 0, none⟩ = some (.int .i64 s1) ∧ w'.cell? ⟨w.heap.size, 1, none⟩ = some (.pointer p1) ∧ w'.cell? ⟨w.heap.size + 1, 0, none⟩ = some (.int .i64 s2) ∧ w'.cell? ⟨w.heap.size + 1, 1, none⟩ = some (.pointer p2))
      (first | ((try dsimp only); (repeat' apply And.intro); all_goals assumption) | go_keep)
      (first | (go_at_call 95; refine (isNegative_any (Bar3 P w) _ a _ (by exact HAR.out.kept (.drew _ _))).mono ?_; rintro e w3 ⟨rfl, hb3⟩; rw [HNA.out]; have hS3 := hS2.drew.next hb3 (Nat.le_refl _); obtain ⟨c0, c1, c2, c3, c4, c5, c6, c7⟩ := hS3.cells) | (go_at_call 95; refine (isNegative_any (Bar3 P w) _ b _ (by exact HB.out.bar3 hS3.1)).mono ?_; rintro e w4 ⟨rfl, hb4⟩; rw [HNB.out]; have hS4 := hS3.next hb4 (Nat.le_refl _); obtain ⟨e0, e1, e2, e3, e4, e5, e6, e7⟩ := hS4.cells))
    have HT4 := Lib.hid ((HT.out.kept (.drew _ _)).kept (.all hb3) |>.kept (.all hb4))
    have HA4 := Lib.hid ((HAR.out.kept (.drew _ _)).kept (.all hb3) |>.kept (.all hb4))
    have HB4 := Lib.hid (HB.out.bar3 hS4.1)
    clear c0 c1 c2 c3 c4 c5 c6 c7 d0 d1 d2 d3 d4 d5 d6 d7 hb3 hb4 hS2 hS3 HT HAR HBR
    cases hn : (na == nb)
    · go_wp2_with fail
      refine (compare_any _ _ _ _ _ HT4.out.1 HT4.out.2.1).mono ?_
      rintro e w5 ⟨rfl, n, rfl⟩
      obtain ⟨r, hr⟩ : ∃ r, sgn a.natAbs b.natAbs = r := ⟨_, rfl⟩
      rw [hr]
      have HR := Lib.hid hr
      have HN := Lib.hid hn
      clear hr hn
      have hS5 := hS4.drewN n
      obtain ⟨f0, f1, f2, f3, f4, f5, f6, f7⟩ := hS5.cells
      clear e0 e1 e2 e3 e4 e5 e6 e7
      cases hlt : decide (r < 0)
      · have HLE : Hid (b.natAbs ≤ a.natAbs) := Lib.hid (by have := HR.out; unfold sgn at this; simp at hlt; split at this <;> (try split at this) <;> omega)
        have HV : Hid (sz na (a.natAbs - b.natAbs) = a + b) := Lib.hid (by rw [← HNA.out]; exact add_more a b (by rw [HNA.out, HNB.out]; exact HN.out) HLE.out)
        go_wp2_with fail
        refine (isNegative_any (Bar3 P w) _ a _ (HA4.out.kept (.drewN _ _ _))).mono ?_
        rintro e w6 ⟨rfl, hb6⟩
        rw [HNA.out]
        have hS6 := hS5.next hb6 (Nat.le_refl _)
        have HT6 := Lib.hid ((HT4.out.kept (.drewN _ _ n)).kept (.all hb6))
        obtain ⟨g0, g1, g2, g3, g4, g5, g6, g7⟩ := hS6.cells
        clear f0 f1 f2 f3 f4 f5 f6 f7 hb6
        go_wp2_with fail
        refine (difference_any _ _ a.natAbs b.natAbs _ HT6.out.1 HT6.out.2.1 la HLE.out).mono ?_
        rintro e w7 ⟨v, rfl, hv, hf, hb7⟩
        have hS7 := hS6.next hb7 (Nat.le_refl _)
        have HVV := Lib.hid hv
        have HF := Lib.hid (In.fresh (P := Bar3 P w) hf (by intro k hk; exact Bar3.new HP.out k (Nat.le_trans hS6.2.1 hk)))
        clear hv hf hb7 g0 g1 g2 g3 g4 g5 g6 g7
        go_wp2_with fail
        refine (signed_any (Bar3 P w) na _ _ _ (by intro k hk; exact Bar3.new HP.out k (Nat.le_trans hS7.2.1 hk)) HVV.out HF.out).mono ?_
        rintro e w8 ⟨v8, rfl, hv, hb8⟩
        rw [HV.out] at hv
        have hS8 := hS7.next hb8 (Nat.le_refl _)
        obtain ⟨s, p, rfl⟩ := hv.form
        obtain ⟨g0, g1, g2, g3, g4, g5, g6, g7⟩ := hS8.cells
        have HW := Lib.hid hv
        clear hv hb8
        go_wp2
        refine bodyPost_ret (v := .agg #[.int .i64 s, .pointer p]) (by simp [results, Tryz.results92, go_sem, g4, g5]) rfl ?_
        exact IntPost.three hS8.1 HW.out
      · have HLE : Hid (a.natAbs ≤ b.natAbs) := Lib.hid (by have := HR.out; unfold sgn at this; simp at hlt; split at this <;> (try split at this) <;> omega)
        have HV : Hid (sz nb (b.natAbs - a.natAbs) = a + b) := Lib.hid (by rw [← HNB.out]; exact add_less a b (by rw [HNA.out, HNB.out]; exact HN.out) HLE.out)
        go_wp2_with fail
        refine (isNegative_any (Bar3 P w) _ b _ (HB4.out.kept (.drewN _ _ _))).mono ?_
        rintro e w6 ⟨rfl, hb6⟩
        rw [HNB.out]
        have hS6 := hS5.next hb6 (Nat.le_refl _)
        have HT6 := Lib.hid ((HT4.out.kept (.drewN _ _ n)).kept (.all hb6))
        obtain ⟨g0, g1, g2, g3, g4, g5, g6, g7⟩ := hS6.cells
        clear f0 f1 f2 f3 f4 f5 f6 f7 hb6
        go_wp2_with fail
        refine (difference_any _ _ b.natAbs a.natAbs _ HT6.out.2.1 HT6.out.1 lb HLE.out).mono ?_
        rintro e w7 ⟨v, rfl, hv, hf, hb7⟩
        have hS7 := hS6.next hb7 (Nat.le_refl _)
        have HVV := Lib.hid hv
        have HF := Lib.hid (In.fresh (P := Bar3 P w) hf (by intro k hk; exact Bar3.new HP.out k (Nat.le_trans hS6.2.1 hk)))
        clear hv hf hb7 g0 g1 g2 g3 g4 g5 g6 g7
        go_wp2_with fail
        refine (signed_any (Bar3 P w) nb _ _ _ (by intro k hk; exact Bar3.new HP.out k (Nat.le_trans hS7.2.1 hk)) HVV.out HF.out).mono ?_
        rintro e w8 ⟨v8, rfl, hv, hb8⟩
        rw [HV.out] at hv
        have hS8 := hS7.next hb8 (Nat.le_refl _)
        obtain ⟨s, p, rfl⟩ := hv.form
        obtain ⟨g0, g1, g2, g3, g4, g5, g6, g7⟩ := hS8.cells
        have HW := Lib.hid hv
        clear hv hb8
        go_wp2
        refine bodyPost_ret (v := .agg #[.int .i64 s, .pointer p]) (by simp [results, Tryz.results92, go_sem, g4, g5]) rfl ?_
        exact IntPost.three hS8.1 HW.out
    · have HV : Hid (sz na (a.natAbs + b.natAbs) = a + b) := Lib.hid (by rw [← HNA.out]; exact add_same a b (by rw [HNA.out, HNB.out]; exact eq_of_beq hn))
      go_wp2_with fail
      refine (isNegative_any (Bar3 P w) _ a _ HA4.out).mono ?_
      rintro e w6 ⟨rfl, hb6⟩
      rw [HNA.out]
      have hS6 := hS4.next hb6 (Nat.le_refl _)
      have HT6 := Lib.hid (HT4.out.kept (.all hb6))
      obtain ⟨g0, g1, g2, g3, g4, g5, g6, g7⟩ := hS6.cells
      clear e0 e1 e2 e3 e4 e5 e6 e7 hb6
      go_wp2_with fail
      refine (sum_any _ _ a.natAbs b.natAbs _ HT6.out.1 HT6.out.2.1 la lb).mono ?_
      rintro e w7 ⟨v, rfl, hv, hf, hb7⟩
      have hS7 := hS6.next hb7 (Nat.le_refl _)
      have HVV := Lib.hid hv
      have HF := Lib.hid (In.fresh (P := Bar3 P w) hf (by intro k hk; exact Bar3.new HP.out k (Nat.le_trans hS6.2.1 hk)))
      clear hv hf hb7 g0 g1 g2 g3 g4 g5 g6 g7
      go_wp2_with fail
      refine (signed_any (Bar3 P w) na _ _ _ (by intro k hk; exact Bar3.new HP.out k (Nat.le_trans hS7.2.1 hk)) HVV.out HF.out).mono ?_
      rintro e w8 ⟨v8, rfl, hv, hb8⟩
      rw [HV.out] at hv
      have hS8 := hS7.next hb8 (Nat.le_refl _)
      obtain ⟨s, p, rfl⟩ := hv.form
      obtain ⟨g0, g1, g2, g3, g4, g5, g6, g7⟩ := hS8.cells
      have HW := Lib.hid hv
      clear hv hb8
      go_wp2
      refine bodyPost_ret (v := .agg #[.int .i64 s, .pointer p]) (by simp [results, Tryz.results92, go_sem, g4, g5]) rfl ?_
      exact IntPost.three hS8.1 HW.out

theorem Plus_any (P : Nat → Prop) (x y : Value) (a b : Int) (w : World) (hP : ∀ k, w.heap.size ≤ k → P k) (ha : IsInt P w x a) (hb : IsInt P w y b)
    (la : (Nm.ds 1000000000 a.natAbs).length ≤ 1000) (lb : (Nm.ds 1000000000 b.natAbs).length ≤ 1000) :
    Calls Tryz.prog 92 #[x, y] w (IntPost P (a + b) w) := by
  obtain ⟨s1, p1, rfl⟩ := ha.form
  obtain ⟨s2, p2, rfl⟩ := hb.form
  exact Plus_int P s1 s2 p1 p2 a b w hP ha hb la lb

end Go.Proofs.YtpnofebhpeiepaaGreatDoor
