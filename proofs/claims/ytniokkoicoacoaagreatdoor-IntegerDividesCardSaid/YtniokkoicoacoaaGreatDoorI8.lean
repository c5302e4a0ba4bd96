/- What readBoth does. -/
import Derived.Test.YtniokkoicoacoaaGreatDoorI7
set_option linter.unusedVariables false
set_option linter.unusedSimpArgs false
namespace Go.Proofs.YtniokkoicoacoaaGreatDoor
open Go.RowKit _root_.Go.Proofs.YtniokkoicoacoaaGreatDoor.Nm

/-- Two integers, or two zeros and false. -/
def BothPost (P : Nat → Prop) (s t : ByteArray) (w : World) (e : Ending) (w' : World) : Prop :=
  ∃ s1 p1 s2 p2, e = .returned (.tuple #[.agg #[.int .i64 s1, .pointer p1], .agg #[.int .i64 s2, .pointer p2], .bool (canon s.data.toList && canon t.data.toList)]) ∧
    ((canon s.data.toList && canon t.data.toList) = true → IsInt P w' (.agg #[.int .i64 s1, .pointer p1]) (zv s.data.toList) ∧ IsInt P w' (.agg #[.int .i64 s2, .pointer p2]) (zv t.data.toList)) ∧ Below w.heap.size w w'

theorem pair_kept {Q : Nat → Prop} (w1 : World) (g : Nat) (x0 x1 y0 y1 : Value) (hg : ¬ Q g) (hg1 : ¬ Q (g + 1)) : Kept Q w1 ((((w1.setCell ⟨g, 0, none⟩ x0).setCell ⟨g, 1, none⟩ x1).setCell ⟨g + 1, 0, none⟩ y0).setCell ⟨g + 1, 1, none⟩ y1) :=
  (((Kept.set w1 g 0 x0 hg).trans (.set _ g 1 x1 hg)).trans (.set _ (g + 1) 0 y0 hg1)).trans (.set _ (g + 1) 1 y1 hg1)

theorem pair_below (w1 : World) (g : Nat) (x0 x1 y0 y1 : Value) : Below g w1 ((((w1.setCell ⟨g, 0, none⟩ x0).setCell ⟨g, 1, none⟩ x1).setCell ⟨g + 1, 0, none⟩ y0).setCell ⟨g + 1, 1, none⟩ y1) :=
  ((((Only.refl g w1).set 0 x0).set 1 x1).below (Nat.le_refl _)).trans ((((Only.refl (g + 1) _).set 0 y0).set 1 y1).below (Nat.le_succ _))

/-- Two boxes stand behind w's end. -/
def St2 (w W : World) (x0 x1 y0 y1 : Value) : Prop := Below w.heap.size w W ∧ w.heap.size + 2 ≤ W.heap.size ∧ Bx W w.heap.size x0 x1 ∧ Bx W (w.heap.size + 1) y0 y1
theorem St2.start (w : World) (x0 x1 y0 y1 : Value) (T1 T2 : TypeId) : St2 w ((w.alloc (.cells #[x0, x1] T1)).alloc (.cells #[y0, y1] T2)) x0 x1 y0 y1 :=
  ⟨boxes2 _ _ _, by simp, (Bx.new w x0 x1 T1).alloc _, second_box w _ y0 y1 T2 ()⟩
theorem St2.next {w W W' : World} {x0 x1 y0 y1 : Value} {B : Nat} (h : St2 w W x0 x1 y0 y1) (hb : Below B W W') (hB : W.heap.size ≤ B) : St2 w W' x0 x1 y0 y1 := by
  obtain ⟨h1, h2, h3, h4⟩ := h
  exact ⟨h1.trans (hb.mono (by omega)), Nat.le_trans h2 hb.size, h3.below hb (by have := h3.lt; omega), h4.below hb (by have := h4.lt; omega)⟩
theorem St2.drew {w W : World} {x0 x1 y0 y1 : Value} (h : St2 w W x0 x1 y0 y1) : St2 w W.drew x0 x1 y0 y1 := ⟨h.1.drew, h.2.1, h.2.2.1.drew, h.2.2.2.drew⟩
theorem St2.cells {w W : World} {x0 x1 y0 y1 : Value} (h : St2 w W x0 x1 y0 y1) :
    W.cell? ⟨w.heap.size, 0, none⟩ = some x0 ∧ W.cell? ⟨w.heap.size, 1, none⟩ = some x1 ∧ W.cell? ⟨w.heap.size + 1, 0, none⟩ = some y0 ∧ W.cell? ⟨w.heap.size + 1, 1, none⟩ = some y1 ∧
    W.frozen? ⟨w.heap.size, 0, none⟩ = false ∧ W.frozen? ⟨w.heap.size, 1, none⟩ = false ∧ W.frozen? ⟨w.heap.size + 1, 0, none⟩ = false ∧ W.frozen? ⟨w.heap.size + 1, 1, none⟩ = false := by
  obtain ⟨_, _, h3, h4⟩ := h
  exact ⟨h3.cell.1, h3.cell.2.1, h4.cell.1, h4.cell.2.1, h3.cell.2.2.1, h3.cell.2.2.2, h4.cell.2.2.1, h4.cell.2.2.2⟩
/-- P, but not the two boxes. -/
def Bar2 (P : Nat → Prop) (w : World) (k : Nat) : Prop := P k ∧ (k < w.heap.size ∨ w.heap.size + 2 ≤ k)
theorem Bar2.new {P : Nat → Prop} {w : World} (hP : ∀ k, w.heap.size ≤ k → P k) (k : Nat) (hk : w.heap.size + 2 ≤ k) : Bar2 P w k := ⟨hP k (by omega), .inr hk⟩
theorem IsInt.bar2 {P : Nat → Prop} {w W : World} {v : Value} {z : Int} (h : IsInt P w v z) (hb : Below w.heap.size w W) : IsInt (Bar2 P w) W v z :=
  (h.mono (fun k hk hp => (⟨hp, .inl hk⟩ : Bar2 P w k))).kept (.all hb)

set_option maxHeartbeats 1600000 in
theorem readBoth_bad (P : Nat → Prop) (s t : ByteArray) (w : World) (h : (canon s.data.toList && canon t.data.toList) = false) :
    Calls Tryz.prog 36 #[.string s, .string t] w (BothPost P s t w) := by
  cases hs : canon s.data.toList
  · have H : Hid (canon s.data.toList = false) := Lib.hid hs
    have HH := Lib.hid h
    clear h hs
    go_enter Tryz.func36, Tryz.ntmps36
    go_wp2_with (go_at_call 10; refine (Valid_any _ _).mono ?_; rintro e w' ⟨rfl, rfl⟩; rw [H.out])
    refine bodyPost_ret (v := .tuple #[.agg #[.int .i64 0, .pointer none], .agg #[.int .i64 0, .pointer none], .bool false]) (by simp [results, Tryz.results36, go_sem]) rfl ?_
    exact ⟨0, none, 0, none, by rw [HH.out], (fun h2 => by rw [HH.out] at h2; cases h2), boxes2 _ _ _⟩
  · rw [hs, Bool.true_and] at h
    have H : Hid (canon s.data.toList = true) := Lib.hid hs
    have H2 : Hid (canon t.data.toList = false) := Lib.hid h
    have HH : Hid ((canon s.data.toList && canon t.data.toList) = false) := Lib.hid (by rw [hs, h]; rfl)
    clear h hs
    go_enter Tryz.func36, Tryz.ntmps36
    go_wp2_with fail
    refine (Valid_any _ _).mono ?_
    rintro e w' ⟨rfl, rfl⟩
    rw [H.out]
    go_wp2_with fail
    refine (Valid_any _ _).mono ?_
    rintro e w' ⟨rfl, rfl⟩
    rw [H2.out]
    go_wp2
    refine bodyPost_ret (v := .tuple #[.agg #[.int .i64 0, .pointer none], .agg #[.int .i64 0, .pointer none], .bool false]) (by simp [results, Tryz.results36, go_sem]) rfl ?_
    exact ⟨0, none, 0, none, by rw [HH.out], (fun h2 => by rw [HH.out] at h2; cases h2), boxes2 _ _ _⟩

set_option maxRecDepth 100000 in
set_option maxHeartbeats 1600000 in
theorem readBoth_good (P : Nat → Prop) (s t : ByteArray) (w : World) (hP : ∀ k, w.heap.size ≤ k → P k) (hs : canon s.data.toList = true) (ht : canon t.data.toList = true) :
    Calls Tryz.prog 36 #[.string s, .string t] w (BothPost P s t w) := by
  have H : Hid (canon s.data.toList = true) := Lib.hid hs
  have H2 : Hid (canon t.data.toList = true) := Lib.hid ht
  have HH : Hid ((canon s.data.toList && canon t.data.toList) = true) := Lib.hid (by rw [hs, ht]; rfl)
  have HP := Lib.hid hP
  clear hs ht hP
  go_enter Tryz.func36, Tryz.ntmps36
  go_wp2_with fail
  refine (Valid_any _ _).mono ?_
  rintro e w' ⟨rfl, rfl⟩
  rw [H.out]
  go_wp2_with fail
  refine (Valid_any _ _).mono ?_
  rintro e w' ⟨rfl, rfl⟩
  rw [H2.out]
  have hS0 := St2.start w (.int .i64 0) (.pointer none) (.int .i64 0) (.pointer none) 52 52
  go_wp2_with fail
  refine (Read_any (Bar2 P w) s H.out _ (by intro k hk; exact Bar2.new HP.out k (Nat.le_trans hS0.2.1 hk))).mono ?_
  rintro e w1 ⟨v1, rfl, hv1, hb1⟩
  have hS1 := hS0.next hb1 (Nat.le_refl _)
  obtain ⟨s1, p1, rfl⟩ := hv1.form
  have HV1 := Lib.hid hv1
  clear hv1 hb1
  go_wp2_with fail
  refine (Read_any (Bar2 P w) t H2.out _ (by intro k hk; exact Bar2.new HP.out k (Nat.le_trans hS1.2.1 hk))).mono ?_
  rintro e w2 ⟨v2, rfl, hv2, hb2⟩
  have hS2 := hS1.next hb2 (Nat.le_refl _)
  obtain ⟨s2, p2, rfl⟩ := hv2.form
  have HV2 := Lib.hid hv2
  have HV3 := Lib.hid (HV1.out.kept (.all hb2))
  obtain ⟨c0, c1, c2, c3, c4, c5, c6, c7⟩ := hS2.cells
  clear hv2 hb2
  go_wp2
  refine bodyPost_ret (v := .tuple #[.agg #[.int .i64 s1, .pointer p1], .agg #[.int .i64 s2, .pointer p2], .bool true]) (by simp [results, Tryz.results36, go_sem, c0, c1, c2, c3]) rfl ?_
  have hk := pair_kept (Q := Bar2 P w) w2 w.heap.size (.int .i64 s1) (.pointer p1) (.int .i64 s2) (.pointer p2) (fun h => by have := h.2; omega) (fun h => by have := h.2; omega)
  exact ⟨s1, p1, s2, p2, by rw [HH.out], (fun _ => ⟨(HV3.out.kept hk).mono (fun k _ h => h.1), (HV2.out.kept hk).mono (fun k _ h => h.1)⟩), hS2.1.trans (pair_below _ _ _ _ _ _)⟩

theorem readBoth_any (P : Nat → Prop) (s t : ByteArray) (w : World) (hP : ∀ k, w.heap.size ≤ k → P k) :
    Calls Tryz.prog 36 #[.string s, .string t] w (BothPost P s t w) := by
  cases hs : canon s.data.toList
  · exact readBoth_bad P s t w (by rw [hs]; rfl)
  · cases ht : canon t.data.toList
    · exact readBoth_bad P s t w (by rw [hs, ht]; rfl)
    · exact readBoth_good P s t w hP hs ht

end Go.Proofs.YtniokkoicoacoaaGreatDoor
