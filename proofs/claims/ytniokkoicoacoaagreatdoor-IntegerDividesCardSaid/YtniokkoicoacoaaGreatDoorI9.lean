/- What Add, Sub, Mul, Of and Neg do. -/
import Derived.Test.YtniokkoicoacoaaGreatDoorI8
set_option linter.unusedVariables false
set_option linter.unusedSimpArgs false
namespace Go.Proofs.YtniokkoicoacoaaGreatDoor
open Go.RowKit _root_.Go.Proofs.YtniokkoicoacoaaGreatDoor.Nm

/-- An integer of at most K digits. -/
def Ten (K : Nat) (z : Int) : Prop := ∃ k, k ≤ K ∧ z.natAbs < 10 ^ k

theorem Ten.mono {K L : Nat} {z : Int} (h : Ten K z) (hl : K ≤ L) : Ten L z := by
  obtain ⟨k, h1, h2⟩ := h
  exact ⟨k, Nat.le_trans h1 hl, h2⟩
theorem Ten.neg {K : Nat} {z : Int} (h : Ten K z) : Ten K (-z) := by
  obtain ⟨k, h1, h2⟩ := h
  exact ⟨k, h1, by rwa [Int.natAbs_neg]⟩
theorem Ten.mul {K L : Nat} {a b : Int} (h : Ten K a) (h' : Ten L b) : Ten (K + L) (a * b) := by
  obtain ⟨k, h1, h2⟩ := h
  obtain ⟨l, h3, h4⟩ := h'
  refine ⟨k + l, by omega, ?_⟩
  rw [Int.natAbs_mul, Nat.pow_add]
  exact Nat.mul_lt_mul'' h2 h4
theorem ten_up (k K n : Nat) (h : k ≤ K) (hn : n < 10 ^ k) : n < 10 ^ K := Nat.lt_of_lt_of_le hn (Nat.pow_le_pow_right (by omega) h)
theorem Ten.add {K : Nat} {a b : Int} (h : Ten K a) (h' : Ten K b) : Ten (K + 1) (a + b) := by
  obtain ⟨k, h1, h2⟩ := h
  obtain ⟨l, h3, h4⟩ := h'
  refine ⟨K + 1, by omega, ?_⟩
  have e1 := ten_up _ _ _ h1 h2
  have e2 := ten_up _ _ _ h3 h4
  have e3 := Int.natAbs_add_le a b
  rw [Nat.pow_succ]
  generalize 10 ^ K = X at *
  omega
theorem Ten.sub {K : Nat} {a b : Int} (h : Ten K a) (h' : Ten K b) : Ten (K + 1) (a - b) := by
  rw [Int.sub_eq_add_neg]; exact h.add h'.neg
theorem ds_ten (m k n : Nat) (h : n < 10 ^ k) (hk : k ≤ 9 * m) : (ds 1000000000 n).length ≤ m := by
  refine ds_length_le _ (by omega) n m (Nat.lt_of_lt_of_le h ?_)
  rw [show 1000000000 = 10 ^ 9 from rfl, ← Nat.pow_mul]
  exact Nat.pow_le_pow_right (by omega) hk
theorem Ten.ds {K : Nat} {z : Int} (h : Ten K z) (hK : K ≤ 9000) : (ds 1000000000 z.natAbs).length ≤ 1000 := by
  obtain ⟨k, h1, h2⟩ := h
  exact ds_ten 1000 k _ h2 (by omega)
theorem zv_ten (l : List UInt8) (h : canon l = true) : Ten 400 (zv l) := by
  by_cases h45 : l.head? = some 45
  · obtain ⟨r, rfl⟩ := cons_of_head l h45
    rw [canon_neg] at h
    simp only [Bool.and_eq_true, decide_eq_true_eq] at h
    have h1 := tv_lt r (canonN_parts h.1.1).1
    exact ⟨r.length, h.2, by rw [zv_neg, show (-(tv r : Int)).natAbs = tv r from by omega]; exact h1⟩
  · rw [canon_pos l h45] at h
    simp only [Bool.and_eq_true, decide_eq_true_eq] at h
    have h1 := tv_lt l (canonN_parts h.1).1
    exact ⟨l.length, h.2, by rw [zv_pos l h45, Int.natAbs_natCast]; exact h1⟩

/-- What an operation returns whose result is r. -/
def opVal (s t : ByteArray) (r : Int) : Value :=
  if (canon s.data.toList && canon t.data.toList) = true then (if canon (Lib.itoa r) = true then .tuple #[.string ⟨(Lib.itoa r).toArray⟩, .int .i64 0] else .tuple #[.string ⟨#[]⟩, .int .i64 5]) else .tuple #[.string ⟨#[]⟩, .int .i64 3]

/-- All blocks. -/
def Ev (k : Nat) : Prop := True
theorem Ev.all {w : World} (k : Nat) (hk : w.heap.size ≤ k) : Ev k := trivial

/-- The function f computes op of the integers of two texts. -/
def OpIs (f : Nat) (s t : ByteArray) (r : Int) : Prop :=
  ∀ (x y : Value) (w : World), IsInt Ev w x (zv s.data.toList) → IsInt Ev w y (zv t.data.toList) → Calls Tryz.prog f #[x, y] w (IntPost Ev r w)

set_option maxRecDepth 100000 in
set_option maxHeartbeats 800000 in
theorem combine_bad (f : Nat) (s t : ByteArray) (w : World) (h : (canon s.data.toList && canon t.data.toList) = false) :
    Calls Tryz.prog 28 #[.string s, .string t, .func (.func f) #[] #[]] w fun e w' => e = .returned (.tuple #[.string ⟨#[]⟩, .int .i64 3]) ∧ Below w.heap.size w w' := by
  have H := Lib.hid h
  clear h
  go_enter Tryz.func28, Tryz.ntmps28
  go_wp2_with fail
  refine (readBoth_any Ev s t _ Ev.all).mono ?_
  rintro e w1 ⟨s1, p1, s2, p2, rfl, h1, hb⟩
  rw [H.out]
  have HB := Lib.hid hb
  clear h1 hb
  go_wp2
  go_ret2
  exact ⟨rfl, ((HB.out.alloc HB.out.size _).alloc (by have := HB.out.size; simp; omega) _)⟩

set_option maxRecDepth 100000 in
set_option maxHeartbeats 1600000 in
theorem combine_plus (s t : ByteArray) (r : Int) (w : World) (hs : canon s.data.toList = true) (ht : canon t.data.toList = true) (hop : OpIs 29 s t r) (ln : (ds 1000000000 r.natAbs).length ≤ 1000) (htab : Tab w) (b : Bool) (hc : canon (Lib.itoa r) = b) :
    Calls Tryz.prog 28 #[.string s, .string t, .func (.func 29) #[] #[]] w fun e w' => e = .returned (if b = true then .tuple #[.string ⟨(Lib.itoa r).toArray⟩, .int .i64 0] else .tuple #[.string ⟨#[]⟩, .int .i64 5]) ∧ Below w.heap.size w w' := by
  have H : Hid ((canon s.data.toList && canon t.data.toList) = true) := Lib.hid (by rw [hs, ht]; rfl)
  have HOP := Lib.hid hop
  have HT := Lib.hid htab
  have HC := Lib.hid hc
  clear hop htab hs ht hc
  go_enter Tryz.func28, Tryz.ntmps28
  go_wp2_with fail
  refine (readBoth_any Ev s t _ Ev.all).mono ?_
  rintro e w1 ⟨s1, p1, s2, p2, rfl, h1, hb⟩
  have H1 := Lib.hid (h1 H.out)
  rw [H.out]
  have HB := Lib.hid hb
  clear h1 hb
  go_wp2_with fail
  refine (HOP.out _ _ _ (H1.out.1.kept (.all (boxes2 w1 _ _))) (H1.out.2.kept (.all (boxes2 w1 _ _)))).mono ?_
  rintro e w2 ⟨v, rfl, hv, hb2⟩
  have HB2 := Lib.hid (HB.out.trans ((boxes2 w1 _ _).trans (hb2.mono (by simp; omega)) |>.mono HB.out.size))
  have HV := Lib.hid hv
  obtain ⟨s3, p3, rfl⟩ := hv.form
  clear hv hb2
  go_wp2_with fail
  refine (Text_any Ev _ r w2 HV.out ln (tab_keep HT.out HB2.out)).mono ?_
  rintro e w3 ⟨rfl, hb3⟩
  have HB3 := Lib.hid (HB2.out.trans (hb3.mono HB2.out.size))
  clear hb3
  cases b
  · go_wp2_with fail
    refine (Valid_any _ _).mono ?_
    rintro e w4 ⟨rfl, rfl⟩
    rw [HC.out]
    go_wp2
    go_ret2
    exact ⟨rfl, HB3.out⟩
  · go_wp2_with fail
    refine (Valid_any _ _).mono ?_
    rintro e w4 ⟨rfl, rfl⟩
    rw [HC.out]
    go_wp2
    go_ret2
    exact ⟨rfl, HB3.out⟩

set_option maxHeartbeats 800000 in
theorem Add_any (s t : ByteArray) (w : World) (htab : Tab w) :
    Calls Tryz.prog 8 #[.string s, .string t] w fun e w' => e = .returned (opVal s t (zv s.data.toList + zv t.data.toList)) ∧ Below w.heap.size w w' := by
  unfold opVal
  cases hst : (canon s.data.toList && canon t.data.toList)
  · have H := Lib.hid (combine_bad 29 s t w hst)
    clear hst
    go_enter Tryz.func8, Tryz.ntmps8
    go_wp2_with fail
    refine H.out.mono ?_
    rintro e w1 ⟨rfl, hb⟩
    go_wp2
    go_ret2
    exact ⟨rfl, hb⟩
  · obtain ⟨hs, ht⟩ := Bool.and_eq_true_iff.1 hst
    have h := fun b => combine_plus s t (zv s.data.toList + zv t.data.toList) w hs ht (fun x y w' hx hy => Plus_any Ev x y _ _ w' Ev.all hx hy ((zv_ten _ hs).ds (by omega)) ((zv_ten _ ht).ds (by omega))) (Ten.ds (Ten.add (zv_ten _ hs) (zv_ten _ ht)) (by omega)) htab b
    clear hst
    generalize zv s.data.toList + zv t.data.toList = r at h ⊢
    cases hc : canon (Lib.itoa r)
    · have H := Lib.hid (h false hc)
      clear h
      go_enter Tryz.func8, Tryz.ntmps8
      go_wp2_with fail
      refine H.out.mono ?_
      rintro e w1 ⟨rfl, hb⟩
      go_wp2
      go_ret2
      exact ⟨rfl, hb⟩
    · have H := Lib.hid (h true hc)
      clear h
      go_enter Tryz.func8, Tryz.ntmps8
      go_wp2_with fail
      refine H.out.mono ?_
      rintro e w1 ⟨rfl, hb⟩
      go_wp2
      go_ret2
      exact ⟨rfl, hb⟩

set_option maxRecDepth 100000 in
set_option maxHeartbeats 1600000 in
theorem combine_minus (s t : ByteArray) (r : Int) (w : World) (hs : canon s.data.toList = true) (ht : canon t.data.toList = true) (hop : OpIs 30 s t r) (ln : (ds 1000000000 r.natAbs).length ≤ 1000) (htab : Tab w) (b : Bool) (hc : canon (Lib.itoa r) = b) :
    Calls Tryz.prog 28 #[.string s, .string t, .func (.func 30) #[] #[]] w fun e w' => e = .returned (if b = true then .tuple #[.string ⟨(Lib.itoa r).toArray⟩, .int .i64 0] else .tuple #[.string ⟨#[]⟩, .int .i64 5]) ∧ Below w.heap.size w w' := by
  have H : Hid ((canon s.data.toList && canon t.data.toList) = true) := Lib.hid (by rw [hs, ht]; rfl)
  have HOP := Lib.hid hop
  have HT := Lib.hid htab
  have HC := Lib.hid hc
  clear hop htab hs ht hc
  go_enter Tryz.func28, Tryz.ntmps28
  go_wp2_with fail
  refine (readBoth_any Ev s t _ Ev.all).mono ?_
  rintro e w1 ⟨s1, p1, s2, p2, rfl, h1, hb⟩
  have H1 := Lib.hid (h1 H.out)
  rw [H.out]
  have HB := Lib.hid hb
  clear h1 hb
  go_wp2_with fail
  refine (HOP.out _ _ _ (H1.out.1.kept (.all (boxes2 w1 _ _))) (H1.out.2.kept (.all (boxes2 w1 _ _)))).mono ?_
  rintro e w2 ⟨v, rfl, hv, hb2⟩
  have HB2 := Lib.hid (HB.out.trans ((boxes2 w1 _ _).trans (hb2.mono (by simp; omega)) |>.mono HB.out.size))
  have HV := Lib.hid hv
  obtain ⟨s3, p3, rfl⟩ := hv.form
  clear hv hb2
  go_wp2_with fail
  refine (Text_any Ev _ r w2 HV.out ln (tab_keep HT.out HB2.out)).mono ?_
  rintro e w3 ⟨rfl, hb3⟩
  have HB3 := Lib.hid (HB2.out.trans (hb3.mono HB2.out.size))
  clear hb3
  cases b
  · go_wp2_with fail
    refine (Valid_any _ _).mono ?_
    rintro e w4 ⟨rfl, rfl⟩
    rw [HC.out]
    go_wp2
    go_ret2
    exact ⟨rfl, HB3.out⟩
  · go_wp2_with fail
    refine (Valid_any _ _).mono ?_
    rintro e w4 ⟨rfl, rfl⟩
    rw [HC.out]
    go_wp2
    go_ret2
    exact ⟨rfl, HB3.out⟩

set_option maxHeartbeats 800000 in
theorem Sub_any (s t : ByteArray) (w : World) (htab : Tab w) :
    Calls Tryz.prog 9 #[.string s, .string t] w fun e w' => e = .returned (opVal s t (zv s.data.toList - zv t.data.toList)) ∧ Below w.heap.size w w' := by
  unfold opVal
  cases hst : (canon s.data.toList && canon t.data.toList)
  · have H := Lib.hid (combine_bad 30 s t w hst)
    clear hst
    go_enter Tryz.func9, Tryz.ntmps9
    go_wp2_with fail
    refine H.out.mono ?_
    rintro e w1 ⟨rfl, hb⟩
    go_wp2
    go_ret2
    exact ⟨rfl, hb⟩
  · obtain ⟨hs, ht⟩ := Bool.and_eq_true_iff.1 hst
    have h := fun b => combine_minus s t (zv s.data.toList - zv t.data.toList) w hs ht (fun x y w' hx hy => Minus_any Ev x y _ _ w' Ev.all hx hy ((zv_ten _ hs).ds (by omega)) ((zv_ten _ ht).ds (by omega))) (Ten.ds (Ten.sub (zv_ten _ hs) (zv_ten _ ht)) (by omega)) htab b
    clear hst
    generalize zv s.data.toList - zv t.data.toList = r at h ⊢
    cases hc : canon (Lib.itoa r)
    · have H := Lib.hid (h false hc)
      clear h
      go_enter Tryz.func9, Tryz.ntmps9
      go_wp2_with fail
      refine H.out.mono ?_
      rintro e w1 ⟨rfl, hb⟩
      go_wp2
      go_ret2
      exact ⟨rfl, hb⟩
    · have H := Lib.hid (h true hc)
      clear h
      go_enter Tryz.func9, Tryz.ntmps9
      go_wp2_with fail
      refine H.out.mono ?_
      rintro e w1 ⟨rfl, hb⟩
      go_wp2
      go_ret2
      exact ⟨rfl, hb⟩

set_option maxHeartbeats 800000 in
theorem Of_any (n : Int) (h0 : -9223372036854775808 ≤ n) (h1 : n ≤ 9223372036854775807) (w : World) (htab : Tab w) :
    Calls Tryz.prog 27 #[.int .i64 n] w fun e w' => e = .returned (.string ⟨(Lib.itoa n).toArray⟩) ∧ Below w.heap.size w w' := by
  have H := Lib.hid htab
  clear htab
  go_enter Tryz.func27, Tryz.ntmps27
  go_wp2_with fail
  refine (Tryz.strconv_FormatInt_10 n h0 h1 _ H.out).mono ?_
  rintro e w1 ⟨rfl, k, os, rfl⟩
  go_wp2
  go_ret
  exact ⟨rfl, Lib.below_grow _ w (Nat.le_refl _) k os⟩

end Go.Proofs.YtniokkoicoacoaaGreatDoor
