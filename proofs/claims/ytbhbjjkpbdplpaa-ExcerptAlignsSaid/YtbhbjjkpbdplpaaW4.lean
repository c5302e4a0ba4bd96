/- What Excerpt does. -/
import Derived.Test.YtbhbjjkpbdplpaaW3
set_option linter.unusedVariables false
set_option linter.unusedSimpArgs false
namespace Go.Proofs.Ytbhbjjkpbdplpaa
open Go.RowKit

theorem Excerpt_out (s : ByteArray) (a b : Int) (h : a < 0 ∨ b < a ∨ (s.size : Int) < b) (hs : s.size ≤ 4000) (w : World) :
    Calls Try.prog 17 #[.string s, .agg #[.int .i64 a, .int .i64 b]] w fun e w' => e = .returned (.tuple #[.string ⟨#[]⟩, .int .i64 2]) ∧ Below w.heap.size w w' := by
  by_cases h1 : a < 0
  · have d1 : decide (a < 0) = true := by simpa using h1
    clear h
    go_enter Try.func17, Try.ntmps17
    go_wp2
    go_ret2
    exact ⟨rfl, by exact ((Below.refl _ _).alloc (Nat.le_refl _) _).alloc (by simp) _⟩
  · have d1 : decide (a < 0) = false := by simpa using h1
    by_cases h2 : b < a
    · have d2 : decide (b < a) = true := by simpa using h2
      clear h h1
      go_enter Try.func17, Try.ntmps17
      go_wp2
      go_ret2
      exact ⟨rfl, by exact ((Below.refl _ _).alloc (Nat.le_refl _) _).alloc (by simp) _⟩
    · have d2 : decide (b < a) = false := by simpa using h2
      have h3 : (s.size : Int) < b := by omega
      clear h h1 h2
      go_enter Try.func17, Try.ntmps17
      go_wp2
      go_ret2
      exact ⟨rfl, by exact ((Below.refl _ _).alloc (Nat.le_refl _) _).alloc (by simp) _⟩

theorem lineEnd_start (l : List UInt8) (a : Nat) (h : a ≤ l.length) : Ex.lineEnd l (Ex.lineStart l a) = Ex.lineEnd l a := by
  have h1 := Ex.lineStart_le l a
  have h2 := Ex.lineEnd_ge l a
  refine Ex.lineEnd_eq l _ _ (by omega) (Ex.lineEnd_le l a h) (fun i g1 g2 => ?_) (fun g => Ex.lineEnd_at l a g)
  by_cases e : i < a
  · exact Ex.lineStart_none l a i g1 e
  · exact Ex.lineEnd_none l a i (by omega) g2

theorem bytes_line (s : ByteArray) (a : Nat) (h : a ≤ s.size) : s.extract (Ex.lineStart s.data.toList a) (Ex.lineEnd s.data.toList a) = ⟨(Ex.line s.data.toList (Ex.lineStart s.data.toList a)).toArray⟩ := by
  rw [← lineEnd_start _ _ (by rw [Ex.size_len]; exact h), Ex.extract_line]

theorem margin_part (s : ByteArray) (a : Nat) (h : a ≤ s.size) :
    marks Ex.sign (part s (Ex.lineStart s.data.toList a) (a - Ex.lineStart s.data.toList a)) = Ex.margin ((Ex.line s.data.toList (Ex.lineStart s.data.toList a)).take (a - Ex.lineStart s.data.toList a)) := by
  have h1 := Ex.lineStart_le s.data.toList a
  have h2 := Ex.lineEnd_ge s.data.toList a
  have h3 := lineEnd_start s.data.toList a (by rw [Ex.size_len]; exact h)
  have h4 : a - Ex.lineStart s.data.toList a ≤ Ex.lineLen (s.data.toList.drop (Ex.lineStart s.data.toList a)) := by
    unfold Ex.lineEnd at h3 h2; omega
  unfold part Ex.line marks Ex.margin
  rw [List.take_take, Nat.min_eq_left h4]

theorem caret_part (s : ByteArray) (a b : Nat) (h : a ≤ s.size) (hab : a ≤ b) :
    marks (fun _ => 94) (part s a (min b (Ex.lineEnd s.data.toList a) - a)) = Ex.carets (((Ex.line s.data.toList (Ex.lineStart s.data.toList a)).drop (a - Ex.lineStart s.data.toList a)).take (b - a)) := by
  have h1 := Ex.lineStart_le s.data.toList a
  have h2 := Ex.lineEnd_ge s.data.toList a
  have h3 := lineEnd_start s.data.toList a (by rw [Ex.size_len]; exact h)
  have h4 : Ex.lineLen (s.data.toList.drop (Ex.lineStart s.data.toList a)) - (a - Ex.lineStart s.data.toList a) = Ex.lineEnd s.data.toList a - a := by
    rw [← h3]; unfold Ex.lineEnd; omega
  unfold part Ex.line marks Ex.carets
  rw [List.drop_take, List.drop_drop, List.take_take, h4, show Ex.lineStart s.data.toList a + (a - Ex.lineStart s.data.toList a) = a from by omega,
    show min b (Ex.lineEnd s.data.toList a) - a = min (b - a) (Ex.lineEnd s.data.toList a - a) from by omega]

/-- The world in which the writing begins. -/
def W0 (w : World) (s : ByteArray) (a b : Int) (nq : Nat) : World :=
  (((w.alloc (.cells #[.string s] 9)).alloc (.cells #[.int .i64 a, .int .i64 b] 40)).drewN nq).alloc (.cells #[.pointer none, .slice none 0 0] 52)

theorem W0_builder (w : World) (s : ByteArray) (a b : Int) (nq : Nat) : Lib.IsBuilder 52 5 (w.heap.size + 1 + 1) (w.heap.size + 1 + 1) (Lib.byteCells []) (W0 w s a b nq) := by
  have h := Lib.fresh_isBuilder 52 5 (((w.alloc (.cells #[.string s] 9)).alloc (.cells #[.int .i64 a, .int .i64 b] 40)).drewN nq)
  simpa [W0, Lib.byteCells] using h

theorem W0_size (w : World) (s : ByteArray) (a b : Int) (nq : Nat) : (W0 w s a b nq).heap.size = w.heap.size + 3 := by simp [W0]

theorem W0_cells (w : World) (s : ByteArray) (a b : Int) (nq n i : Nat) (hn : n < w.heap.size + 2) :
    (W0 w s a b nq).cell? ⟨n, i, none⟩ = ((w.alloc (.cells #[.string s] 9)).alloc (.cells #[.int .i64 a, .int .i64 b] 40)).cell? ⟨n, i, none⟩ := by
  unfold W0
  rw [World.cell?_alloc_past _ _ _ (by simpa using hn)]
  rfl
theorem W0_src (w : World) (s : ByteArray) (a b : Int) (nq : Nat) : (W0 w s a b nq).cell? ⟨w.heap.size, 0, none⟩ = some (.string s) := by
  rw [W0_cells _ _ _ _ _ _ _ (by omega), World.cell?_alloc_past _ _ _ (by simp), World.cell?_alloc_at _ _ _ _ rfl]; rfl
theorem W0_from (w : World) (s : ByteArray) (a b : Int) (nq : Nat) : (W0 w s a b nq).cell? ⟨w.heap.size + 1, 0, none⟩ = some (.int .i64 a) := by
  rw [W0_cells _ _ _ _ _ _ _ (by omega), World.cell?_alloc_at _ _ _ _ (by simp)]; rfl
theorem W0_to (w : World) (s : ByteArray) (a b : Int) (nq : Nat) : (W0 w s a b nq).cell? ⟨w.heap.size + 1, 1, none⟩ = some (.int .i64 b) := by
  rw [W0_cells _ _ _ _ _ _ _ (by omega), World.cell?_alloc_at _ _ _ _ (by simp)]; rfl
theorem W0_below (w : World) (s : ByteArray) (a b : Int) (nq : Nat) : Below w.heap.size w (W0 w s a b nq) := by
  unfold W0
  refine Below.alloc (below_drewN (((Below.refl _ _).alloc (Nat.le_refl _) _).alloc (by simp) _) _) ?_ _
  simp
  omega

/-- What stands in a later world of the call. -/
structure Later (w : World) (s : ByteArray) (a b : Nat) (l : List UInt8) (w1 : World) : Prop where
  bld : Lib.IsBuilder 52 5 (w.heap.size + 1 + 1) (w.heap.size + 1 + 1) (Lib.byteCells l) w1
  size : w.heap.size + 1 + 1 < w1.heap.size
  src : w1.cell? ⟨w.heap.size, 0, none⟩ = some (.string s)
  lo : w1.cell? ⟨w.heap.size + 1, 0, none⟩ = some (.int .i64 a)
  hi : w1.cell? ⟨w.heap.size + 1, 1, none⟩ = some (.int .i64 b)
  below : Below w.heap.size w w1

theorem Later.start (w : World) (s : ByteArray) (a b nq : Nat) : Later w s a b [] (W0 w s a b nq) :=
  ⟨W0_builder _ _ _ _ _, by rw [W0_size]; omega, W0_src _ _ _ _ _, W0_from _ _ _ _ _, W0_to _ _ _ _ _, W0_below _ _ _ _ _⟩

theorem Later.next {w : World} {s : ByteArray} {a b : Nat} {l l' : List UInt8} {w1 w2 : World} (h : Later w s a b l w1) (hB : Below (w.heap.size + 1 + 1) w1 w2)
    (hI : Lib.IsBuilder 52 5 (w.heap.size + 1 + 1) (w.heap.size + 1 + 1) (Lib.byteCells l') w2) : Later w s a b l' w2 :=
  ⟨hI, by have := hB.size; have := h.size; omega, (hB.cell (p := ⟨w.heap.size, 0, none⟩) (by show w.heap.size < _; omega)).trans h.src,
    (hB.cell (p := ⟨w.heap.size + 1, 0, none⟩) (by show w.heap.size + 1 < _; omega)).trans h.lo, (hB.cell (p := ⟨w.heap.size + 1, 1, none⟩) (by show w.heap.size + 1 < _; omega)).trans h.hi,
    h.below.trans (hB.mono (by omega))⟩

set_option maxHeartbeats 1600000 in
theorem Excerpt_in (s : ByteArray) (a b : Nat) (hab : a ≤ b) (hb : b ≤ s.size) (hs : s.size ≤ 4000) (w : World) :
    Calls Try.prog 17 #[.string s, .agg #[.int .i64 a, .int .i64 b]] w fun e w' => e = .returned (.tuple #[.string ⟨(Ex.excerpt s.data.toList a b).toArray⟩, .int .i64 0]) ∧ Below w.heap.size w w' := by
  have d1 : decide ((a : Int) < 0) = false := by simp
  have d2 : decide ((b : Int) < a) = false := by simp; omega
  have d3 : decide ((s.size : Int) < b) = false := by simp; omega
  have ha : a ≤ s.size := by omega
  have g1 := Ex.lineStart_le s.data.toList a
  have g2 := Ex.lineEnd_ge s.data.toList a
  have g3 := Ex.lineEnd_le s.data.toList a (by rw [Ex.size_len]; exact ha)
  rw [Ex.size_len] at g3
  have HL := Lib.hid (bytes_line s a ha)
  have hsl : (⟨(Ex.line s.data.toList (Ex.lineStart s.data.toList a)).toArray⟩ : ByteArray).size ≤ 4000 := by
    rw [← HL.out, size_extract s _ _ g3 (by omega)]; omega
  go_enter Try.func17, Try.ntmps17
  go_wp2
  go_quiet ((first | (go_at_call 20; exact Calls.quiet_of_same ((lineStart_any _ _ ha hs _).mono fun _ _ h => ⟨h.1, h.2.symm⟩)) | (go_at_call 24; exact Calls.quiet_of_same ((lineEnd_any _ _ ha hs _).mono fun _ _ h => ⟨h.1, h.2.symm⟩))))
  go_wp2_with fail
  rw [HL.out]
  have L0 := Lib.hid (Later.start w s a b nq)
  refine (WriteString_any _ _ _ _ _ L0.out.bld ?_ ?_).mono ?_
  · show 0 + _ ≤ _; omega
  · have := L0.out.size; exact Nat.le_of_lt this
  rintro e w1 ⟨rfl, hb1, hw1⟩
  have L1 := Lib.hid (L0.out.next (l' := Ex.line s.data.toList (Ex.lineStart s.data.toList a)) hw1 (.inr hb1))
  clear hb1 hw1 L0
  go_wp2_with fail
  refine (WriteByte_any _ _ _ 10 _ L1.out.bld ?_ ?_).mono ?_
  · rw [Lib.byteCells_length]; rw [size_mk] at hsl; omega
  · have := L1.out.size; exact Nat.le_of_lt this
  rintro e w2 ⟨rfl, hb2, hw2⟩
  have L2 := Lib.hid (L1.out.next (l' := Ex.line s.data.toList (Ex.lineStart s.data.toList a) ++ [10]) hw2 (.inr (by rw [← byteCells_snoc]; exact hb2)))
  clear hb2 hw2 L1
  have e1 := L2.out.lo
  go_wp2_with fail
  refine (mark_margin _ _ _ s (Ex.lineStart s.data.toList a) a g1 ha hs ?_ _ L2.out.bld L2.out.size ?_ L2.out.src).mono ?_
  · rw [List.length_append]; rw [size_mk] at hsl; simp; omega
  · omega
  rintro e w3 ⟨rfl, hb3, hw3⟩
  have L3 := Lib.hid (L2.out.next hw3 hb3)
  clear hb3 hw3 L2 e1
  have e1 := L3.out.lo
  have e2 := L3.out.hi
  go_wp2_with fail
  rw [show (min (b : Int) (Ex.lineEnd s.data.toList a : Int)) = ((min b (Ex.lineEnd s.data.toList a) : Nat) : Int) from by omega]
  have hml : (Ex.line s.data.toList (Ex.lineStart s.data.toList a) ++ [10] ++ marks Ex.sign (part s (Ex.lineStart s.data.toList a) (a - Ex.lineStart s.data.toList a))).length ≤ 9000 := by
    have h1 := marks_length Ex.sign (part s (Ex.lineStart s.data.toList a) (a - Ex.lineStart s.data.toList a))
    have h2 := part_length s (Ex.lineStart s.data.toList a) (a - Ex.lineStart s.data.toList a)
    rw [size_mk] at hsl
    rw [List.length_append, List.length_append]; simp; omega
  refine (mark_caret _ _ _ s a (min b (Ex.lineEnd s.data.toList a)) (by omega) (by omega) hs (by omega) _ L3.out.bld L3.out.size (by omega) L3.out.src).mono ?_
  have HC := Lib.hid (caret_part s a b ha hab)
  have HG := Lib.hid (margin_part s a ha)
  have hcl : (marks (fun _ => 94) (part s a (min b (Ex.lineEnd s.data.toList a) - a))).length ≤ 4000 := by
    have h1 := marks_length (fun _ => (94 : UInt8)) (part s a (min b (Ex.lineEnd s.data.toList a) - a))
    have h2 := part_length s a (min b (Ex.lineEnd s.data.toList a) - a)
    omega
  generalize marks (fun _ => 94) (part s a (min b (Ex.lineEnd s.data.toList a) - a)) = m at HC hcl ⊢
  generalize marks Ex.sign (part s (Ex.lineStart s.data.toList a) (a - Ex.lineStart s.data.toList a)) = g at HG hml L3 ⊢
  have HX : Hid (∀ t, t = Ex.carets1 (((Ex.line s.data.toList (Ex.lineStart s.data.toList a)).drop (a - Ex.lineStart s.data.toList a)).take (b - a)) → Ex.line s.data.toList (Ex.lineStart s.data.toList a) ++ [10] ++ g ++ t = Ex.excerpt s.data.toList a b) := Lib.hid (by
    rintro t rfl
    simp only [Ex.excerpt]
    rw [HG.out])
  clear HG
  generalize Ex.line s.data.toList (Ex.lineStart s.data.toList a) ++ [10] ++ g = pre at HX hml L3 ⊢
  rintro e w4 ⟨rfl, hb4, hw4⟩
  have L4 := Lib.hid (L3.out.next hw4 hb4)
  clear hb4 hw4 L3 e1 e2
  by_cases hm0 : m = []
  · subst hm0
    have hz : (((([] : List UInt8).length : Nat) : Int) == 0) = true := rfl
    have HY : Hid (pre ++ [94] = Ex.excerpt s.data.toList a b) := Lib.hid (HX.out [94] (by rw [Ex.carets1, ← HC.out]; rfl))
    clear HX HC
    go_wp2_with fail
    refine (WriteByte_any _ _ _ 94 _ L4.out.bld ?_ ?_).mono ?_
    · rw [Lib.byteCells_length, List.append_nil]; omega
    · have := L4.out.size; exact Nat.le_of_lt this
    rintro e w5 ⟨rfl, hb5, hw5⟩
    have L5 := Lib.hid (L4.out.next (l' := pre ++ [94]) hw5 (.inr (by rw [← byteCells_snoc]; rw [List.append_nil] at hb5; exact hb5)))
    clear hb5 hw5 L4
    go_wp2_with fail
    rw [HY.out] at L5
    refine (Try.Builder_String_any _ _ _ _ L5.out.bld ?_).mono ?_
    · have := L5.out.size; exact Nat.le_of_lt this
    rintro e w6 ⟨rfl, hw6⟩
    have HW := Lib.hid (L5.out.below.trans (hw6.mono (by omega)))
    clear hw6 L5
    go_wp2
    go_ret2
    exact ⟨rfl, HW.out⟩
  · have hz : (((m.length : Nat) : Int) == 0) = false := by
      have : m.length ≠ 0 := fun h => hm0 (List.length_eq_zero_iff.1 h)
      simp; exact hm0
    have HY : Hid (pre ++ m = Ex.excerpt s.data.toList a b) := Lib.hid (HX.out m (by rw [Ex.carets1, ← HC.out, if_neg hm0]))
    clear HX HC hm0
    go_wp2_with fail
    rw [HY.out] at L4
    refine (Try.Builder_String_any _ _ _ _ L4.out.bld ?_).mono ?_
    · have := L4.out.size; exact Nat.le_of_lt this
    rintro e w6 ⟨rfl, hw6⟩
    have HW := Lib.hid (L4.out.below.trans (hw6.mono (by omega)))
    clear hw6 L4
    go_wp2
    go_ret2
    exact ⟨rfl, HW.out⟩

end Go.Proofs.Ytbhbjjkpbdplpaa
