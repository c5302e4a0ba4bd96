/- The law IntegerMultiplies. -/
import Derived.Test.YtniokkoicoacoaaGreatDoorR6
set_option linter.unusedVariables false
set_option linter.unusedSimpArgs false
namespace Go.Proofs.YtniokkoicoacoaaGreatDoor
open Go.RowKit _root_.Go.Proofs.YtniokkoicoacoaaGreatDoor.Nm

theorem canon_dg (z : Int) : canon (Lib.itoa z) = decide ((dg z.natAbs).length ≤ 400) := by
  rw [canon_itoa, ← Lib.decDigits_length]
  rcases Nat.eq_zero_or_pos z.natAbs with h | h
  · rw [h, dg_zero]; decide +kernel
  · rw [dec_ds _ h, List.length_map]; rfl

theorem agree_short (s : ByteArray) (v : Value) (z : Int) (w : World) (h : Ref w v z) (hs : Hid (s = ⟨(Lib.itoa z).toArray⟩)) (hn : Hid (True ∧ (dg z.natAbs).length ≤ 400)) :
    Calls Tryz.prog 13 #[.string s, .int .i64 0, v] w fun e w' => e = .returned (.bool true) ∧ Below w.heap.size w w' := by
  obtain ⟨a, c, rfl⟩ := h.form
  obtain ⟨n, hnn⟩ : ∃ n, (dg z.natAbs).length = n := ⟨_, rfl⟩
  have HN := Lib.hid (And.intro trivial hnn)
  have hn4 : n ≤ 400 := by rw [← hnn]; exact hn.out.2
  rw [hnn] at h ⊢
  have hd : decide ((400 : Int) < (n : Nat)) = false := by simp; omega
  have HR := Lib.hid (h.keep ((Below.refl w.heap.size w).alloc (Nat.le_refl _) (.cells #[.bool (isNeg z), .slice a n c] 30)) (Nat.le_refl _))
  have HB := Lib.hid ((Below.refl w.heap.size w).alloc (Nat.le_refl _) (.cells #[.bool (isNeg z), .slice a n c] 30))
  have HBX := Lib.hid (Bx.new w (.bool (isNeg z)) (.slice a n c) 30)
  clear h hnn
  obtain ⟨f0, f1, f2, f3⟩ := HBX.out.cell
  go_enter Tryz.func13, Tryz.ntmps13
  go_wp2_with fail
  refine (Long_any _ z n _ HR.out HN).mono ?_
  rintro e w1 ⟨rfl, hb⟩
  have HB1 := Lib.hid (HB.out.trans (hb.mono HB.out.size))
  have HR1 := Lib.hid (HR.out.keep hb (Nat.le_refl _))
  have HBX1 := Lib.hid (HBX.out.below hb HBX.out.lt)
  clear hb f0 f1 f2 f3
  obtain ⟨f0, f1, f2, f3⟩ := HBX1.out.cell
  rw [hd]
  go_wp2_with fail
  refine (rText_any _ z _ HR1.out (by rw [HN.out.2]; omega)).mono ?_
  rintro e w2 ⟨rfl, hb⟩
  have HB2 := Lib.hid (HB1.out.trans (hb.mono HB1.out.size))
  clear hb
  obtain rfl := hs.out
  go_wp2
  go_ret
  exact ⟨rfl, HB2.out⟩

theorem agree_long (v : Value) (z : Int) (w : World) (h : Ref w v z) (hn : Hid (True ∧ 400 < (dg z.natAbs).length)) :
    Calls Tryz.prog 13 #[.string ⟨#[]⟩, .int .i64 5, v] w fun e w' => e = .returned (.bool true) ∧ Below w.heap.size w w' := by
  obtain ⟨a, c, rfl⟩ := h.form
  obtain ⟨n, hnn⟩ : ∃ n, (dg z.natAbs).length = n := ⟨_, rfl⟩
  have HN := Lib.hid (And.intro trivial hnn)
  have hn4 : 400 < n := by rw [← hnn]; exact hn.out.2
  rw [hnn] at h ⊢
  have hd : decide ((400 : Int) < (n : Nat)) = true := by simp; omega
  have HR := Lib.hid (h.keep ((Below.refl w.heap.size w).alloc (Nat.le_refl _) (.cells #[.bool (isNeg z), .slice a n c] 30)) (Nat.le_refl _))
  have HB := Lib.hid ((Below.refl w.heap.size w).alloc (Nat.le_refl _) (.cells #[.bool (isNeg z), .slice a n c] 30))
  have HBX := Lib.hid (Bx.new w (.bool (isNeg z)) (.slice a n c) 30)
  clear h hnn
  obtain ⟨f0, f1, f2, f3⟩ := HBX.out.cell
  go_enter Tryz.func13, Tryz.ntmps13
  go_wp2_with fail
  refine (Long_any _ z n _ HR.out HN).mono ?_
  rintro e w1 ⟨rfl, hb⟩
  have HB1 := Lib.hid (HB.out.trans (hb.mono HB.out.size))
  clear hb f0 f1 f2 f3
  rw [hd]
  go_wp2
  go_ret
  exact ⟨rfl, HB1.out⟩

theorem long_any (a b : ByteArray) (l : Bool) (h : Hid (True ∧ decide (420 < a.size ∨ 420 < b.size) = l)) (w : World) :
    Calls Tryz.prog 7 #[.string a, .string b] w fun e w' => e = .returned (.bool l) ∧ w = w' := by
  by_cases h1 : (420 : Int) < a.size
  · obtain rfl : l = true := by rw [← h.out.2]; exact decide_eq_true (.inl (by omega))
    go_enter Tryz.func7, Tryz.ntmps7
    go_wp2
    go_ret
    exact ⟨rfl, rfl⟩
  · by_cases h2 : (420 : Int) < b.size
    · obtain rfl : l = true := by rw [← h.out.2]; exact decide_eq_true (.inr (by omega))
      go_enter Tryz.func7, Tryz.ntmps7
      go_wp2
      go_ret
      exact ⟨rfl, rfl⟩
    · obtain rfl : l = false := by rw [← h.out.2]; exact decide_eq_false (by omega)
      go_enter Tryz.func7, Tryz.ntmps7
      go_wp2
      go_ret
      exact ⟨rfl, rfl⟩

theorem rValid_to (s : ByteArray) (b : Bool) (h : Hid (canon s.data.toList = b)) (w : World) :
    Calls Tryz.prog 11 #[.string s] w fun e w' => e = .returned (.bool b) ∧ w = w' := by
  have := rValid_any s w
  rwa [h.out] at this

theorem dg_1000 (s : ByteArray) (h : canon s.data.toList = true) : (dg (zv s.data.toList).natAbs).length ≤ 400 := by
  obtain ⟨k, h1, h2⟩ := zv_ten _ h
  exact Nat.le_trans (dg_len _ k h2) h1

theorem opVal_bad (s t : ByteArray) (r : Int) (h : (canon s.data.toList && canon t.data.toList) = false) : opVal s t r = .tuple #[.string ⟨#[]⟩, .int .i64 3] := by unfold opVal; rw [h]; rfl
theorem opVal_good (s t : ByteArray) (r : Int) (hs : canon s.data.toList = true) (ht : canon t.data.toList = true) (hr : (dg r.natAbs).length ≤ 400) : opVal s t r = .tuple #[.string ⟨(Lib.itoa r).toArray⟩, .int .i64 0] := by
  unfold opVal; rw [hs, ht, canon_dg, decide_eq_true hr]; rfl
theorem opVal_long (s t : ByteArray) (r : Int) (hs : canon s.data.toList = true) (ht : canon t.data.toList = true) (hr : 400 < (dg r.natAbs).length) : opVal s t r = .tuple #[.string ⟨#[]⟩, .int .i64 5] := by
  unfold opVal; rw [hs, ht, canon_dg, decide_eq_false (by omega)]; rfl

end Go.Proofs.YtniokkoicoacoaaGreatDoor
