/- The law IntegerMultiplies. -/
import Derived.Test.YtdkpcjfadabkbaaDoorR4
import Derived.Test.YtdkpcjfadabkbaaDoorR6
set_option linter.unusedVariables false
set_option linter.unusedSimpArgs false
namespace Go.Proofs.YtdkpcjfadabkbaaDoor
open Go.RowKit _root_.Go.Proofs.YtdkpcjfadabkbaaDoor.Nm

theorem canon_dg (z : Int) : canon (Lib.itoa z) = decide ((dg z.natAbs).length ≤ 400) := by
  rw [canon_itoa, ← Lib.decDigits_length]
  rcases Nat.eq_zero_or_pos z.natAbs with h | h
  · rw [h, dg_zero]; decide +kernel
  · rw [dec_ds _ h, List.length_map]; rfl

theorem agree_short (s : ByteArray) (v : Value) (z : Int) (w : World) (h : Ref w v z) (hs : Hid (s = ⟨(Lib.itoa z).toArray⟩)) (hn : Hid (True ∧ (dg z.natAbs).length ≤ 400)) :
    Calls Tryd.prog 12 #[.string s, .int .i64 0, v] w fun e w' => e = .returned (.bool true) ∧ Below w.heap.size w w' := by
  obtain ⟨a, c, rfl⟩ := h.form
  obtain ⟨n, hnn⟩ : ∃ n, (dg z.natAbs).length = n := ⟨_, rfl⟩
  have HN := Lib.hid (And.intro trivial hnn)
  have hn4 : n ≤ 400 := by rw [← hnn]; exact hn.out.2
  rw [hnn] at h ⊢
  have hd : decide ((400 : Int) < (n : Nat)) = false := by simp; omega
  have HR := Lib.hid (h.keep ((Below.refl w.heap.size w).alloc (Nat.le_refl _) (.cells #[.bool (isNeg z), .slice a n c] 31)) (Nat.le_refl _))
  have HB := Lib.hid ((Below.refl w.heap.size w).alloc (Nat.le_refl _) (.cells #[.bool (isNeg z), .slice a n c] 31))
  have HBX := Lib.hid (Bx.new w (.bool (isNeg z)) (.slice a n c) 31)
  clear h hnn
  obtain ⟨f0, f1, f2, f3⟩ := HBX.out.cell
  go_enter Tryd.func12, Tryd.ntmps12
  go_wp2_with fail
  refine (Long_any _ z n _ HR.out HN).mono ?_
  rintro e w1 ⟨rfl, hb⟩
  have HB1 := Lib.hid (HB.out.trans (hb.mono HB.out.size))
  have HR1 := Lib.hid (HR.out.keep hb (Nat.le_refl _))
  have HBX1 := Lib.hid (HBX.out.below hb HBX.out.lt)
  clear hb f0 f1 f2 f3
  obtain ⟨f0, f1, f2, f3⟩ := HBX1.out.cell
  rw [hd]
  go_wp2_with fail
  refine (rText_any _ z _ HR1.out (by rw [HN.out.2]; omega)).mono ?_
  rintro e w2 ⟨rfl, hb⟩
  have HB2 := Lib.hid (HB1.out.trans (hb.mono HB1.out.size))
  clear hb
  obtain rfl := hs.out
  go_wp2
  go_ret
  exact ⟨rfl, HB2.out⟩

theorem agree_long (v : Value) (z : Int) (w : World) (h : Ref w v z) (hn : Hid (True ∧ 400 < (dg z.natAbs).length)) :
    Calls Tryd.prog 12 #[.string ⟨#[]⟩, .int .i64 5, v] w fun e w' => e = .returned (.bool true) ∧ Below w.heap.size w w' := by
  obtain ⟨a, c, rfl⟩ := h.form
  obtain ⟨n, hnn⟩ : ∃ n, (dg z.natAbs).length = n := ⟨_, rfl⟩
  have HN := Lib.hid (And.intro trivial hnn)
  have hn4 : 400 < n := by rw [← hnn]; exact hn.out.2
  rw [hnn] at h ⊢
  have hd : decide ((400 : Int) < (n : Nat)) = true := by simp; omega
  have HR := Lib.hid (h.keep ((Below.refl w.heap.size w).alloc (Nat.le_refl _) (.cells #[.bool (isNeg z), .slice a n c] 31)) (Nat.le_refl _))
  have HB := Lib.hid ((Below.refl w.heap.size w).alloc (Nat.le_refl _) (.cells #[.bool (isNeg z), .slice a n c] 31))
  have HBX := Lib.hid (Bx.new w (.bool (isNeg z)) (.slice a n c) 31)
  clear h hnn
  obtain ⟨f0, f1, f2, f3⟩ := HBX.out.cell
  go_enter Tryd.func12, Tryd.ntmps12
  go_wp2_with fail
  refine (Long_any _ z n _ HR.out HN).mono ?_
  rintro e w1 ⟨rfl, hb⟩
  have HB1 := Lib.hid (HB.out.trans (hb.mono HB.out.size))
  clear hb f0 f1 f2 f3
  rw [hd]
  go_wp2
  go_ret
  exact ⟨rfl, HB1.out⟩

theorem long_any (a b : ByteArray) (l : Bool) (h : Hid (True ∧ decide (420 < a.size ∨ 420 < b.size) = l)) (w : World) :
    Calls Tryd.prog 9 #[.string a, .string b] w fun e w' => e = .returned (.bool l) ∧ w = w' := by
  by_cases h1 : (420 : Int) < a.size
  · obtain rfl : l = true := by rw [← h.out.2]; exact decide_eq_true (.inl (by omega))
    go_enter Tryd.func9, Tryd.ntmps9
    go_wp2
    go_ret
    exact ⟨rfl, rfl⟩
  · by_cases h2 : (420 : Int) < b.size
    · obtain rfl : l = true := by rw [← h.out.2]; exact decide_eq_true (.inr (by omega))
      go_enter Tryd.func9, Tryd.ntmps9
      go_wp2
      go_ret
      exact ⟨rfl, rfl⟩
    · obtain rfl : l = false := by rw [← h.out.2]; exact decide_eq_false (by omega)
      go_enter Tryd.func9, Tryd.ntmps9
      go_wp2
      go_ret
      exact ⟨rfl, rfl⟩

theorem rValid_to (s : ByteArray) (b : Bool) (h : Hid (canon s.data.toList = b)) (w : World) :
    Calls Tryd.prog 11 #[.string s] w fun e w' => e = .returned (.bool b) ∧ w = w' := by
  have := rValid_any s w
  rwa [h.out] at this

theorem dg_1000 (s : ByteArray) (h : canon s.data.toList = true) : (dg (zv s.data.toList).natAbs).length ≤ 400 := by
  obtain ⟨k, h1, h2⟩ := zv_ten _ h
  exact Nat.le_trans (dg_len _ k h2) h1

theorem opVal_bad (s t : ByteArray) (r : Int) (h : (canon s.data.toList && canon t.data.toList) = false) : opVal s t r = .tuple #[.string ⟨#[]⟩, .int .i64 3] := by unfold opVal; rw [h]; rfl
theorem opVal_good (s t : ByteArray) (r : Int) (hs : canon s.data.toList = true) (ht : canon t.data.toList = true) (hr : (dg r.natAbs).length ≤ 400) : opVal s t r = .tuple #[.string ⟨(Lib.itoa r).toArray⟩, .int .i64 0] := by
  unfold opVal; rw [hs, ht, canon_dg, decide_eq_true hr]; rfl
theorem opVal_long (s t : ByteArray) (r : Int) (hs : canon s.data.toList = true) (ht : canon t.data.toList = true) (hr : 400 < (dg r.natAbs).length) : opVal s t r = .tuple #[.string ⟨#[]⟩, .int .i64 5] := by
  unfold opVal; rw [hs, ht, canon_dg, decide_eq_false (by omega)]; rfl

set_option maxRecDepth 100000 in
set_option maxHeartbeats 3200000 in
theorem law_IntegerMultiplies (a b : ByteArray) (w : World) (htab : Tab w) :
    Calls Tryd.prog 3 #[.string a, .string b] w fun e w' => e = .returned (.bool true) ∧ Below w.heap.size w w' := by
  have HT := Lib.hid htab
  clear htab
  obtain ⟨l, hl⟩ : ∃ l, decide (420 < a.size ∨ 420 < b.size) = l := ⟨_, rfl⟩
  have HL := Lib.hid (And.intro trivial hl)
  clear hl
  cases l
  case true =>
    go_enter Tryd.func3, Tryd.ntmps3
    go_wp2_with fail
    refine (awake_any _ HT.out).mono ?_
    rintro e w0 ⟨rfl, hb⟩
    have HW0 := Lib.hid hb
    clear hb
    go_wp2_with fail
    refine (long_any a b _ HL _).mono ?_
    rintro e w1 ⟨rfl, rfl⟩
    go_wp2
    go_ret
    exact ⟨rfl, HW0.out⟩
  case false =>
  cases hab : (canon a.data.toList && canon b.data.toList)
  · have HO := Lib.hid (And.intro trivial (opVal_bad a b (zv a.data.toList * zv b.data.toList) hab))
    cases ka : canon a.data.toList
    · have KA := Lib.hid ka
      clear hab ka
      go_enter Tryd.func3, Tryd.ntmps3
      go_wp2_with fail
      refine (awake_any _ HT.out).mono ?_
      rintro e w0 ⟨rfl, hb⟩
      have HW0 := Lib.hid hb
      clear hb
      go_wp2_with fail
      refine (long_any a b _ HL _).mono ?_
      rintro e w9 ⟨rfl, rfl⟩
      go_wp2_with fail
      refine (Mul_any a b _ (tab_keep HT.out HW0.out)).mono ?_
      rintro e w1 ⟨rfl, hb⟩
      have HW1 := Lib.hid (HW0.out.trans (hb.mono HW0.out.size))
      clear hb
      rw [HO.out.2]
      go_wp2_with fail
      refine (rValid_to a _ KA _).mono ?_
      rintro e w9 ⟨rfl, rfl⟩
      go_wp2
      go_ret
      exact ⟨rfl, HW1.out⟩
    · have kb : canon b.data.toList = false := by rw [ka] at hab; exact hab
      have KA := Lib.hid ka
      have KB := Lib.hid kb
      clear hab ka kb
      go_enter Tryd.func3, Tryd.ntmps3
      go_wp2_with fail
      refine (awake_any _ HT.out).mono ?_
      rintro e w0 ⟨rfl, hb⟩
      have HW0 := Lib.hid hb
      clear hb
      go_wp2_with fail
      refine (long_any a b _ HL _).mono ?_
      rintro e w9 ⟨rfl, rfl⟩
      go_wp2_with fail
      refine (Mul_any a b _ (tab_keep HT.out HW0.out)).mono ?_
      rintro e w1 ⟨rfl, hb⟩
      have HW1 := Lib.hid (HW0.out.trans (hb.mono HW0.out.size))
      clear hb
      rw [HO.out.2]
      go_wp2_with fail
      refine (rValid_to a _ KA _).mono ?_
      rintro e w9 ⟨rfl, rfl⟩
      go_wp2_with fail
      refine (rValid_to b _ KB _).mono ?_
      rintro e w9 ⟨rfl, rfl⟩
      go_wp2
      go_ret
      exact ⟨rfl, HW1.out⟩
  · obtain ⟨ka, kb⟩ := Bool.and_eq_true_iff.1 hab
    have KA := Lib.hid ka
    have KB := Lib.hid kb
    have la := dg_1000 a ka
    have lb := dg_1000 b kb
    by_cases hr : (dg (zv a.data.toList * zv b.data.toList).natAbs).length ≤ 400
    · have HO := Lib.hid (And.intro trivial (opVal_good a b _ ka kb hr))
      have HR := Lib.hid (And.intro trivial hr)
      clear hab ka kb hr
      go_enter Tryd.func3, Tryd.ntmps3
      go_wp2_with fail
      refine (awake_any _ HT.out).mono ?_
      rintro e w0 ⟨rfl, hb⟩
      have HW0 := Lib.hid hb
      clear hb
      go_wp2_with fail
      refine (long_any a b _ HL _).mono ?_
      rintro e w9 ⟨rfl, rfl⟩
      go_wp2_with fail
      refine (Mul_any a b _ (tab_keep HT.out HW0.out)).mono ?_
      rintro e w1 ⟨rfl, hb⟩
      have HW1 := Lib.hid (HW0.out.trans (hb.mono HW0.out.size))
      clear hb
      rw [HO.out.2]
      go_wp2_with fail
      refine (rValid_to a _ KA _).mono ?_
      rintro e w9 ⟨rfl, rfl⟩
      go_wp2_with fail
      refine (rValid_to b _ KB _).mono ?_
      rintro e w9 ⟨rfl, rfl⟩
      go_wp2_with fail
      refine (rOf_any a KA.out _).mono ?_
      rintro e w2 ⟨v2, rfl, hv2, hb⟩
      have HV2 := Lib.hid hv2
      have HW2 := Lib.hid (HW1.out.trans (hb.mono HW1.out.size))
      obtain ⟨a2, c2, rfl⟩ := hv2.form
      clear hb hv2
      go_wp2_with fail
      refine (rOf_any b KB.out _).mono ?_
      rintro e w3 ⟨v3, rfl, hv3, hb⟩
      have HV3 := Lib.hid hv3
      have HV2' := Lib.hid (HV2.out.keep hb (Nat.le_refl _))
      have HW3 := Lib.hid (HW2.out.trans (hb.mono HW2.out.size))
      obtain ⟨a3, c3, rfl⟩ := hv3.form
      clear hb hv3
      go_wp2_with fail
      refine (rMul_any _ _ _ _ _ HV2'.out HV3.out (by omega) (by omega)).mono ?_
      rintro e w4 ⟨v4, rfl, hv4, hb⟩
      have HV4 := Lib.hid hv4
      have HW4 := Lib.hid (HW3.out.trans (hb.mono HW3.out.size))
      obtain ⟨a4, c4, rfl⟩ := hv4.form
      clear hb hv4
      go_wp2_with fail
      refine (agree_short _ _ (zv a.data.toList * zv b.data.toList) _ HV4.out (Lib.hid rfl) HR).mono ?_
      rintro e w5 ⟨rfl, hb⟩
      have HW5 := Lib.hid (HW4.out.trans (hb.mono HW4.out.size))
      clear hb
      go_wp2
      go_ret
      exact ⟨rfl, HW5.out⟩
    · have HO := Lib.hid (And.intro trivial (opVal_long a b (zv a.data.toList * zv b.data.toList) ka kb (by omega)))
      have HR : Hid (True ∧ 400 < (dg (zv a.data.toList * zv b.data.toList).natAbs).length) := Lib.hid ⟨trivial, by omega⟩
      clear hab ka kb hr
      go_enter Tryd.func3, Tryd.ntmps3
      go_wp2_with fail
      refine (awake_any _ HT.out).mono ?_
      rintro e w0 ⟨rfl, hb⟩
      have HW0 := Lib.hid hb
      clear hb
      go_wp2_with fail
      refine (long_any a b _ HL _).mono ?_
      rintro e w9 ⟨rfl, rfl⟩
      go_wp2_with fail
      refine (Mul_any a b _ (tab_keep HT.out HW0.out)).mono ?_
      rintro e w1 ⟨rfl, hb⟩
      have HW1 := Lib.hid (HW0.out.trans (hb.mono HW0.out.size))
      clear hb
      rw [HO.out.2]
      go_wp2_with fail
      refine (rValid_to a _ KA _).mono ?_
      rintro e w9 ⟨rfl, rfl⟩
      go_wp2_with fail
      refine (rValid_to b _ KB _).mono ?_
      rintro e w9 ⟨rfl, rfl⟩
      go_wp2_with fail
      refine (rOf_any a KA.out _).mono ?_
      rintro e w2 ⟨v2, rfl, hv2, hb⟩
      have HV2 := Lib.hid hv2
      have HW2 := Lib.hid (HW1.out.trans (hb.mono HW1.out.size))
      obtain ⟨a2, c2, rfl⟩ := hv2.form
      clear hb hv2
      go_wp2_with fail
      refine (rOf_any b KB.out _).mono ?_
      rintro e w3 ⟨v3, rfl, hv3, hb⟩
      have HV3 := Lib.hid hv3
      have HV2' := Lib.hid (HV2.out.keep hb (Nat.le_refl _))
      have HW3 := Lib.hid (HW2.out.trans (hb.mono HW2.out.size))
      obtain ⟨a3, c3, rfl⟩ := hv3.form
      clear hb hv3
      go_wp2_with fail
      refine (rMul_any _ _ _ _ _ HV2'.out HV3.out (by omega) (by omega)).mono ?_
      rintro e w4 ⟨v4, rfl, hv4, hb⟩
      have HV4 := Lib.hid hv4
      have HW4 := Lib.hid (HW3.out.trans (hb.mono HW3.out.size))
      obtain ⟨a4, c4, rfl⟩ := hv4.form
      clear hb hv4
      go_wp2_with fail
      refine (agree_long _ (zv a.data.toList * zv b.data.toList) _ HV4.out HR).mono ?_
      rintro e w5 ⟨rfl, hb⟩
      have HW5 := Lib.hid (HW4.out.trans (hb.mono HW4.out.size))
      clear hb
      go_wp2
      go_ret
      exact ⟨rfl, HW5.out⟩

end Go.Proofs.YtdkpcjfadabkbaaDoor
