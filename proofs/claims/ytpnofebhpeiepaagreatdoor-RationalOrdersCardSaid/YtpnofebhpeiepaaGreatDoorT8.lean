/- What result does; the law RationalAdds. -/
import Derived.Test.YtpnofebhpeiepaaGreatDoorT7
set_option linter.unusedVariables false
set_option linter.unusedSimpArgs false
namespace Go.Proofs.YtpnofebhpeiepaaGreatDoor
open Go.RowKit _root_.Go.Proofs.YtpnofebhpeiepaaGreatDoor.Nm

/-- The text and the error of a number, however long it is. -/
def ResIs (q : Rat) (s : ByteArray) (e : Int) : Prop := (rshort q = false ∧ s = ⟨#[]⟩ ∧ e = 5) ∨ (rshort q = true ∧ s = ⟨(rt q).toArray⟩ ∧ e = 0)
theorem ResIs.ex (q : Rat) : ∃ s e, ResIs q s e := by
  cases h : rshort q with
  | false => exact ⟨_, _, .inl ⟨h, rfl, rfl⟩⟩
  | true => exact ⟨_, _, .inr ⟨h, rfl, rfl⟩⟩
theorem ResIs.quo {q : Rat} {s : ByteArray} {e : Int} {a b : Int} (h : ResIs q s e) (hb : b ≠ 0) (hq : Rat.divInt a b = q) : QuoIs a b s e := by
  rcases h with ⟨h1, rfl, rfl⟩ | ⟨h1, h2, rfl⟩
  · exact .long hb hq h1
  · exact .short hb hq ⟨h2, h1⟩

theorem OpRes.nones {f g : Rat → Rat → Int} {a b : ByteArray} (hn : ((rval a.data.toList).isSome && (rval b.data.toList).isSome) = false) : OpRes f g a b ⟨#[]⟩ 3 := by
  unfold OpRes
  cases h1 : rval a.data.toList with
  | none => exact ⟨rfl, rfl⟩
  | some p =>
    cases h2 : rval b.data.toList with
    | none => exact ⟨rfl, rfl⟩
    | some q => rw [h1, h2] at hn; cases hn

set_option maxRecDepth 100000 in
set_option maxHeartbeats 3200000 in
theorem result_any (s : ByteArray) (ec : Int) (v : Value) (q : Rat) (K : Nat) (w : World) (h : RRef w v q) (hq : RT K q) (hK : K ≤ 1000) (hr : Hid (ResIs q s ec)) :
    Calls Tryz.prog 25 #[.string s, .int .i64 ec, v] w fun e w' => e = .returned (.bool true) ∧ Below w.heap.size w w' := by
  obtain ⟨n1, a1, l1, c1, n2, a2, l2, c2, rfl, x1, x2⟩ := h
  have hA := (Below.refl w.heap.size w).alloc (Nat.le_refl _) (.cells #[.bool n1, .slice a1 l1 c1, .bool n2, .slice a2 l2 c2] 30)
  have HF : Hid (RRef (w.alloc (.cells #[.bool n1, .slice a1 l1 c1, .bool n2, .slice a2 l2 c2] 30)) (.agg #[.bool n1, .slice a1 l1 c1, .bool n2, .slice a2 l2 c2]) q) := Lib.hid ⟨_, _, _, _, _, _, _, _, rfl, x1.keep hA (Nat.le_refl _), x2.keep hA (Nat.le_refl _)⟩
  have HW := Lib.hid hA
  have HB := Lib.hid (B4.new w (.bool n1) (.slice a1 l1 c1) (.bool n2) (.slice a2 l2 c2) 30)
  have HRT := Lib.hid hq
  clear x1 x2 hA hq
  obtain ⟨k0, k1, k2, k3⟩ := HB.out.cell
  have hrr := hr.out
  rcases hrr with ⟨h1, rfl, rfl⟩ | ⟨h1, h2, rfl⟩
  · have HL : Hid (True ∧ (!rshort q) = true) := Lib.hid ⟨trivial, by rw [h1]; rfl⟩
    clear h1 hr
    go_enter Tryz.func25, Tryz.ntmps25
    go_wp2_with fail
    refine (rrLong_any _ q true _ HF.out HL).mono ?_
    rintro e w1 ⟨rfl, hb⟩
    have HW1 := Lib.hid (HW.out.trans (hb.mono HW.out.size))
    clear hb
    go_wp2
    go_ret
    exact ⟨rfl, HW1.out⟩
  · have HL : Hid (True ∧ (!rshort q) = false) := Lib.hid ⟨trivial, by rw [h1]; rfl⟩
    have HS := Lib.hid (And.intro trivial h2)
    clear h1 h2 hr
    go_enter Tryz.func25, Tryz.ntmps25
    go_wp2_with fail
    refine (rrLong_any _ q false _ HF.out HL).mono ?_
    rintro e w1 ⟨rfl, hb⟩
    have HW1 := Lib.hid (HW.out.trans (hb.mono HW.out.size))
    have HF1 := Lib.hid (HF.out.keep hb (Nat.le_refl _))
    have HB1 := Lib.hid (HB.out.below hb HB.out.lt)
    clear hb k0 k1 k2 k3
    obtain ⟨k0, k1, k2, k3⟩ := HB1.out.cell
    go_wp2_with fail
    refine (rrText_any _ q s K _ HF1.out HRT.out hK HS).mono ?_
    rintro e w2 ⟨rfl, hb⟩
    have HW2 := Lib.hid (HW1.out.trans (hb.mono HW1.out.size))
    clear hb k0 k1 k2 k3
    go_wp2
    go_ret
    exact ⟨rfl, HW2.out⟩

set_option maxRecDepth 100000 in
set_option maxHeartbeats 12800000 in
theorem adds_out (a b : ByteArray) (w : World) (htab : Tab w) (h : ¬ (a.size ≤ 300 ∧ b.size ≤ 300)) :
    Calls Tryz.prog 5 #[.string a, .string b] w fun e w' => e = .returned (.bool true) ∧ Below w.heap.size w w' := by
  have HT := Lib.hid htab
  have HC0 : Hid (∀ (i : Nat) (h : i < [a, b].length), (w.alloc (.cells #[.string a, .string b] 9)).cell? ⟨w.heap.size, 0 + i, none⟩ = some (.string [a, b][i])) := Lib.hid (two_cells w a b 9)
  have HW0 := Lib.hid ((Below.refl w.heap.size w).alloc (Nat.le_refl _) (.cells #[.string a, .string b] 9))
  have HSH : Hid (shortB [a, b] = false) := Lib.hid (by
    rw [short_two]
    by_cases h1 : a.size ≤ 300
    · rw [decide_eq_false (show ¬ b.size ≤ 300 from fun h2 => h ⟨h1, h2⟩), Bool.and_false]
    · rw [decide_eq_false h1, Bool.false_and])
  clear htab h
  go_enter Tryz.func5, Tryz.ntmps5
  go_wp2_with fail
  refine (short_any w.heap.size 0 2 [a, b] 2 rfl (by omega) false _ HC0 HSH).mono ?_
  rintro e w0 ⟨rfl, rfl⟩
  go_wp2_with fail
  refine (qawake_any _ (tab_keep HT.out HW0.out)).mono ?_
  rintro e w1 ⟨rfl, hb⟩
  have HW1 := Lib.hid (HW0.out.trans (hb.mono HW0.out.size))
  clear hb
  go_wp2
  go_ret
  exact ⟨rfl, HW1.out⟩

set_option maxRecDepth 100000 in
set_option maxHeartbeats 12800000 in
theorem adds_none1 (a b : ByteArray) (o2 : Option Rat) (w : World) (htab : Tab w) (la : a.size ≤ 300) (lb : b.size ≤ 300) (HO1 : Hid (rval a.data.toList = none)) (HO2 : Hid (rval b.data.toList = o2)) :
    Calls Tryz.prog 5 #[.string a, .string b] w fun e w' => e = .returned (.bool true) ∧ Below w.heap.size w w' := by
  have HT := Lib.hid htab
  have HC0 : Hid (∀ (i : Nat) (h : i < [a, b].length), (w.alloc (.cells #[.string a, .string b] 9)).cell? ⟨w.heap.size, 0 + i, none⟩ = some (.string [a, b][i])) := Lib.hid (two_cells w a b 9)
  have HW0 := Lib.hid ((Below.refl w.heap.size w).alloc (Nat.le_refl _) (.cells #[.string a, .string b] 9))
  have HSH : Hid (shortB [a, b] = true) := Lib.hid (by rw [short_two, decide_eq_true la, decide_eq_true lb]; rfl)
  have za : a.size ≤ 100000 := by omega
  have zb : b.size ≤ 100000 := by omega
  clear htab
  have hbad : ((rval a.data.toList).isSome && (rval b.data.toList).isSome) = false := by rw [HO1.out, HO2.out]; rfl
  have O1 : Hid (OpRes fAdd gAdd a b ⟨#[]⟩ 3) := Lib.hid (OpRes.nones hbad)
  have O2 : Hid (OpRes fSub gAdd a b ⟨#[]⟩ 3) := Lib.hid (OpRes.nones hbad)
  have O3 : Hid (OpRes fMul gAdd a b ⟨#[]⟩ 3) := Lib.hid (OpRes.nones hbad)
  have O4 : Hid (OpRes fDiv gDiv a b ⟨#[]⟩ 3) := Lib.hid (OpRes.nones hbad)
  clear hbad la lb
  go_enter Tryz.func5, Tryz.ntmps5
  go_wp2_with fail
  refine (short_any w.heap.size 0 2 [a, b] 2 rfl (by omega) true _ HC0 HSH).mono ?_
  rintro e w0 ⟨rfl, rfl⟩
  go_wp2_with fail
  refine (qAdd_any a b ⟨#[]⟩ 3 _ O1 za zb (tab_keep HT.out HW0.out)).mono ?_
  rintro e w1 ⟨rfl, hb⟩
  have HW1 := Lib.hid (HW0.out.trans (hb.mono HW0.out.size))
  clear hb
  go_wp2_with fail
  refine (qSub_any a b ⟨#[]⟩ 3 _ O2 za zb (tab_keep HT.out HW1.out)).mono ?_
  rintro e w2 ⟨rfl, hb⟩
  have HW2 := Lib.hid (HW1.out.trans (hb.mono HW1.out.size))
  clear hb
  go_wp2_with fail
  refine (qMul_any a b ⟨#[]⟩ 3 _ O3 za zb (tab_keep HT.out HW2.out)).mono ?_
  rintro e w3 ⟨rfl, hb⟩
  have HW3 := Lib.hid (HW2.out.trans (hb.mono HW2.out.size))
  clear hb
  go_wp2_with fail
  refine (qDiv_any a b ⟨#[]⟩ 3 _ O4 za zb (tab_keep HT.out HW3.out)).mono ?_
  rintro e w4 ⟨rfl, hb⟩
  have HW4 := Lib.hid (HW3.out.trans (hb.mono HW3.out.size))
  clear hb
  go_wp2_with fail
  refine (rrRead_any a none _ HO1 za).mono ?_
  rintro e w5 ⟨n1, a1, l1, c1, n2, a2, l2, c2, rfl, hq1, hb⟩
  rw [show (none : Option Rat).isSome = false from rfl]
  have hA := (Below.refl w5.heap.size w5).alloc (Nat.le_refl _) (.cells #[.bool n1, .slice a1 l1 c1, .bool n2, .slice a2 l2 c2] 30)
  have HW5 := Lib.hid ((HW4.out.trans (hb.mono HW4.out.size)).alloc (Nat.le_trans HW4.out.size hb.size) (.cells #[.bool n1, .slice a1 l1 c1, .bool n2, .slice a2 l2 c2] 30))
  clear hb hA hq1
  obtain ⟨b2, hb2⟩ : ∃ x, o2.isSome = x := ⟨_, rfl⟩
  have HB2 := Lib.hid (And.intro trivial hb2)
  clear hb2
  go_wp2_with fail
  refine (rrRead_any b o2 _ HO2 zb).mono ?_
  rintro e w6 ⟨n3, a3, l3, c3, n4, a4, l4, c4, rfl, hq3, hb⟩
  rw [HB2.out.2]
  have hA := (Below.refl w6.heap.size w6).alloc (Nat.le_refl _) (.cells #[.bool n3, .slice a3 l3 c3, .bool n4, .slice a4 l4 c4] 30)
  have HW6 := Lib.hid ((HW5.out.trans (hb.mono HW5.out.size)).alloc (Nat.le_trans HW5.out.size hb.size) (.cells #[.bool n3, .slice a3 l3 c3, .bool n4, .slice a4 l4 c4] 30))
  clear hb hA hq3
  go_wp2_with fail
  refine (qawake_any _ (tab_keep HT.out HW6.out)).mono ?_
  rintro e w7 ⟨rfl, hb⟩
  have HW7 := Lib.hid (HW6.out.trans (hb.mono HW6.out.size))
  clear hb
  have hcc : ((⟨#[]⟩ : ByteArray) ++ (⟨#[]⟩ : ByteArray) ++ (⟨#[]⟩ : ByteArray) ++ (⟨#[]⟩ : ByteArray)).toList = [] := by decide +kernel
  go_wp2
  go_ret
  exact ⟨rfl, HW7.out⟩

set_option maxRecDepth 100000 in
set_option maxHeartbeats 12800000 in
theorem adds_none2 (a b : ByteArray) (p : Rat) (w : World) (htab : Tab w) (la : a.size ≤ 300) (lb : b.size ≤ 300) (HO1 : Hid (rval a.data.toList = (some p))) (HO2 : Hid (rval b.data.toList = none)) :
    Calls Tryz.prog 5 #[.string a, .string b] w fun e w' => e = .returned (.bool true) ∧ Below w.heap.size w w' := by
  have HT := Lib.hid htab
  have HC0 : Hid (∀ (i : Nat) (h : i < [a, b].length), (w.alloc (.cells #[.string a, .string b] 9)).cell? ⟨w.heap.size, 0 + i, none⟩ = some (.string [a, b][i])) := Lib.hid (two_cells w a b 9)
  have HW0 := Lib.hid ((Below.refl w.heap.size w).alloc (Nat.le_refl _) (.cells #[.string a, .string b] 9))
  have HSH : Hid (shortB [a, b] = true) := Lib.hid (by rw [short_two, decide_eq_true la, decide_eq_true lb]; rfl)
  have za : a.size ≤ 100000 := by omega
  have zb : b.size ≤ 100000 := by omega
  clear htab
  have hbad : ((rval a.data.toList).isSome && (rval b.data.toList).isSome) = false := by rw [HO1.out, HO2.out]; rfl
  have O1 : Hid (OpRes fAdd gAdd a b ⟨#[]⟩ 3) := Lib.hid (OpRes.nones hbad)
  have O2 : Hid (OpRes fSub gAdd a b ⟨#[]⟩ 3) := Lib.hid (OpRes.nones hbad)
  have O3 : Hid (OpRes fMul gAdd a b ⟨#[]⟩ 3) := Lib.hid (OpRes.nones hbad)
  have O4 : Hid (OpRes fDiv gDiv a b ⟨#[]⟩ 3) := Lib.hid (OpRes.nones hbad)
  clear hbad la lb
  go_enter Tryz.func5, Tryz.ntmps5
  go_wp2_with fail
  refine (short_any w.heap.size 0 2 [a, b] 2 rfl (by omega) true _ HC0 HSH).mono ?_
  rintro e w0 ⟨rfl, rfl⟩
  go_wp2_with fail
  refine (qAdd_any a b ⟨#[]⟩ 3 _ O1 za zb (tab_keep HT.out HW0.out)).mono ?_
  rintro e w1 ⟨rfl, hb⟩
  have HW1 := Lib.hid (HW0.out.trans (hb.mono HW0.out.size))
  clear hb
  go_wp2_with fail
  refine (qSub_any a b ⟨#[]⟩ 3 _ O2 za zb (tab_keep HT.out HW1.out)).mono ?_
  rintro e w2 ⟨rfl, hb⟩
  have HW2 := Lib.hid (HW1.out.trans (hb.mono HW1.out.size))
  clear hb
  go_wp2_with fail
  refine (qMul_any a b ⟨#[]⟩ 3 _ O3 za zb (tab_keep HT.out HW2.out)).mono ?_
  rintro e w3 ⟨rfl, hb⟩
  have HW3 := Lib.hid (HW2.out.trans (hb.mono HW2.out.size))
  clear hb
  go_wp2_with fail
  refine (qDiv_any a b ⟨#[]⟩ 3 _ O4 za zb (tab_keep HT.out HW3.out)).mono ?_
  rintro e w4 ⟨rfl, hb⟩
  have HW4 := Lib.hid (HW3.out.trans (hb.mono HW3.out.size))
  clear hb
  go_wp2_with fail
  refine (rrRead_any a (some p) _ HO1 za).mono ?_
  rintro e w5 ⟨n1, a1, l1, c1, n2, a2, l2, c2, rfl, hq1, hb⟩
  rw [show ((some p) : Option Rat).isSome = true from rfl]
  have hA := (Below.refl w5.heap.size w5).alloc (Nat.le_refl _) (.cells #[.bool n1, .slice a1 l1 c1, .bool n2, .slice a2 l2 c2] 30)
  have HW5 := Lib.hid ((HW4.out.trans (hb.mono HW4.out.size)).alloc (Nat.le_trans HW4.out.size hb.size) (.cells #[.bool n1, .slice a1 l1 c1, .bool n2, .slice a2 l2 c2] 30))
  clear hb hA hq1
  go_wp2_with fail
  refine (rrRead_any b none _ HO2 zb).mono ?_
  rintro e w6 ⟨n3, a3, l3, c3, n4, a4, l4, c4, rfl, hq3, hb⟩
  rw [show (none : Option Rat).isSome = false from rfl]
  have hA := (Below.refl w6.heap.size w6).alloc (Nat.le_refl _) (.cells #[.bool n3, .slice a3 l3 c3, .bool n4, .slice a4 l4 c4] 30)
  have HW6 := Lib.hid ((HW5.out.trans (hb.mono HW5.out.size)).alloc (Nat.le_trans HW5.out.size hb.size) (.cells #[.bool n3, .slice a3 l3 c3, .bool n4, .slice a4 l4 c4] 30))
  clear hb hA hq3
  go_wp2_with fail
  refine (qawake_any _ (tab_keep HT.out HW6.out)).mono ?_
  rintro e w7 ⟨rfl, hb⟩
  have HW7 := Lib.hid (HW6.out.trans (hb.mono HW6.out.size))
  clear hb
  have hcc : ((⟨#[]⟩ : ByteArray) ++ (⟨#[]⟩ : ByteArray) ++ (⟨#[]⟩ : ByteArray) ++ (⟨#[]⟩ : ByteArray)).toList = [] := by decide +kernel
  go_wp2
  go_ret
  exact ⟨rfl, HW7.out⟩

set_option maxRecDepth 100000 in
set_option maxHeartbeats 12800000 in
theorem adds_zero (a b : ByteArray) (p q : Rat) (w : World) (htab : Tab w) (la : a.size ≤ 300) (lb : b.size ≤ 300) (HO1 : Hid (rval a.data.toList = some p)) (HO2 : Hid (rval b.data.toList = some q)) (hq0 : q = 0) :
    Calls Tryz.prog 5 #[.string a, .string b] w fun e w' => e = .returned (.bool true) ∧ Below w.heap.size w w' := by
  have HT := Lib.hid htab
  have HC0 : Hid (∀ (i : Nat) (h : i < [a, b].length), (w.alloc (.cells #[.string a, .string b] 9)).cell? ⟨w.heap.size, 0 + i, none⟩ = some (.string [a, b][i])) := Lib.hid (two_cells w a b 9)
  have HW0 := Lib.hid ((Below.refl w.heap.size w).alloc (Nat.le_refl _) (.cells #[.string a, .string b] 9))
  have HSH : Hid (shortB [a, b] = true) := Lib.hid (by rw [short_two, decide_eq_true la, decide_eq_true lb]; rfl)
  have za : a.size ≤ 100000 := by omega
  have zb : b.size ≤ 100000 := by omega
  clear htab
  have rp := RT.val HO1.out
  have rq := RT.val HO2.out
  have ha := RIs.of HO1.out
  have hb := RIs.of HO2.out
  obtain ⟨s1, e1, h1⟩ := ResIs.ex (p + q)
  obtain ⟨s2, e2, h2⟩ := ResIs.ex (p - q)
  obtain ⟨s3, e3, h3⟩ := ResIs.ex (p * q)
  have O1 : Hid (OpRes fAdd gAdd a b s1 e1) := Lib.hid (.mk ha hb (h1.quo (den_ne p q) (sum_div p q)))
  have O2 : Hid (OpRes fSub gAdd a b s2 e2) := Lib.hid (.mk ha hb (h2.quo (den_ne p q) (sub_div p q)))
  have O3 : Hid (OpRes fMul gAdd a b s3 e3) := Lib.hid (.mk ha hb (h3.quo (den_ne p q) (mul_div p q)))
  have R1 := Lib.hid h1
  have R2 := Lib.hid h2
  have R3 := Lib.hid h3
  have T1 := Lib.hid (rp.add rq)
  have T2 := Lib.hid (rp.sub rq)
  have T3 := Lib.hid (rp.mul rq)
  have HRP := Lib.hid rp
  have HRQ := Lib.hid rq
  have O4 : Hid (OpRes fDiv gDiv a b ⟨#[]⟩ 24) := Lib.hid (Div_zero ha hb hq0)
  have HZ : Hid (True ∧ decide (q = 0) = true) := Lib.hid ⟨trivial, decide_eq_true hq0⟩
  obtain ⟨r1, hr1⟩ : ∃ r, p + q = r := ⟨_, rfl⟩
  have HR1 := Lib.hid hr1
  rw [hr1] at R1 T1
  obtain ⟨r2, hr2⟩ : ∃ r, p - q = r := ⟨_, rfl⟩
  have HR2 := Lib.hid hr2
  rw [hr2] at R2 T2
  obtain ⟨r3, hr3⟩ : ∃ r, p * q = r := ⟨_, rfl⟩
  have HR3 := Lib.hid hr3
  rw [hr3] at R3 T3
  clear rp rq ha hb h1 h2 h3 la lb hq0 hr1 hr2 hr3
  go_enter Tryz.func5, Tryz.ntmps5
  go_wp2_with fail
  refine (short_any w.heap.size 0 2 [a, b] 2 rfl (by omega) true _ HC0 HSH).mono ?_
  rintro e w0 ⟨rfl, rfl⟩
  go_wp2_with fail
  refine (qAdd_any a b s1 e1 _ O1 za zb (tab_keep HT.out HW0.out)).mono ?_
  rintro e w1 ⟨rfl, hb⟩
  have HW1 := Lib.hid (HW0.out.trans (hb.mono HW0.out.size))
  clear hb
  go_wp2_with fail
  refine (qSub_any a b s2 e2 _ O2 za zb (tab_keep HT.out HW1.out)).mono ?_
  rintro e w2 ⟨rfl, hb⟩
  have HW2 := Lib.hid (HW1.out.trans (hb.mono HW1.out.size))
  clear hb
  go_wp2_with fail
  refine (qMul_any a b s3 e3 _ O3 za zb (tab_keep HT.out HW2.out)).mono ?_
  rintro e w3 ⟨rfl, hb⟩
  have HW3 := Lib.hid (HW2.out.trans (hb.mono HW2.out.size))
  clear hb
  go_wp2_with fail
  refine (qDiv_any a b ⟨#[]⟩ 24 _ O4 za zb (tab_keep HT.out HW3.out)).mono ?_
  rintro e w4 ⟨rfl, hb⟩
  have HW4 := Lib.hid (HW3.out.trans (hb.mono HW3.out.size))
  clear hb
  go_wp2_with fail
  refine (rrRead_any a (some p) _ HO1 za).mono ?_
  rintro e w5 ⟨n1, a1, l1, c1, n2, a2, l2, c2, rfl, hq1, hb⟩
  rw [show ((some p) : Option Rat).isSome = true from rfl]
  have hA := (Below.refl w5.heap.size w5).alloc (Nat.le_refl _) (.cells #[.bool n1, .slice a1 l1 c1, .bool n2, .slice a2 l2 c2] 30)
  have HW5 := Lib.hid ((HW4.out.trans (hb.mono HW4.out.size)).alloc (Nat.le_trans HW4.out.size hb.size) (.cells #[.bool n1, .slice a1 l1 c1, .bool n2, .slice a2 l2 c2] 30))
  have HX := Lib.hid ((hq1 p rfl).keep hA (Nat.le_refl _))
  have HBX := Lib.hid (B4.new w5 (.bool n1) (.slice a1 l1 c1) (.bool n2) (.slice a2 l2 c2) 30)
  clear hb hA hq1
  go_wp2_with fail
  refine (rrRead_any b (some q) _ HO2 zb).mono ?_
  rintro e w6 ⟨n3, a3, l3, c3, n4, a4, l4, c4, rfl, hq3, hb⟩
  rw [show ((some q) : Option Rat).isSome = true from rfl]
  have hA := (Below.refl w6.heap.size w6).alloc (Nat.le_refl _) (.cells #[.bool n3, .slice a3 l3 c3, .bool n4, .slice a4 l4 c4] 30)
  have HW6 := Lib.hid ((HW5.out.trans (hb.mono HW5.out.size)).alloc (Nat.le_trans HW5.out.size hb.size) (.cells #[.bool n3, .slice a3 l3 c3, .bool n4, .slice a4 l4 c4] 30))
  have HY := Lib.hid ((hq3 q rfl).keep hA (Nat.le_refl _))
  have HBY := Lib.hid (B4.new w6 (.bool n3) (.slice a3 l3 c3) (.bool n4) (.slice a4 l4 c4) 30)
  have HX := Lib.hid ((HX.out.keep hb (Nat.le_refl _)).keep hA (Nat.le_refl _))
  have HBX := Lib.hid ((HBX.out.below hb HBX.out.lt).below hA (Nat.lt_of_lt_of_le HBX.out.lt hb.size))
  clear hb hA hq3
  obtain ⟨k0, k1, k2, k3⟩ := HBX.out.cell
  obtain ⟨k4, k5, k6, k7⟩ := HBY.out.cell
  go_wp2_with fail
  refine (rrAdd_any _ _ p q 400 r1 _ HX.out HY.out HRP.out HRQ.out (by omega) HR1).mono ?_
  rintro e w7 ⟨v, rfl, hv, hb⟩
  have HW7 := Lib.hid (HW6.out.trans (hb.mono HW6.out.size))
  have HV := Lib.hid hv
  have HX := Lib.hid (HX.out.keep hb (Nat.le_refl _))
  have HY := Lib.hid (HY.out.keep hb (Nat.le_refl _))
  have HBX := Lib.hid (HBX.out.below hb HBX.out.lt)
  have HBY := Lib.hid (HBY.out.below hb HBY.out.lt)
  obtain ⟨m1, b1, j1, d1, m2, b2, j2, d2, rfl, _, _⟩ := hv
  clear hb k0 k1 k2 k3 k4 k5 k6 k7
  go_wp2_with fail
  refine (result_any s1 e1 _ r1 (400 + 400 + 1) _ HV.out T1.out (by omega) R1).mono ?_
  rintro e w8 ⟨rfl, hb⟩
  have HW8 := Lib.hid (HW7.out.trans (hb.mono HW7.out.size))
  have HX := Lib.hid (HX.out.keep hb (Nat.le_refl _))
  have HY := Lib.hid (HY.out.keep hb (Nat.le_refl _))
  have HBX := Lib.hid (HBX.out.below hb HBX.out.lt)
  have HBY := Lib.hid (HBY.out.below hb HBY.out.lt)
  clear hb HV
  obtain ⟨k0, k1, k2, k3⟩ := HBX.out.cell
  obtain ⟨k4, k5, k6, k7⟩ := HBY.out.cell
  go_wp2_with fail
  refine (rrSub_any _ _ p q 400 r2 _ HX.out HY.out HRP.out HRQ.out (by omega) HR2).mono ?_
  rintro e w9 ⟨v, rfl, hv, hb⟩
  have HW9 := Lib.hid (HW8.out.trans (hb.mono HW8.out.size))
  have HV := Lib.hid hv
  have HX := Lib.hid (HX.out.keep hb (Nat.le_refl _))
  have HY := Lib.hid (HY.out.keep hb (Nat.le_refl _))
  have HBX := Lib.hid (HBX.out.below hb HBX.out.lt)
  have HBY := Lib.hid (HBY.out.below hb HBY.out.lt)
  obtain ⟨m1, b1, j1, d1, m2, b2, j2, d2, rfl, _, _⟩ := hv
  clear hb k0 k1 k2 k3 k4 k5 k6 k7
  go_wp2_with fail
  refine (result_any s2 e2 _ r2 (400 + 400 + 1) _ HV.out T2.out (by omega) R2).mono ?_
  rintro e w10 ⟨rfl, hb⟩
  have HW10 := Lib.hid (HW9.out.trans (hb.mono HW9.out.size))
  have HX := Lib.hid (HX.out.keep hb (Nat.le_refl _))
  have HY := Lib.hid (HY.out.keep hb (Nat.le_refl _))
  have HBX := Lib.hid (HBX.out.below hb HBX.out.lt)
  have HBY := Lib.hid (HBY.out.below hb HBY.out.lt)
  clear hb HV
  obtain ⟨k0, k1, k2, k3⟩ := HBX.out.cell
  obtain ⟨k4, k5, k6, k7⟩ := HBY.out.cell
  go_wp2_with fail
  refine (rrMul_any _ _ p q 400 r3 _ HX.out HY.out HRP.out HRQ.out (by omega) HR3).mono ?_
  rintro e w11 ⟨v, rfl, hv, hb⟩
  have HW11 := Lib.hid (HW10.out.trans (hb.mono HW10.out.size))
  have HV := Lib.hid hv
  have HX := Lib.hid (HX.out.keep hb (Nat.le_refl _))
  have HY := Lib.hid (HY.out.keep hb (Nat.le_refl _))
  have HBX := Lib.hid (HBX.out.below hb HBX.out.lt)
  have HBY := Lib.hid (HBY.out.below hb HBY.out.lt)
  obtain ⟨m1, b1, j1, d1, m2, b2, j2, d2, rfl, _, _⟩ := hv
  clear hb k0 k1 k2 k3 k4 k5 k6 k7
  go_wp2_with fail
  refine (result_any s3 e3 _ r3 (400 + 400) _ HV.out T3.out (by omega) R3).mono ?_
  rintro e w12 ⟨rfl, hb⟩
  have HW12 := Lib.hid (HW11.out.trans (hb.mono HW11.out.size))
  have HX := Lib.hid (HX.out.keep hb (Nat.le_refl _))
  have HY := Lib.hid (HY.out.keep hb (Nat.le_refl _))
  have HBX := Lib.hid (HBX.out.below hb HBX.out.lt)
  have HBY := Lib.hid (HBY.out.below hb HBY.out.lt)
  clear hb HV
  obtain ⟨k0, k1, k2, k3⟩ := HBX.out.cell
  obtain ⟨k4, k5, k6, k7⟩ := HBY.out.cell
  go_wp2_with fail
  refine (rrZero_any _ q true _ HY.out HZ).mono ?_
  rintro e w13 ⟨rfl, hb⟩
  have HW13 := Lib.hid (HW12.out.trans (hb.mono HW12.out.size))
  have HX := Lib.hid (HX.out.keep hb (Nat.le_refl _))
  have HY := Lib.hid (HY.out.keep hb (Nat.le_refl _))
  have HBX := Lib.hid (HBX.out.below hb HBX.out.lt)
  have HBY := Lib.hid (HBY.out.below hb HBY.out.lt)
  clear hb k0 k1 k2 k3 k4 k5 k6 k7
  go_wp2_with fail
  refine (qawake_any _ (tab_keep HT.out HW13.out)).mono ?_
  rintro e w14 ⟨rfl, hb⟩
  have HW14 := Lib.hid (HW13.out.trans (hb.mono HW13.out.size))
  have HX := Lib.hid (HX.out.keep hb (Nat.le_refl _))
  have HY := Lib.hid (HY.out.keep hb (Nat.le_refl _))
  have HBX := Lib.hid (HBX.out.below hb HBX.out.lt)
  have HBY := Lib.hid (HBY.out.below hb HBY.out.lt)
  clear hb
  go_wp2
  go_ret
  exact ⟨rfl, HW14.out⟩

set_option maxRecDepth 100000 in
set_option maxHeartbeats 12800000 in
theorem adds_more (a b : ByteArray) (p q : Rat) (w : World) (htab : Tab w) (la : a.size ≤ 300) (lb : b.size ≤ 300) (HO1 : Hid (rval a.data.toList = some p)) (HO2 : Hid (rval b.data.toList = some q)) (hq0 : q ≠ 0) :
    Calls Tryz.prog 5 #[.string a, .string b] w fun e w' => e = .returned (.bool true) ∧ Below w.heap.size w w' := by
  have HT := Lib.hid htab
  have HC0 : Hid (∀ (i : Nat) (h : i < [a, b].length), (w.alloc (.cells #[.string a, .string b] 9)).cell? ⟨w.heap.size, 0 + i, none⟩ = some (.string [a, b][i])) := Lib.hid (two_cells w a b 9)
  have HW0 := Lib.hid ((Below.refl w.heap.size w).alloc (Nat.le_refl _) (.cells #[.string a, .string b] 9))
  have HSH : Hid (shortB [a, b] = true) := Lib.hid (by rw [short_two, decide_eq_true la, decide_eq_true lb]; rfl)
  have za : a.size ≤ 100000 := by omega
  have zb : b.size ≤ 100000 := by omega
  clear htab
  have rp := RT.val HO1.out
  have rq := RT.val HO2.out
  have ha := RIs.of HO1.out
  have hb := RIs.of HO2.out
  obtain ⟨s1, e1, h1⟩ := ResIs.ex (p + q)
  obtain ⟨s2, e2, h2⟩ := ResIs.ex (p - q)
  obtain ⟨s3, e3, h3⟩ := ResIs.ex (p * q)
  have O1 : Hid (OpRes fAdd gAdd a b s1 e1) := Lib.hid (.mk ha hb (h1.quo (den_ne p q) (sum_div p q)))
  have O2 : Hid (OpRes fSub gAdd a b s2 e2) := Lib.hid (.mk ha hb (h2.quo (den_ne p q) (sub_div p q)))
  have O3 : Hid (OpRes fMul gAdd a b s3 e3) := Lib.hid (.mk ha hb (h3.quo (den_ne p q) (mul_div p q)))
  have R1 := Lib.hid h1
  have R2 := Lib.hid h2
  have R3 := Lib.hid h3
  have T1 := Lib.hid (rp.add rq)
  have T2 := Lib.hid (rp.sub rq)
  have T3 := Lib.hid (rp.mul rq)
  have HRP := Lib.hid rp
  have HRQ := Lib.hid rq
  obtain ⟨s4, e4, h4⟩ := ResIs.ex (p / q)
  have O4 : Hid (OpRes fDiv gDiv a b s4 e4) := Lib.hid (.mk ha hb (h4.quo (gDiv_ne hq0) (quo_div p q)))
  have R4 := Lib.hid h4
  have T4 := Lib.hid (rp.div rq hq0)
  have HZ : Hid (True ∧ decide (q = 0) = false) := Lib.hid ⟨trivial, decide_eq_false hq0⟩
  have HQ0 := Lib.hid hq0
  clear h4
  obtain ⟨r1, hr1⟩ : ∃ r, p + q = r := ⟨_, rfl⟩
  have HR1 := Lib.hid hr1
  rw [hr1] at R1 T1
  obtain ⟨r2, hr2⟩ : ∃ r, p - q = r := ⟨_, rfl⟩
  have HR2 := Lib.hid hr2
  rw [hr2] at R2 T2
  obtain ⟨r3, hr3⟩ : ∃ r, p * q = r := ⟨_, rfl⟩
  have HR3 := Lib.hid hr3
  rw [hr3] at R3 T3
  obtain ⟨r4, hr4⟩ : ∃ r, p / q = r := ⟨_, rfl⟩
  have HR4 := Lib.hid hr4
  rw [hr4] at R4 T4
  clear rp rq ha hb h1 h2 h3 la lb hq0 hr1 hr2 hr3 hr4
  go_enter Tryz.func5, Tryz.ntmps5
  go_wp2_with fail
  refine (short_any w.heap.size 0 2 [a, b] 2 rfl (by omega) true _ HC0 HSH).mono ?_
  rintro e w0 ⟨rfl, rfl⟩
  go_wp2_with fail
  refine (qAdd_any a b s1 e1 _ O1 za zb (tab_keep HT.out HW0.out)).mono ?_
  rintro e w1 ⟨rfl, hb⟩
  have HW1 := Lib.hid (HW0.out.trans (hb.mono HW0.out.size))
  clear hb
  go_wp2_with fail
  refine (qSub_any a b s2 e2 _ O2 za zb (tab_keep HT.out HW1.out)).mono ?_
  rintro e w2 ⟨rfl, hb⟩
  have HW2 := Lib.hid (HW1.out.trans (hb.mono HW1.out.size))
  clear hb
  go_wp2_with fail
  refine (qMul_any a b s3 e3 _ O3 za zb (tab_keep HT.out HW2.out)).mono ?_
  rintro e w3 ⟨rfl, hb⟩
  have HW3 := Lib.hid (HW2.out.trans (hb.mono HW2.out.size))
  clear hb
  go_wp2_with fail
  refine (qDiv_any a b s4 e4 _ O4 za zb (tab_keep HT.out HW3.out)).mono ?_
  rintro e w4 ⟨rfl, hb⟩
  have HW4 := Lib.hid (HW3.out.trans (hb.mono HW3.out.size))
  clear hb
  go_wp2_with fail
  refine (rrRead_any a (some p) _ HO1 za).mono ?_
  rintro e w5 ⟨n1, a1, l1, c1, n2, a2, l2, c2, rfl, hq1, hb⟩
  rw [show ((some p) : Option Rat).isSome = true from rfl]
  have hA := (Below.refl w5.heap.size w5).alloc (Nat.le_refl _) (.cells #[.bool n1, .slice a1 l1 c1, .bool n2, .slice a2 l2 c2] 30)
  have HW5 := Lib.hid ((HW4.out.trans (hb.mono HW4.out.size)).alloc (Nat.le_trans HW4.out.size hb.size) (.cells #[.bool n1, .slice a1 l1 c1, .bool n2, .slice a2 l2 c2] 30))
  have HX := Lib.hid ((hq1 p rfl).keep hA (Nat.le_refl _))
  have HBX := Lib.hid (B4.new w5 (.bool n1) (.slice a1 l1 c1) (.bool n2) (.slice a2 l2 c2) 30)
  clear hb hA hq1
  go_wp2_with fail
  refine (rrRead_any b (some q) _ HO2 zb).mono ?_
  rintro e w6 ⟨n3, a3, l3, c3, n4, a4, l4, c4, rfl, hq3, hb⟩
  rw [show ((some q) : Option Rat).isSome = true from rfl]
  have hA := (Below.refl w6.heap.size w6).alloc (Nat.le_refl _) (.cells #[.bool n3, .slice a3 l3 c3, .bool n4, .slice a4 l4 c4] 30)
  have HW6 := Lib.hid ((HW5.out.trans (hb.mono HW5.out.size)).alloc (Nat.le_trans HW5.out.size hb.size) (.cells #[.bool n3, .slice a3 l3 c3, .bool n4, .slice a4 l4 c4] 30))
  have HY := Lib.hid ((hq3 q rfl).keep hA (Nat.le_refl _))
  have HBY := Lib.hid (B4.new w6 (.bool n3) (.slice a3 l3 c3) (.bool n4) (.slice a4 l4 c4) 30)
  have HX := Lib.hid ((HX.out.keep hb (Nat.le_refl _)).keep hA (Nat.le_refl _))
  have HBX := Lib.hid ((HBX.out.below hb HBX.out.lt).below hA (Nat.lt_of_lt_of_le HBX.out.lt hb.size))
  clear hb hA hq3
  obtain ⟨k0, k1, k2, k3⟩ := HBX.out.cell
  obtain ⟨k4, k5, k6, k7⟩ := HBY.out.cell
  go_wp2_with fail
  refine (rrAdd_any _ _ p q 400 r1 _ HX.out HY.out HRP.out HRQ.out (by omega) HR1).mono ?_
  rintro e w7 ⟨v, rfl, hv, hb⟩
  have HW7 := Lib.hid (HW6.out.trans (hb.mono HW6.out.size))
  have HV := Lib.hid hv
  have HX := Lib.hid (HX.out.keep hb (Nat.le_refl _))
  have HY := Lib.hid (HY.out.keep hb (Nat.le_refl _))
  have HBX := Lib.hid (HBX.out.below hb HBX.out.lt)
  have HBY := Lib.hid (HBY.out.below hb HBY.out.lt)
  obtain ⟨m1, b1, j1, d1, m2, b2, j2, d2, rfl, _, _⟩ := hv
  clear hb k0 k1 k2 k3 k4 k5 k6 k7
  go_wp2_with fail
  refine (result_any s1 e1 _ r1 (400 + 400 + 1) _ HV.out T1.out (by omega) R1).mono ?_
  rintro e w8 ⟨rfl, hb⟩
  have HW8 := Lib.hid (HW7.out.trans (hb.mono HW7.out.size))
  have HX := Lib.hid (HX.out.keep hb (Nat.le_refl _))
  have HY := Lib.hid (HY.out.keep hb (Nat.le_refl _))
  have HBX := Lib.hid (HBX.out.below hb HBX.out.lt)
  have HBY := Lib.hid (HBY.out.below hb HBY.out.lt)
  clear hb HV
  obtain ⟨k0, k1, k2, k3⟩ := HBX.out.cell
  obtain ⟨k4, k5, k6, k7⟩ := HBY.out.cell
  go_wp2_with fail
  refine (rrSub_any _ _ p q 400 r2 _ HX.out HY.out HRP.out HRQ.out (by omega) HR2).mono ?_
  rintro e w9 ⟨v, rfl, hv, hb⟩
  have HW9 := Lib.hid (HW8.out.trans (hb.mono HW8.out.size))
  have HV := Lib.hid hv
  have HX := Lib.hid (HX.out.keep hb (Nat.le_refl _))
  have HY := Lib.hid (HY.out.keep hb (Nat.le_refl _))
  have HBX := Lib.hid (HBX.out.below hb HBX.out.lt)
  have HBY := Lib.hid (HBY.out.below hb HBY.out.lt)
  obtain ⟨m1, b1, j1, d1, m2, b2, j2, d2, rfl, _, _⟩ := hv
  clear hb k0 k1 k2 k3 k4 k5 k6 k7
  go_wp2_with fail
  refine (result_any s2 e2 _ r2 (400 + 400 + 1) _ HV.out T2.out (by omega) R2).mono ?_
  rintro e w10 ⟨rfl, hb⟩
  have HW10 := Lib.hid (HW9.out.trans (hb.mono HW9.out.size))
  have HX := Lib.hid (HX.out.keep hb (Nat.le_refl _))
  have HY := Lib.hid (HY.out.keep hb (Nat.le_refl _))
  have HBX := Lib.hid (HBX.out.below hb HBX.out.lt)
  have HBY := Lib.hid (HBY.out.below hb HBY.out.lt)
  clear hb HV
  obtain ⟨k0, k1, k2, k3⟩ := HBX.out.cell
  obtain ⟨k4, k5, k6, k7⟩ := HBY.out.cell
  go_wp2_with fail
  refine (rrMul_any _ _ p q 400 r3 _ HX.out HY.out HRP.out HRQ.out (by omega) HR3).mono ?_
  rintro e w11 ⟨v, rfl, hv, hb⟩
  have HW11 := Lib.hid (HW10.out.trans (hb.mono HW10.out.size))
  have HV := Lib.hid hv
  have HX := Lib.hid (HX.out.keep hb (Nat.le_refl _))
  have HY := Lib.hid (HY.out.keep hb (Nat.le_refl _))
  have HBX := Lib.hid (HBX.out.below hb HBX.out.lt)
  have HBY := Lib.hid (HBY.out.below hb HBY.out.lt)
  obtain ⟨m1, b1, j1, d1, m2, b2, j2, d2, rfl, _, _⟩ := hv
  clear hb k0 k1 k2 k3 k4 k5 k6 k7
  go_wp2_with fail
  refine (result_any s3 e3 _ r3 (400 + 400) _ HV.out T3.out (by omega) R3).mono ?_
  rintro e w12 ⟨rfl, hb⟩
  have HW12 := Lib.hid (HW11.out.trans (hb.mono HW11.out.size))
  have HX := Lib.hid (HX.out.keep hb (Nat.le_refl _))
  have HY := Lib.hid (HY.out.keep hb (Nat.le_refl _))
  have HBX := Lib.hid (HBX.out.below hb HBX.out.lt)
  have HBY := Lib.hid (HBY.out.below hb HBY.out.lt)
  clear hb HV
  obtain ⟨k0, k1, k2, k3⟩ := HBX.out.cell
  obtain ⟨k4, k5, k6, k7⟩ := HBY.out.cell
  go_wp2_with fail
  refine (rrZero_any _ q false _ HY.out HZ).mono ?_
  rintro e w13 ⟨rfl, hb⟩
  have HW13 := Lib.hid (HW12.out.trans (hb.mono HW12.out.size))
  have HX := Lib.hid (HX.out.keep hb (Nat.le_refl _))
  have HY := Lib.hid (HY.out.keep hb (Nat.le_refl _))
  have HBX := Lib.hid (HBX.out.below hb HBX.out.lt)
  have HBY := Lib.hid (HBY.out.below hb HBY.out.lt)
  clear hb k0 k1 k2 k3 k4 k5 k6 k7
  go_wp2_with fail
  refine (qawake_any _ (tab_keep HT.out HW13.out)).mono ?_
  rintro e w14 ⟨rfl, hb⟩
  have HW14 := Lib.hid (HW13.out.trans (hb.mono HW13.out.size))
  have HX := Lib.hid (HX.out.keep hb (Nat.le_refl _))
  have HY := Lib.hid (HY.out.keep hb (Nat.le_refl _))
  have HBX := Lib.hid (HBX.out.below hb HBX.out.lt)
  have HBY := Lib.hid (HBY.out.below hb HBY.out.lt)
  clear hb
  obtain ⟨k0, k1, k2, k3⟩ := HBX.out.cell
  obtain ⟨k4, k5, k6, k7⟩ := HBY.out.cell
  go_wp2_with fail
  refine (rrDiv_any _ _ p q 400 r4 _ HX.out HY.out HRP.out HRQ.out (by omega) HQ0.out HR4).mono ?_
  rintro e w15 ⟨v, rfl, hv, hb⟩
  have HW15 := Lib.hid (HW14.out.trans (hb.mono HW14.out.size))
  have HV := Lib.hid hv
  have HX := Lib.hid (HX.out.keep hb (Nat.le_refl _))
  have HY := Lib.hid (HY.out.keep hb (Nat.le_refl _))
  have HBX := Lib.hid (HBX.out.below hb HBX.out.lt)
  have HBY := Lib.hid (HBY.out.below hb HBY.out.lt)
  obtain ⟨m1, b1, j1, d1, m2, b2, j2, d2, rfl, _, _⟩ := hv
  clear hb k0 k1 k2 k3 k4 k5 k6 k7
  go_wp2_with fail
  refine (result_any s4 e4 _ r4 (400 + 400) _ HV.out T4.out (by omega) R4).mono ?_
  rintro e w16 ⟨rfl, hb⟩
  have HW16 := Lib.hid (HW15.out.trans (hb.mono HW15.out.size))
  have HX := Lib.hid (HX.out.keep hb (Nat.le_refl _))
  have HY := Lib.hid (HY.out.keep hb (Nat.le_refl _))
  have HBX := Lib.hid (HBX.out.below hb HBX.out.lt)
  have HBY := Lib.hid (HBY.out.below hb HBY.out.lt)
  clear hb HV
  go_wp2
  go_ret
  exact ⟨rfl, HW16.out⟩

theorem law_RationalAdds (a b : ByteArray) (w : World) (htab : Tab w) :
    Calls Tryz.prog 5 #[.string a, .string b] w fun e w' => e = .returned (.bool true) ∧ Below w.heap.size w w' := by
  by_cases h : a.size ≤ 300 ∧ b.size ≤ 300
  · obtain ⟨la, lb⟩ := h
    cases h1 : rval a.data.toList with
    | none => exact adds_none1 a b _ w htab la lb (Lib.hid h1) (Lib.hid rfl)
    | some p =>
      cases h2 : rval b.data.toList with
      | none => exact adds_none2 a b p w htab la lb (Lib.hid h1) (Lib.hid h2)
      | some q =>
        by_cases hq : q = 0
        · exact adds_zero a b p q w htab la lb (Lib.hid h1) (Lib.hid h2) hq
        · exact adds_more a b p q w htab la lb (Lib.hid h1) (Lib.hid h2) hq
  · exact adds_out a b w htab h

end Go.Proofs.YtpnofebhpeiepaaGreatDoor
