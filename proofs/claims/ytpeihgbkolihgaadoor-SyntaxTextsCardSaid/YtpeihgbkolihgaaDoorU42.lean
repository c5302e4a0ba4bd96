/- The law SyntaxTexts. -/
import Derived.Test.YtpeihgbkolihgaaDoorU40
import Derived.Test.YtpeihgbkolihgaaDoorU41
set_option linter.unusedVariables false
set_option linter.unusedSimpArgs false
namespace Go.Proofs.YtpeihgbkolihgaaDoor
open Go.RowKit

namespace Sx
theorem headT_few {x : LeafM} (h : small x = true) (h2 : In64 x.num) : (headT x).length ≤ 90 := by
  unfold small at h
  rw [Bool.and_eq_true, decide_eq_true_eq, decide_eq_true_eq] at h
  unfold headT textT numT
  have h1 := form_size x.kind.toNat
  rw [Lib.size_eq] at h1
  have h3 := h.2
  rw [Lib.size_eq] at h3
  have h4 := Lib.itoa_length_le x.num h2.1 (by have := h2.2; omega)
  simp only [List.cons_append, List.length_cons, List.length_append]
  split <;> split <;> simp only [List.length_cons, List.length_nil] <;> omega
theorem dump_few {L : List LeafM} (hS : ∀ x ∈ L, small x = true) (h64 : H64 L) : ∀ {k : Nat} {t : Int}, Hh L k t → (dumpF L k t).length + 1 ≤ 92 * (pre L k t).length
  | 0, _, h => h.elim
  | k + 1, t, h => by
    rw [dumpF, pre, List.length_append, List.length_append, List.length_cons, List.length_cons, List.length_nil]
    have hm := leafOf_mem h.1
    have h1 := headT_few (hS _ hm) (h64 _ hm).2.1
    have : ∀ (l : List Int), (∀ q ∈ l, Hh L k q) → (l.flatMap (fun q => 32 :: dumpF L k q)).length ≤ 92 * (l.flatMap (pre L k)).length := by
      intro l
      induction l with
      | nil => intro _; exact Nat.zero_le _
      | cons a l ih2 =>
        intro hl
        rw [List.flatMap_cons, List.flatMap_cons, List.length_append, List.length_append, List.length_cons]
        have h2 := dump_few hS h64 (hl a (by simp))
        have h3 := ih2 fun q hq => hl q (by simp [hq])
        omega
    have h2 := this _ h.2
    omega
theorem few_text {L : List LeafM} {root : Int} (hf : few L = true) (h64 : H64 L) (hc : check L root = 0) : dumpR L root = (text L root, 0) := by
  have ok := check_ok hc
  unfold few at hf
  rw [Bool.and_eq_true, decide_eq_true_eq, List.all_eq_true] at hf
  have h1 := dump_few hf.1 h64 ok.hh
  rw [ok.all] at h1
  have h2 : 92 * L.length ≤ 92 * 120 := Nat.mul_le_mul_left _ hf.2
  unfold dumpR
  rw [if_neg (by rw [hc]; simp), if_neg (by unfold text; omega)]
end Sx

theorem str_eq (x y : List UInt8) : ((⟨x.toArray⟩ : ByteArray).toList == (⟨y.toArray⟩ : ByteArray).toList) = decide (x = y) := by
  rw [Lib.toList_data, Lib.toList_data]
  by_cases h : x = y
  · rw [decide_eq_true h, h]; simp
  · rw [decide_eq_false h]
    apply beq_eq_false_iff_ne.2
    intro e
    exact h (by simpa using e)

set_option maxRecDepth 100000 in
set_option maxHeartbeats 25600000 in
theorem law_SyntaxTexts (va : Value) (La : List LeafM) (ra : Int) (vb : Value) (Lb : List LeafM) (rb : Int) (w : World) (ha : LsAt w va La) (h64a : Sx.H64 La) (hra : In64 ra) (hla : La.length ≤ maxLen) (hb : LsAt w vb Lb) (h64b : Sx.H64 Lb) (hrb : In64 rb) (hlb : Lb.length ≤ maxLen) (htab : Tab w) :
    Calls Tryd.prog 6 #[.agg #[va, .int .i64 ra], .agg #[vb, .int .i64 rb]] w fun e w' => e = .returned (.bool true) ∧ Below w.heap.size w w' := by
  obtain ⟨aa, ac, rfl⟩ := ha.slice
  obtain ⟨ba, bc, rfl⟩ := hb.slice
  obtain ⟨an, hna⟩ : ∃ n, La.length = n := ⟨_, rfl⟩
  obtain ⟨bn, hnb⟩ : ∃ n, Lb.length = n := ⟨_, rfl⟩
  rw [hna] at ha ⊢
  rw [hnb] at hb ⊢
  obtain ⟨A, hA⟩ : ∃ A, w.heap.size = A := ⟨_, rfl⟩
  obtain ⟨W1, h1⟩ : ∃ W, W = w.alloc (treeO (.slice aa an ac) ra) := ⟨_, rfl⟩
  obtain ⟨W2, h2⟩ : ∃ W, W = W1.alloc (treeO (.slice ba bn bc) rb) := ⟨_, rfl⟩
  have s1 : W1.heap.size = A + 1 := by rw [h1]; simp [hA]
  have b1 : W1.heap[A]? = some (treeO (.slice aa an ac) ra) := by rw [h1, ← hA]; exact World.alloc_heap_new w _
  have b2 : W2.heap[A + 1]? = some (treeO (.slice ba bn bc) rb) := by rw [h2, ← s1]; exact World.alloc_heap_new W1 _
  have b3 : W2.heap[A]? = some (treeO (.slice aa an ac) ra) := by rw [h2]; exact (Below.heap_alloc _ _ _ (lt_of b1)).trans b1
  have hB : Below w.heap.size w W2 := by rw [h2, h1]; exact ((Below.refl _ w).alloc (Nat.le_refl _) _).alloc (by simp) _
  have HSX : Hid (∀ X : World, Below W2.heap.size W2 X → X.cell? ⟨A, 0, none⟩ = some (.slice aa an ac) ∧ X.cell? ⟨A, 1, none⟩ = some (.int .i64 ra) ∧ X.cell? ⟨A + 1, 0, none⟩ = some (.slice ba bn bc) ∧ X.cell? ⟨A + 1, 1, none⟩ = some (.int .i64 rb)) := Lib.hid (fun X hX => ⟨(hX.cell (p := ⟨A, 0, none⟩) (lt_of b3)).trans (cell_at (i := 0) b3 rfl), (hX.cell (p := ⟨A, 1, none⟩) (lt_of b3)).trans (cell_at (i := 1) b3 rfl), (hX.cell (p := ⟨A + 1, 0, none⟩) (lt_of b2)).trans (cell_at (i := 0) b2 rfl), (hX.cell (p := ⟨A + 1, 1, none⟩) (lt_of b2)).trans (cell_at (i := 1) b2 rfl)⟩)
  have HA2 := Lib.hid (ha.keep hB (Nat.le_refl _))
  have HB2 := Lib.hid (hb.keep hB (Nat.le_refl _))
  have HTB := Lib.hid (tab_keep htab hB (Nat.le_refl _))
  have HB := Lib.hid hB
  have HA := Lib.hid (And.intro trivial hA)
  have HNA := Lib.hid hna
  have HNB := Lib.hid hnb
  have H64A := Lib.hid h64a
  have H64B := Lib.hid h64b
  have HLA : Hid (La.length ≤ 9223372036854775807) := Lib.hid hla
  have HLB : Hid (Lb.length ≤ 9223372036854775807) := Lib.hid hlb
  have hch := h2
  rw [h1] at hch
  unfold treeO at hch
  have HCH := Lib.hid hch.symm
  have HAW := Lib.hid (awake_any W2 HTB.out)
  clear h1 h2 s1 b1 b2 b3 hB hA hch ha hb hna hnb h64a h64b hla hlb htab hra hrb
  go_enter Tryd.func6, Tryd.ntmps6
  go_upto_region 1 with fail
  rw [HCH.out, HA.out.2]
  clear HCH
  go_wp2_with fail
  refine HAW.out.mono ?_
  rintro e w3 ⟨rfl, hb3⟩
  have HB3 := Lib.hid hb3
  clear hb3 HAW
  have HC := fun X (hX : Below W2.heap.size W2 X) => Few_any _ La ra (Sx.few La) X (HA2.out.keep hX (Nat.le_refl _)) HLA.out (Lib.hid rfl)
  obtain ⟨x0, x1, x2, x3⟩ := HSX.out w3 HB3.out
  have HC1 := Lib.hid (HC w3 HB3.out)
  clear HC
  obtain ⟨fa, hfa⟩ : ∃ f, Sx.few La = f := ⟨_, rfl⟩
  rw [hfa] at HC1
  have HFA := Lib.hid hfa
  clear hfa
  go_upto_region 3 with fail
  go_wp2_with fail
  refine HC1.out.mono ?_
  rintro e w4 ⟨rfl, hb4⟩
  have HB4 := Lib.hid (HB3.out.trans (hb4.mono HB3.out.size))
  clear hb4 HC1 HB3 x0 x1 x2 x3
  cases fa with
  | false =>
    go_wp2
    go_ret
    exact ⟨rfl, HB.out.trans (HB4.out.mono HB.out.size)⟩
  | true =>
  obtain ⟨x0, x1, x2, x3⟩ := HSX.out w4 HB4.out
  have HC2 := Lib.hid (Few_any _ Lb rb (Sx.few Lb) w4 (HB2.out.keep HB4.out (Nat.le_refl _)) HLB.out (Lib.hid rfl))
  obtain ⟨fb, hfb⟩ : ∃ f, Sx.few Lb = f := ⟨_, rfl⟩
  rw [hfb] at HC2
  have HFB := Lib.hid hfb
  clear hfb
  go_wp2_with fail
  refine HC2.out.mono ?_
  rintro e w5 ⟨rfl, hb5⟩
  have HB5 := Lib.hid (HB4.out.trans (hb5.mono HB4.out.size))
  clear hb5 HC2 HB4 x0 x1 x2 x3
  cases fb with
  | false =>
    go_wp2
    go_ret
    exact ⟨rfl, HB.out.trans (HB5.out.mono HB.out.size)⟩
  | true =>
  have HSA := Lib.hid (Sx.few_sm HFA.out H64A.out)
  have HSB := Lib.hid (Sx.few_sm HFB.out H64B.out)
  obtain ⟨x0, x1, x2, x3⟩ := HSX.out w5 HB5.out
  have HC3 := Lib.hid (Check_any _ La ra w5 (HA2.out.keep HB5.out (Nat.le_refl _)) HSA.out)
  obtain ⟨ca, hca⟩ : ∃ c, Sx.check La ra = c := ⟨_, rfl⟩
  rw [hca] at HC3
  have HQA := Lib.hid hca
  clear hca
  go_wp2_with fail
  refine HC3.out.mono ?_
  rintro e w6 ⟨rfl, hb6⟩
  have HB6 := Lib.hid (HB5.out.trans (hb6.mono HB5.out.size))
  clear hb6 HC3 HB5 x0 x1 x2 x3
  by_cases hc : ca = 0
  rotate_left
  · have hcf : (ca == 0) = false := by simpa using hc
    go_wp2
    go_ret
    exact ⟨rfl, HB.out.trans (HB6.out.mono HB.out.size)⟩
  subst hc
  obtain ⟨x0, x1, x2, x3⟩ := HSX.out w6 HB6.out
  have HC4 := Lib.hid (Check_any _ Lb rb w6 (HB2.out.keep HB6.out (Nat.le_refl _)) HSB.out)
  obtain ⟨cb, hcb⟩ : ∃ c, Sx.check Lb rb = c := ⟨_, rfl⟩
  rw [hcb] at HC4
  have HQB := Lib.hid hcb
  clear hcb
  go_wp2_with fail
  refine HC4.out.mono ?_
  rintro e w7 ⟨rfl, hb7⟩
  have HB7 := Lib.hid (HB6.out.trans (hb7.mono HB6.out.size))
  clear hb7 HC4 HB6 x0 x1 x2 x3
  by_cases hc : cb = 0
  rotate_left
  · have hcf : (cb == 0) = false := by simpa using hc
    go_wp2
    go_ret
    exact ⟨rfl, HB.out.trans (HB7.out.mono HB.out.size)⟩
  subst hc
  -- the texts
  obtain ⟨x0, x1, x2, x3⟩ := HSX.out w7 HB7.out
  have HC5 := Lib.hid (Dump_any _ La ra w7 (HA2.out.keep HB7.out (Nat.le_refl _)) HSA.out (tab_keep HTB.out HB7.out (Nat.le_refl _)))
  rw [Sx.few_text HFA.out H64A.out HQA.out] at HC5
  obtain ⟨ta, hta⟩ : ∃ t, Sx.text La ra = t := ⟨_, rfl⟩
  obtain ⟨tb, htb⟩ : ∃ t, Sx.text Lb rb = t := ⟨_, rfl⟩
  rw [hta] at HC5
  have hsame := Sx.same_iff HQA.out HQB.out
  rw [hta, htb] at hsame
  have HSAME := Lib.hid hsame
  have HTXB := Lib.hid htb
  clear hta hsame htb
  go_upto_region 5 with fail
  go_wp2_with fail
  refine HC5.out.mono ?_
  rintro e w8 ⟨rfl, hb8⟩
  have HB8 := Lib.hid (HB7.out.trans (hb8.mono HB7.out.size))
  clear hb8 HC5 HB7 x0 x1 x2 x3
  obtain ⟨x0, x1, x2, x3⟩ := HSX.out w8 HB8.out
  have HC6 := Lib.hid (Dump_any _ Lb rb w8 (HB2.out.keep HB8.out (Nat.le_refl _)) HSB.out (tab_keep HTB.out HB8.out (Nat.le_refl _)))
  rw [Sx.few_text HFB.out H64B.out HQB.out, HTXB.out] at HC6
  go_wp2_with fail
  refine HC6.out.mono ?_
  rintro e w9 ⟨rfl, hb9⟩
  have HB9 := Lib.hid (HB8.out.trans (hb9.mono HB8.out.size))
  clear hb9 HC6 HB8 x0 x1 x2 x3
  obtain ⟨x0, x1, x2, x3⟩ := HSX.out w9 HB9.out
  obtain ⟨q, hq⟩ : ∃ q, decide (ta = tb) = q := ⟨_, rfl⟩
  have HC7 := Lib.hid (Same_any _ _ La Lb ra rb w9 q (HA2.out.keep HB9.out (Nat.le_refl _)) (HB2.out.keep HB9.out (Nat.le_refl _)) HSA.out HSB.out (Lib.hid (HSAME.out.trans hq)))
  have hstr : (ta == tb) = q := by
    rw [← hq]
    by_cases h : ta = tb
    · rw [decide_eq_true h, h]; simp
    · rw [decide_eq_false h]; exact beq_eq_false_iff_ne.2 h
  clear hq
  go_wp2_with fail
  refine HC7.out.mono ?_
  rintro e w10 ⟨rfl, hb10⟩
  have HB10 := Lib.hid (HB9.out.trans (hb10.mono HB9.out.size))
  clear hb10 HC7 HB9 x0 x1 x2 x3
  cases q
  all_goals (go_wp2; go_ret; exact ⟨rfl, HB.out.trans (HB10.out.mono HB.out.size)⟩)

end Go.Proofs.YtpeihgbkolihgaaDoor
