/- What Same does. -/
import Derived.Test.YtpeihgbkolihgaaDoorU37
set_option linter.unusedVariables false
set_option linter.unusedSimpArgs false
namespace Go.Proofs.YtpeihgbkolihgaaDoor
open Go.RowKit

namespace Sx
def whole (L : List LeafM) (root : Int) : List LeafM := flat L (L.length + 1) root 0
def sameB (a : List LeafM) (ra : Int) (b : List LeafM) (rb : Int) : Bool := decide (check a ra = 0) && (decide (check b rb = 0) && leavesEq (whole a ra) (whole b rb))
theorem flatK_mem {g : Int → Nat → List LeafM} {sz : Int → Nat} {x : LeafM} : ∀ (l : List Int) (b : Nat), x ∈ flatK g sz l b → ∃ q ∈ l, ∃ c, x ∈ g q c
  | [], _, h => by cases h
  | q :: l, b, h => by
    rw [flatK, List.mem_append] at h
    rcases h with h | h
    · exact ⟨q, by simp, b, h⟩
    · obtain ⟨r, hr, c, hc⟩ := flatK_mem l _ h
      exact ⟨r, by simp [hr], c, hc⟩
theorem flat_kids {L : List LeafM} (hS : ∀ x ∈ L, SmL x) : ∀ (k : Nat) (t : Int) (b : Nat), Hh L k t → ∀ x ∈ flat L k t b, x.kids.length ≤ 1000000
  | 0, _, _, h, _, _ => h.elim
  | k + 1, t, b, h, x, hx => by
    rw [flat] at hx
    rcases List.mem_cons.1 hx with rfl | hx
    · show (posK _ _ _).length ≤ _
      rw [posK_len, kidsOf_leaf h.1]
      have := (hS _ (leafOf_mem h.1)).2.1
      omega
    · obtain ⟨q, hq, c, hc⟩ := flatK_mem _ _ hx
      exact flat_kids hS k q c (h.2 q hq) x hc
end Sx

set_option maxRecDepth 100000 in
set_option maxHeartbeats 12800000 in
theorem Same_any (va vb : Value) (La Lb : List LeafM) (ra rb : Int) (w : World) (r : Bool) (ha : LsAt w va La) (hb : LsAt w vb Lb) (hSa : SmT La) (hSb : SmT Lb) (hr : Hid (Sx.sameB La ra Lb rb = r)) :
    Calls Tryd.prog 16 #[.agg #[va, .int .i64 ra], .agg #[vb, .int .i64 rb]] w fun e w' => e = .returned (.bool r) ∧ Below w.heap.size w w' := by
  obtain ⟨aa, ac, rfl⟩ := ha.slice
  obtain ⟨ba, bc, rfl⟩ := hb.slice
  obtain ⟨an, hna⟩ : ∃ n, La.length = n := ⟨_, rfl⟩
  obtain ⟨bn, hnb⟩ : ∃ n, Lb.length = n := ⟨_, rfl⟩
  rw [hna] at ha ⊢
  rw [hnb] at hb ⊢
  obtain ⟨A, hA⟩ : ∃ A, w.heap.size = A := ⟨_, rfl⟩
  obtain ⟨W1, h1⟩ : ∃ W, W = w.alloc (treeO (.slice aa an ac) ra) := ⟨_, rfl⟩
  obtain ⟨W2, h2⟩ : ∃ W, W = W1.alloc (treeO (.slice ba bn bc) rb) := ⟨_, rfl⟩
  have s1 : W1.heap.size = A + 1 := by rw [h1]; simp [hA]
  have b1 : W1.heap[A]? = some (treeO (.slice aa an ac) ra) := by rw [h1, ← hA]; exact World.alloc_heap_new w _
  have b2 : W2.heap[A + 1]? = some (treeO (.slice ba bn bc) rb) := by rw [h2, ← s1]; exact World.alloc_heap_new W1 _
  have b3 : W2.heap[A]? = some (treeO (.slice aa an ac) ra) := by rw [h2]; exact (Below.heap_alloc _ _ _ (lt_of b1)).trans b1
  have hB : Below w.heap.size w W2 := by rw [h2, h1]; exact ((Below.refl _ w).alloc (Nat.le_refl _) _).alloc (by simp) _
  have HSX : Hid (∀ X : World, Below W2.heap.size W2 X → X.cell? ⟨A, 0, none⟩ = some (.slice aa an ac) ∧ X.cell? ⟨A, 1, none⟩ = some (.int .i64 ra) ∧ X.cell? ⟨A + 1, 0, none⟩ = some (.slice ba bn bc) ∧ X.cell? ⟨A + 1, 1, none⟩ = some (.int .i64 rb)) := Lib.hid (fun X hX => ⟨(hX.cell (p := ⟨A, 0, none⟩) (lt_of b3)).trans (cell_at (i := 0) b3 rfl), (hX.cell (p := ⟨A, 1, none⟩) (lt_of b3)).trans (cell_at (i := 1) b3 rfl), (hX.cell (p := ⟨A + 1, 0, none⟩) (lt_of b2)).trans (cell_at (i := 0) b2 rfl), (hX.cell (p := ⟨A + 1, 1, none⟩) (lt_of b2)).trans (cell_at (i := 1) b2 rfl)⟩)
  have HA2 := Lib.hid (ha.keep hB (Nat.le_refl _))
  have HB2 := Lib.hid (hb.keep hB (Nat.le_refl _))
  have HB := Lib.hid hB
  have HA := Lib.hid (And.intro trivial hA)
  have HSA := Lib.hid hSa
  have HSB := Lib.hid hSb
  have HNA := Lib.hid hna
  have HNB := Lib.hid hnb
  have hch := h2
  rw [h1] at hch
  unfold treeO at hch
  have HCH := Lib.hid hch.symm
  have hr2 := hr.out
  unfold Sx.sameB at hr2
  have HCA := Lib.hid (Check_any _ La ra W2 HA2.out hSa)
  obtain ⟨ca, hca⟩ : ∃ c, Sx.check La ra = c := ⟨_, rfl⟩
  obtain ⟨cb, hcb⟩ : ∃ c, Sx.check Lb rb = c := ⟨_, rfl⟩
  rw [hca] at hr2 HCA
  rw [hcb] at hr2
  have HQA := Lib.hid hca
  have HQB := Lib.hid hcb
  clear h1 h2 s1 b1 b2 b3 hB hA hch ha hb hSa hSb hna hnb hr hca hcb
  go_enter Tryd.func16, Tryd.ntmps16
  go_upto_region 1 with fail
  rw [HCH.out, HA.out.2]
  clear HCH
  obtain ⟨x0, x1, x2, x3⟩ := HSX.out W2 (Below.refl _ _)
  by_cases hc : ca = 0
  rotate_left
  · have hcf : (ca == 0) = false := by simpa using hc
    rw [decide_eq_false hc, Bool.false_and] at hr2
    subst hr2

    go_wp2_with fail
    refine HCA.out.mono ?_
    rintro e w5 ⟨rfl, hb5⟩
    have HB5 := Lib.hid (HB.out.trans (hb5.mono HB.out.size))
    clear hb5 x0 x1 x2 x3
    go_wp2

    go_ret
    exact ⟨rfl, HB5.out⟩
  subst hc
  rw [decide_eq_true rfl, Bool.true_and] at hr2
  go_wp2_with fail
  refine HCA.out.mono ?_
  rintro e w5 ⟨rfl, hb5⟩
  have HB5 := Lib.hid hb5
  clear x0 x1 x2 x3 hb5 HCA
  obtain ⟨x0, x1, x2, x3⟩ := HSX.out w5 HB5.out
  have HCB := Lib.hid (Check_any _ Lb rb w5 (HB2.out.keep HB5.out (Nat.le_refl _)) HSB.out)
  rw [HQB.out] at HCB
  by_cases hc : cb = 0
  rotate_left
  · have hcf : (cb == 0) = false := by simpa using hc
    rw [decide_eq_false hc, Bool.false_and] at hr2
    subst hr2

    go_wp2_with fail
    refine HCB.out.mono ?_
    rintro e w6 ⟨rfl, hb6⟩
    have HB6 := Lib.hid (HB.out.trans ((HB5.out.trans (hb6.mono HB5.out.size)).mono HB.out.size))
    clear hb6 x0 x1 x2 x3
    go_wp2
    go_ret
    exact ⟨rfl, HB6.out⟩
  subst hc
  rw [decide_eq_true rfl, Bool.true_and] at hr2
  go_wp2_with fail
  refine HCB.out.mono ?_
  rintro e w6 ⟨rfl, hb6⟩
  have HB6 := Lib.hid (HB5.out.trans (hb6.mono HB5.out.size))
  clear hb6 x0 x1 x2 x3 HCB
  have HOA := Lib.hid (Sx.check_ok HQA.out)
  have HOB := Lib.hid (Sx.check_ok HQB.out)
  have HS6 := Lib.hid (HSX.out w6.drew (below_drew HB6.out))
  have HR := Lib.hid hr2
  clear hr2
  go_upto_region 3 with fail
  refine region_plainX (S := fun X => X.cell? ⟨A, 0, none⟩ = some (.slice aa an ac) ∧ X.cell? ⟨A, 1, none⟩ = some (.int .i64 ra) ∧ X.cell? ⟨A + 1, 0, none⟩ = some (.slice ba bn bc) ∧ X.cell? ⟨A + 1, 1, none⟩ = some (.int .i64 rb)) (m := 12) (by kernel_rfl) ?_
  refine x_take0 (i := 0) (v := .agg #[.slice aa an ac, .int .i64 ra]) rfl rfl (by kernel_rfl) (by kernel_rfl) (by kernel_rfl) (fun _ _ _ h => h) (.inl ⟨by rfl, ?_⟩) HS6.out ?_
  · intro X hX; (try dsimp only at hX); obtain ⟨u1, u2, u3, u4⟩ := hX; go_simp
  simp only [List.getElem_toArray, List.getElem_cons_succ, List.getElem_cons_zero, Act.put, List.setIfInBounds_toArray, List.set_cons_zero, List.set_cons_succ]
  refine x_take0 (i := 1) (v := .pointer (some ⟨A, 1, none⟩)) rfl rfl (by kernel_rfl) (by kernel_rfl) (by kernel_rfl) (fun _ _ _ h => h) (.inl ⟨by rfl, ?_⟩) HS6.out ?_
  · intro X hX; (try dsimp only at hX); obtain ⟨u1, u2, u3, u4⟩ := hX; go_simp
  simp only [List.getElem_toArray, List.getElem_cons_succ, List.getElem_cons_zero, Act.put, List.setIfInBounds_toArray, List.set_cons_zero, List.set_cons_succ]
  refine x_take0 (i := 2) (v := .int .i64 ra) rfl rfl (by kernel_rfl) (by kernel_rfl) (by kernel_rfl) (fun _ _ _ h => h) (.inl ⟨by rfl, ?_⟩) HS6.out ?_
  · intro X hX; (try dsimp only at hX); obtain ⟨u1, u2, u3, u4⟩ := hX; go_simp
  simp only [List.getElem_toArray, List.getElem_cons_succ, List.getElem_cons_zero, Act.put, List.setIfInBounds_toArray, List.set_cons_zero, List.set_cons_succ]
  refine x_take0 (i := 5) (v := .agg #[.slice ba bn bc, .int .i64 rb]) rfl rfl (by kernel_rfl) (by kernel_rfl) (by kernel_rfl) (fun _ _ _ h => h) (.inl ⟨by rfl, ?_⟩) HS6.out ?_
  · intro X hX; (try dsimp only at hX); obtain ⟨u1, u2, u3, u4⟩ := hX; go_simp
  simp only [List.getElem_toArray, List.getElem_cons_succ, List.getElem_cons_zero, Act.put, List.setIfInBounds_toArray, List.set_cons_zero, List.set_cons_succ]
  refine x_take0 (i := 6) (v := .pointer (some ⟨A + 1, 1, none⟩)) rfl rfl (by kernel_rfl) (by kernel_rfl) (by kernel_rfl) (fun _ _ _ h => h) (.inl ⟨by rfl, ?_⟩) HS6.out ?_
  · intro X hX; (try dsimp only at hX); obtain ⟨u1, u2, u3, u4⟩ := hX; go_simp
  simp only [List.getElem_toArray, List.getElem_cons_succ, List.getElem_cons_zero, Act.put, List.setIfInBounds_toArray, List.set_cons_zero, List.set_cons_succ]
  refine x_take0 (i := 7) (v := .int .i64 rb) rfl rfl (by kernel_rfl) (by kernel_rfl) (by kernel_rfl) (fun _ _ _ h => h) (.inl ⟨by rfl, ?_⟩) HS6.out ?_
  · intro X hX; (try dsimp only at hX); obtain ⟨u1, u2, u3, u4⟩ := hX; go_simp
  simp only [List.getElem_toArray, List.getElem_cons_succ, List.getElem_cons_zero, Act.put, List.setIfInBounds_toArray, List.set_cons_zero, List.set_cons_succ]
  have hla := HA2.out.keep (below_drew HB6.out) (Nat.le_refl _)
  have HC1 := Lib.hid (below_any _ La ra ra w6.drew (La.length + 1) hla HSA.out HOA.out.hh (by unfold Sx.sizeF; rw [HOA.out.all]; have := HOA.out.many; omega))
  clear hla
  refine x_one (i := 3) (by kernel_rfl) rfl (fun K' hK' => ?_)
  go_simp
  refine HC1.out.mono ?_
  rintro e w7 ⟨⟨v7, rfl, hl7, _⟩, hb7⟩
  obtain ⟨a7, c7, rfl⟩ := hl7.slice
  have HB7 := Lib.hid ((below_drew HB6.out).trans (hb7.mono (below_drew HB6.out).size))
  have HL7 := Lib.hid hl7
  have HS7 := Lib.hid (HSX.out w7 HB7.out)
  clear hl7 hb7 HC1 HS6
  dsimp only
  refine hK'.out _ _ (fun _ => HS7.out) ?_
  clear hK' K'
  generalize (Sx.flat La (La.length + 1) ra 0).length = n7 at HL7 ⊢
  have hfd : ∀ X : World, (Instr.field 24 (.agg #[.slice a7 n7 c7, .int .i64 0]) 0).run Tryd.prog X = .ok (.slice a7 n7 c7) X := fun _ => by kernel_rfl
  refine x_take0 (i := 4) (v := .slice a7 n7 c7) rfl rfl (by kernel_rfl) (by kernel_rfl) (by kernel_rfl) (fun _ _ _ h => h) (.inl ⟨by rfl, ?_⟩) HS7.out ?_
  · intro X hX; (try dsimp only at hX); obtain ⟨u1, u2, u3, u4⟩ := hX; go_simp
  simp only [List.getElem_toArray, List.getElem_cons_succ, List.getElem_cons_zero, Act.put, List.setIfInBounds_toArray, List.set_cons_zero, List.set_cons_succ]
  clear hfd
  have hlb := HB2.out.keep HB7.out (Nat.le_refl _)
  have HC2 := Lib.hid (below_any _ Lb rb rb w7 (Lb.length + 1) hlb HSB.out HOB.out.hh (by unfold Sx.sizeF; rw [HOB.out.all]; have := HOB.out.many; omega))
  clear hlb
  refine x_one (i := 8) (by kernel_rfl) rfl (fun K' hK' => ?_)
  go_simp
  refine HC2.out.mono ?_
  rintro e w8 ⟨⟨v8, rfl, hl8, _⟩, hb8⟩
  obtain ⟨a8, c8, rfl⟩ := hl8.slice
  have HB8 := Lib.hid (HB7.out.trans (hb8.mono HB7.out.size))
  have HL8 := Lib.hid hl8
  have HL78 := Lib.hid (HL7.out.keep hb8 (Nat.le_refl _))
  have HS8 := Lib.hid (HSX.out w8 HB8.out)
  clear hl8 hb8 HC2 HS7 HL7
  dsimp only
  refine hK'.out _ _ (fun _ => HS8.out) ?_
  clear hK' K'
  generalize (Sx.flat Lb (Lb.length + 1) rb 0).length = n8 at HL8 ⊢
  have hfd : ∀ X : World, (Instr.field 24 (.agg #[.slice a8 n8 c8, .int .i64 0]) 0).run Tryd.prog X = .ok (.slice a8 n8 c8) X := fun _ => by kernel_rfl
  refine x_take0 (i := 9) (v := .slice a8 n8 c8) rfl rfl (by kernel_rfl) (by kernel_rfl) (by kernel_rfl) (fun _ _ _ h => h) (.inl ⟨by rfl, ?_⟩) HS8.out ?_
  · intro X hX; (try dsimp only at hX); obtain ⟨u1, u2, u3, u4⟩ := hX; go_simp
  simp only [List.getElem_toArray, List.getElem_cons_succ, List.getElem_cons_zero, Act.put, List.setIfInBounds_toArray, List.set_cons_zero, List.set_cons_succ]
  clear hfd
  have hwa : ∀ x ∈ Sx.flat La (La.length + 1) ra 0, x.kids.length ≤ 1000000 := Sx.flat_kids HSA.out.2 _ _ _ HOA.out.hh
  have hwb : ∀ x ∈ Sx.flat Lb (Lb.length + 1) rb 0, x.kids.length ≤ 1000000 := Sx.flat_kids HSB.out.2 _ _ _ HOB.out.hh
  have hza : (Sx.flat La (La.length + 1) ra 0).length ≤ 1000000 := by rw [Sx.flat_len]; unfold Sx.sizeF; rw [HOA.out.all]; have := HOA.out.many; omega
  have hzb : (Sx.flat Lb (Lb.length + 1) rb 0).length ≤ 1000000 := by rw [Sx.flat_len]; unfold Sx.sizeF; rw [HOB.out.all]; have := HOB.out.many; omega
  have HC3 := Lib.hid (EqualFunc_any _ _ _ _ w8 r HL78.out HL8.out hza hzb hwa hwb HR)
  clear hwa hwb hza hzb
  refine x_one (i := 10) (by kernel_rfl) rfl (fun K' hK' => ?_)
  go_simp
  refine HC3.out.mono ?_
  rintro e w9 ⟨rfl, hb9⟩
  have HB9 := Lib.hid (HB8.out.trans (hb9.mono HB8.out.size))
  have HS9 := Lib.hid (HSX.out w9 HB9.out)
  clear hb9
  dsimp only
  refine hK'.out _ _ (fun _ => HS9.out) ?_
  clear hK' K'
  refine x_one (i := 11) (by kernel_rfl) rfl (fun K' hK' => ?_)
  go_simp
  refine hK'.out _ _ (fun _ => HS9.out) ?_
  clear hK' K'
  refine x_done (by kernel_rfl) ?_ _
  go_wp2
  go_ret
  exact ⟨rfl, HB.out.trans (HB9.out.mono HB.out.size)⟩

end Go.Proofs.YtpeihgbkolihgaaDoor
