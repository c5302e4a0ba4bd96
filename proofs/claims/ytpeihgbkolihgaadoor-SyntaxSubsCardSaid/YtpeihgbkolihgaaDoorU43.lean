/- What Sub does. -/
import Derived.Test.YtpeihgbkolihgaaDoorU40
import Derived.Laws.ResultCell
set_option linter.unusedVariables false
set_option linter.unusedSimpArgs false
namespace Go.Proofs.YtpeihgbkolihgaaDoor
open Go.RowKit

theorem results_cell_row2 {P : Program} {fn : Func} {p u : Tmp} {ty : TypeId} (h : fn.results = #[.cell p ty, .tmp u]) (tmps : Array Value) (w : World) (g : Nat) (t : TypeId) (cs : Array Value) (fr : Nat × Nat) (d : TypeDesc)
    (hp : tmps.getD p undef = .pointer (some ⟨g, 0, none⟩)) (hg : w.heap[g]? = some (.cells cs t fr))
    (hu : P.underlying ty = some d) (hd : (match d with | .struct _ | .array _ _ => true | _ => false) = true) (hi : (P.info? ty).map (·.size) = some cs.size) (e : Value) (he : tmps.getD u undef = e) :
    (results fn tmps).run P w = .ok (.tuple #[.agg cs, e]) w := by
  rw [results_cell_tmp h, hp, he]
  simp [asAddr, run_loadVar_row w g t ty cs fr d hg hu hd hi, Result.andThen]

namespace Sx
theorem sub_hh {L : List LeafM} : ∀ {k : Nat} {t : Int}, Hh L k t → ∀ i ∈ pre L k t, Hh L k (i : Int)
  | 0, _, h => h.elim
  | k + 1, t, h => fun i hi => by
    rw [pre, List.mem_cons] at hi
    rcases hi with rfl | hi
    · have h1 := (isLeaf_iff L t).1 h.1
      rw [Int.toNat_of_nonneg h1.1]
      exact h
    · obtain ⟨q, hq, hi⟩ := List.mem_flatMap.1 hi
      exact ((sub_hh (h.2 q hq) i hi).mono (Nat.le_succ _)).1
theorem pre_le {L : List LeafM} : ∀ {k : Nat} {t : Int}, Hh L k t → ∀ i ∈ pre L k t, (pre L k (i : Int)).length ≤ (pre L k t).length
  | 0, _, h => h.elim
  | k + 1, t, h => fun i hi => by
    rw [pre, List.mem_cons] at hi
    rcases hi with rfl | hi
    · have h1 := (isLeaf_iff L t).1 h.1
      rw [Int.toNat_of_nonneg h1.1]
      exact Nat.le_refl _
    · obtain ⟨q, hq, hi⟩ := List.mem_flatMap.1 hi
      rw [((sub_hh (h.2 q hq) i hi).mono (Nat.le_succ _)).2.1]
      refine Nat.le_trans (pre_le (h.2 q hq) i hi) ?_
      rw [pre, List.length_cons]
      have : ∀ l : List Int, q ∈ l → (pre L k q).length ≤ (l.flatMap (pre L k)).length := by
        intro l
        induction l with
        | nil => intro hl; cases hl
        | cons a l ih =>
          intro hl
          rw [List.flatMap_cons, List.length_append]
          rcases List.mem_cons.1 hl with rfl | hl
          · omega
          · have := ih hl; omega
      have := this _ hq
      omega
theorem Ok.sub {L : List LeafM} {root : Int} {k : Nat} (h : Ok L root k) {t : Int} (ht : isLeaf L t = true) : Hh L k t ∧ sizeF L k t ≤ L.length := by
  have h1 := (isLeaf_iff L t).1 ht
  obtain ⟨i, rfl⟩ := Int.eq_ofNat_of_zero_le h1.1
  have hm := h.mem i (by omega)
  refine ⟨sub_hh h.hh i hm, ?_⟩
  have := pre_le h.hh i hm
  rw [h.all] at this
  exact this
def subE (L : List LeafM) (root t : Int) : Int := if check L root ≠ 0 then check L root else if isLeaf L t = true then 0 else 2
def subL (L : List LeafM) (root t : Int) : List LeafM := if subE L root t = 0 then flat L (L.length + 1) t 0 else []
end Sx

set_option maxRecDepth 100000 in
set_option maxHeartbeats 12800000 in
theorem Sub_any (v : Value) (L : List LeafM) (root t : Int) (w : World) (hv : LsAt w v L) (hS : SmT L) :
    Calls Tryd.prog 12 #[.agg #[v, .int .i64 root], .int .i64 t] w fun e w' => (∃ v', e = .returned (.tuple #[.agg #[v', .int .i64 0], .int .i64 (Sx.subE L root t)]) ∧ LsAt w' v' (Sx.subL L root t)) ∧ Below w.heap.size w w' := by
  obtain ⟨E, hE⟩ : ∃ E, Sx.subE L root t = E := ⟨_, rfl⟩
  obtain ⟨R, hR⟩ : ∃ R, Sx.subL L root t = R := ⟨_, rfl⟩
  have hR2 := hR
  unfold Sx.subL at hR2
  rw [hE] at hR2
  rw [hE, hR]
  unfold Sx.subE at hE
  obtain ⟨ad, cap, rfl⟩ := hv.slice
  obtain ⟨n, hn⟩ : ∃ n, L.length = n := ⟨_, rfl⟩
  rw [hn] at hv ⊢
  obtain ⟨A, hA⟩ : ∃ A, w.heap.size = A := ⟨_, rfl⟩
  obtain ⟨W1, h1⟩ : ∃ W, W = w.alloc (treeO (.slice ad n cap) root) := ⟨_, rfl⟩
  obtain ⟨W2, h2⟩ : ∃ W, W = W1.alloc (treeO (.slice none 0 0) 0) := ⟨_, rfl⟩
  have s1 : W1.heap.size = A + 1 := by rw [h1]; simp [hA]
  have b1 : W1.heap[A]? = some (treeO (.slice ad n cap) root) := by rw [h1, ← hA]; exact World.alloc_heap_new w _
  have b2 : W2.heap[A + 1]? = some (treeO (.slice none 0 0) 0) := by rw [h2, ← s1]; exact World.alloc_heap_new W1 _
  have b3 : W2.heap[A]? = some (treeO (.slice ad n cap) root) := by rw [h2]; exact (Below.heap_alloc _ _ _ (lt_of b1)).trans b1
  have hB : Below w.heap.size w W2 := by rw [h2, h1]; exact ((Below.refl _ w).alloc (Nat.le_refl _) _).alloc (by simp) _
  have HSX : Hid (∀ X : World, Below W2.heap.size W2 X → (X.cell? ⟨A, 0, none⟩ = some (.slice ad n cap) ∧ X.cell? ⟨A, 1, none⟩ = some (.int .i64 root)) ∧ X.heap[A + 1]? = some (treeO (.slice none 0 0) 0)) := Lib.hid (fun X hX => ⟨⟨(hX.cell (p := ⟨A, 0, none⟩) (lt_of b3)).trans (cell_at (i := 0) b3 rfl), (hX.cell (p := ⟨A, 1, none⟩) (lt_of b3)).trans (cell_at (i := 1) b3 rfl)⟩, (hX.block _ (lt_of b2)).trans b2⟩)
  have HA2 := Lib.hid (hv.keep hB (Nat.le_refl _))
  have HB := Lib.hid hB
  have HA := Lib.hid (And.intro trivial hA)
  have HAL := Lib.hid (And.intro (show w.heap.size ≤ A + 1 by omega) (lt_of b2))
  have HN := Lib.hid hn
  have HS := Lib.hid hS
  have hch := h2
  rw [h1] at hch
  unfold treeO at hch
  have HCH := Lib.hid hch.symm
  have HC := Lib.hid (Check_any _ L root W2 HA2.out hS)
  obtain ⟨c, hc⟩ : ∃ c, Sx.check L root = c := ⟨_, rfl⟩
  rw [hc] at HC hE
  have HQ := Lib.hid hc
  have HE := Lib.hid hE
  have HRR := Lib.hid hR2
  clear h1 h2 s1 b1 b2 b3 hB hA hch hv hn hc hE hR hR2 hS
  go_enter Tryd.func12, Tryd.ntmps12
  go_upto_region 1 with fail
  rw [HCH.out, HA.out.2]
  clear HCH
  obtain ⟨⟨x0, x1⟩, _⟩ := HSX.out W2 (Below.refl _ _)
  go_wp2_with fail
  refine HC.out.mono ?_
  rintro e w3 ⟨rfl, hb3⟩
  have HB3 := Lib.hid hb3
  clear hb3 HC x0 x1
  obtain ⟨⟨x0, x1⟩, t1⟩ := HSX.out w3 HB3.out
  have HT1 := Lib.hid t1
  have z0 := cell_at (i := 0) t1 rfl
  have z1 := cell_at (i := 1) t1 rfl
  have f0 : w3.frozen? ⟨A + 1, 0, none⟩ = false := cells_frozen t1
  have f1 : w3.frozen? ⟨A + 1, 1, none⟩ = false := cells_frozen t1
  clear t1
  by_cases hc : c = 0
  rotate_left
  · have hcf : (c == 0) = false := by simpa using hc
    have hE := HE.out
    rw [if_pos hc] at hE
    subst hE
    have hR := HRR.out
    rw [if_neg hc] at hR
    subst hR
    have t7 := cells_set (i := 1) (.int .i64 0) (cells_set (i := 0) (.slice none 0 0) HT1.out)
    have hb7 := ((HB3.out.mono HB.out.size).setCell (p := ⟨A + 1, 0, none⟩) HAL.out.1 (.slice none 0 0)).setCell (p := ⟨A + 1, 1, none⟩) HAL.out.1 (.int .i64 0)
    have HT7 := Lib.hid (show ((w3.setCell ⟨A + 1, 0, none⟩ (.slice none 0 0)).setCell ⟨A + 1, 1, none⟩ (.int .i64 0)).heap[A + 1]? = some (.cells #[.slice none 0 0, .int .i64 0] 24) from t7)
    have HB7 := Lib.hid (HB.out.trans hb7)
    clear t7 hb7
    go_wp2
    refine bodyPost_ret (v := .tuple #[.agg #[.slice none 0 0, .int .i64 0], .int .i64 c]) (results_cell_row2 Tryd.results12 _ _ (A + 1) _ #[.slice none 0 0, .int .i64 0] _ _ (by rfl) HT7.out Tryd.underlying24 rfl infoTree _ (by rfl)) rfl ?_
    exact ⟨⟨_, rfl, LsAt.nil _⟩, HB7.out⟩
  subst hc
  have hE := HE.out
  rw [if_neg (by simp)] at hE
  clear HE
  have HCI := fun r hr => isLeaf_any ad n cap root t w3 r hr
  obtain ⟨b, hb⟩ : ∃ b, Sx.isLeaf L t = b := ⟨_, rfl⟩
  have hb2 := hb
  unfold Sx.isLeaf at hb2
  rw [HN.out] at hb2
  have HC2 := Lib.hid (HCI b (Lib.hid hb2))
  rw [hb] at hE
  have HBB := Lib.hid hb
  have hAl : Below w3.heap.size w3 (w3.alloc (treeO (.slice ad n cap) root)) := (Below.refl _ _).alloc (Nat.le_refl _) _
  unfold treeO at hAl
  have HAl := Lib.hid hAl
  have HE := Lib.hid hE
  clear HCI hb hb2 hAl hE
  go_wp2_with fail
  refine HC2.out.mono ?_
  rintro e w4 ⟨rfl, h⟩
  have HB4 := Lib.hid (show Below W2.heap.size W2 w4 by rw [h]; exact HB3.out.trans (HAl.out.mono HB3.out.size))
  clear h HC2 HAl HT1 z0 z1 f0 f1 x0 x1
  obtain ⟨⟨x0, x1⟩, t1⟩ := HSX.out w4 HB4.out
  have HT1 := Lib.hid t1
  have z0 := cell_at (i := 0) t1 rfl
  have z1 := cell_at (i := 1) t1 rfl
  have f0 : w4.frozen? ⟨A + 1, 0, none⟩ = false := cells_frozen t1
  have f1 : w4.frozen? ⟨A + 1, 1, none⟩ = false := cells_frozen t1
  clear t1
  cases b with
  | false =>
    have hE := HE.out
    rw [if_neg (by simp)] at hE
    subst hE
    have hR := HRR.out
    rw [if_neg (by decide)] at hR
    subst hR
    have t7 := cells_set (i := 1) (.int .i64 0) (cells_set (i := 0) (.slice none 0 0) HT1.out)
    have hb7 := ((HB4.out.mono HB.out.size).setCell (p := ⟨A + 1, 0, none⟩) HAL.out.1 (.slice none 0 0)).setCell (p := ⟨A + 1, 1, none⟩) HAL.out.1 (.int .i64 0)
    have HT7 := Lib.hid (show ((w4.setCell ⟨A + 1, 0, none⟩ (.slice none 0 0)).setCell ⟨A + 1, 1, none⟩ (.int .i64 0)).heap[A + 1]? = some (.cells #[.slice none 0 0, .int .i64 0] 24) from t7)
    have HB7 := Lib.hid (HB.out.trans hb7)
    clear t7 hb7
    go_wp2
    refine bodyPost_ret (v := .tuple #[.agg #[.slice none 0 0, .int .i64 0], .int .i64 2]) (results_cell_row2 Tryd.results12 _ _ (A + 1) _ #[.slice none 0 0, .int .i64 0] _ _ (by rfl) HT7.out Tryd.underlying24 rfl infoTree _ (by rfl)) rfl ?_
    exact ⟨⟨_, rfl, LsAt.nil _⟩, HB7.out⟩
  | true =>
    have hE := HE.out
    rw [if_pos rfl] at hE
    subst hE
    have hR := HRR.out
    rw [if_pos rfl] at hR
    subst hR
    have hok := Sx.check_ok HQ.out
    have hsub := hok.sub HBB.out
    have HC3 := Lib.hid (below_any _ L root t w4 (L.length + 1) (HA2.out.keep HB4.out (Nat.le_refl _)) HS.out hsub.1 (by have := hok.many; omega))
    clear hok hsub
    go_wp2_with fail
    refine HC3.out.mono ?_
    rintro e w5 ⟨⟨v5, rfl, hl5, hf5⟩, hb5⟩
    have HB5 := Lib.hid (HB4.out.trans (hb5.mono HB4.out.size))
    clear hb5 HC3 HT1 z0 z1 f0 f1 x0 x1
    obtain ⟨a5, c5, rfl⟩ := hl5.slice
    obtain ⟨⟨x0, x1⟩, t1⟩ := HSX.out w5 HB5.out
    have z0 := cell_at (i := 0) t1 rfl
    have z1 := cell_at (i := 1) t1 rfl
    have f0 : w5.frozen? ⟨A + 1, 0, none⟩ = false := cells_frozen t1
    have f1 : w5.frozen? ⟨A + 1, 1, none⟩ = false := cells_frozen t1
    have t7 := cells_set (i := 1) (.int .i64 0) (cells_set (i := 0) (.slice a5 (Sx.flat L (L.length + 1) t 0).length c5) t1)
    have hb7 := ((HB5.out.mono HB.out.size).setCell (p := ⟨A + 1, 0, none⟩) HAL.out.1 (.slice a5 (Sx.flat L (L.length + 1) t 0).length c5)).setCell (p := ⟨A + 1, 1, none⟩) HAL.out.1 (.int .i64 0)
    have hlt4 : A + 1 < w4.heap.size := Nat.lt_of_lt_of_le HAL.out.2 HB4.out.size
    have hl7 := hf5 ((w5.setCell ⟨A + 1, 0, none⟩ (.slice a5 (Sx.flat L (L.length + 1) t 0).length c5)).setCell ⟨A + 1, 1, none⟩ (.int .i64 0)) (by simp [World.setCell]) (fun j hj => (Below.heap_setCell _ _ _ _ (by show j ≠ A + 1; omega)).trans (Below.heap_setCell _ _ _ _ (by show j ≠ A + 1; omega)))
    generalize (Sx.flat L (L.length + 1) t 0).length = m5 at t7 hb7 hl7 ⊢
    have HT7 := Lib.hid (show ((w5.setCell ⟨A + 1, 0, none⟩ (.slice a5 m5 c5)).setCell ⟨A + 1, 1, none⟩ (.int .i64 0)).heap[A + 1]? = some (.cells #[.slice a5 m5 c5, .int .i64 0] 24) from t7)
    have HB7 := Lib.hid (HB.out.trans hb7)
    have HL7 := Lib.hid hl7
    clear t7 hb7 hl7 hlt4 hf5 hl5 t1
    go_wp2
    refine bodyPost_ret (v := .tuple #[.agg #[.slice a5 m5 c5, .int .i64 0], .int .i64 0]) (results_cell_row2 Tryd.results12 _ _ (A + 1) _ #[.slice a5 m5 c5, .int .i64 0] _ _ (by rfl) HT7.out Tryd.underlying24 rfl infoTree _ (by rfl)) rfl ?_
    exact ⟨⟨_, rfl, HL7.out⟩, HB7.out⟩

end Go.Proofs.YtpeihgbkolihgaaDoor
