/- The literal of below. -/
import Derived.Test.YtpeihgbkolihgaaDoorU34
set_option linter.unusedVariables false
set_option linter.unusedSimpArgs false
namespace Go.Proofs.YtpeihgbkolihgaaDoor
open Go.RowKit

def bwArgs (A : Nat) (t : Int) : Array Value := #[.int .i64 t, .pointer (some ⟨A, 0, none⟩), .pointer (some ⟨A + 2, 0, none⟩), .pointer (some ⟨A + 3, 0, none⟩)]
/-- What a call of the literal is to do where what is below its leaf ends within k levels. -/
def BwOk (A : Nat) (w0 : World) (tv : Value) (root : Int) (L : List LeafM) (k : Nat) : Prop :=
  ∀ (t : Int) (W : World) (v : Value) (P : List Ent), Sx.Hh L k t → P.length + Sx.sizeF L k t ≤ 100000 → BwM A w0 tv root v P W →
    Calls Tryd.prog 43 (bwArgs A t) W fun e W' => e = .returned (.int .i64 (P.length : Nat)) ∧ ∃ v' Q, BwM A w0 tv root v' (P ++ Q) W' ∧ Q.map (·.1) = Sx.flat L k t P.length ∧ Fr A W v W' v' ∧ Fresh W.heap.size Q

set_option maxRecDepth 100000 in
set_option maxHeartbeats 25600000 in
theorem below_step (A n cap : Nat) (ad : Option Addr) (w0 : World) (hA : w0.heap.size = A) (root : Int) (L : List LeafM) (hL : LsAt w0 (.slice ad n cap) L) (hS : SmT L) (hn : L.length = n) (k : Nat) (ih : BwOk A w0 (.slice ad n cap) root L k) :
    BwOk A w0 (.slice ad n cap) root L (k + 1) := by
  intro t W v P hh hlen hm
  have hlr := (Sx.isLeaf_iff L t).1 hh.1
  have hko := Sx.kidsOf_leaf hh.1
  have hkids := hh.2
  rw [hko] at hkids
  have hflat : Sx.flat L (k + 1) t P.length = { Sx.leafOf L t with kids := Sx.posK (Sx.sizeF L k) (Sx.leafOf L t).kids (P.length + 1) } :: Sx.flatK (Sx.flat L k) (Sx.sizeF L k) (Sx.leafOf L t).kids (P.length + 1) := by rw [Sx.flat, hko]
  have hsz := Sx.sizeF_succ L k t
  rw [hko] at hsz
  rw [hsz] at hlen
  rw [hflat]
  have hsm := hS.2 _ (Sx.leafOf_mem hh.1)
  obtain ⟨i, rfl⟩ := Int.eq_ofNat_of_zero_le hlr.1
  have hi : i < L.length := by omega
  have hleaf : Sx.leafOf L (i : Int) = L[i] := by unfold Sx.leafOf; rw [Int.toNat_natCast, List.getElem?_eq_getElem hi]; rfl
  obtain ⟨b, off, fa, fc, rfl, hbl, ⟨e0, e1, e2, e3, e4, e5⟩, hks⟩ := hL.at i hi
  rw [← hleaf] at e0 e1 e2 e3 e4 e5 hks
  obtain ⟨y, hy⟩ : ∃ y, Sx.leafOf L (i : Int) = y := ⟨_, rfl⟩
  rw [hy] at e0 e1 e2 e3 e4 e5 hks hkids hlen hsm ⊢
  have hkl := hsm.2.1
  have hbA : b < A := by rw [← hA]; exact hbl
  have hB := hm.below
  have f0 := (hB.cell (p := ⟨b, off + i * 6, none⟩) hbA).trans e0
  have f1 := (hB.cell (p := ⟨b, off + i * 6 + 1, none⟩) hbA).trans e1
  have f2 := (hB.cell (p := ⟨b, off + i * 6 + 2, none⟩) hbA).trans e2
  have f3 := (hB.cell (p := ⟨b, off + i * 6 + 3, none⟩) hbA).trans e3
  have f4 := (hB.cell (p := ⟨b, off + i * 6 + 4, none⟩) hbA).trans e4
  have f5 := (hB.cell (p := ⟨b, off + i * 6 + 5, none⟩) hbA).trans e5
  obtain ⟨va, vc, hv⟩ : ∃ a c, v = .slice a P.length c := by
    rcases hm.row.own.2 with ⟨h, h0⟩ | ⟨g, cp, cur, h, _⟩
    · exact ⟨none, 0, by rw [h, h0]⟩
    · exact ⟨_, _, h⟩
  subst hv
  obtain ⟨N, hN⟩ : ∃ N, P.length = N := ⟨_, rfl⟩
  obtain ⟨ks, hkse⟩ : ∃ ks, y.kids = ks := ⟨_, rfl⟩
  rw [hkse] at e3 hks hkids hlen hkl f3 ⊢
  obtain ⟨m, hmm⟩ : ∃ m, ks.length = m := ⟨_, rfl⟩
  rw [hmm] at hks hkl f3
  have q1 : (0 : Int) ≤ i := by omega
  have q2 : (i : Int) < n := by rw [← hn]; omega
  have x0 := cell_at (i := 0) hm.tree rfl
  have x1 := cell_at (i := 0) hm.out rfl
  rw [hN] at x1
  have HM := Lib.hid hm
  have HKS := Lib.hid hks
  have HKI := Lib.hid hkids
  have HLEN := Lib.hid hlen
  have HMM := Lib.hid hmm
  have HI := Lib.hid ih
  have HA := Lib.hid (And.intro trivial hA)
  have HN := Lib.hid hN
  have HKE := Lib.hid hkse
  have HBA := Lib.hid (And.intro trivial hbA)
  clear hm hks hkids hlen hmm ih hA hN hB hbA hsm hsz hflat hko hlr hleaf hi hL hS hn hh hbl e0 e1 e2 e3 e4 e5 hkse hy
  unfold bwArgs
  go_enter Tryd.func43, Tryd.ntmps43
  obtain ⟨yk, hyk⟩ : ∃ x, y.kind = x := ⟨_, rfl⟩
  obtain ⟨yt, hyt⟩ : ∃ x, y.text = x := ⟨_, rfl⟩
  obtain ⟨yn, hyn⟩ : ∃ x, y.num = x := ⟨_, rfl⟩
  obtain ⟨yf, hyf⟩ : ∃ x, y.frm = x := ⟨_, rfl⟩
  obtain ⟨yo, hyo⟩ : ∃ x, y.to = x := ⟨_, rfl⟩
  rw [hyk] at f0
  rw [hyt] at f1
  rw [hyn] at f2
  rw [hyf] at f4
  rw [hyo] at f5
  have HY := Lib.hid (And.intro hyk (And.intro hyt (And.intro hyn (And.intro hyf hyo))))
  have HSS : Hid (W.drew.cell? ⟨A, 0, none⟩ = some (.slice (some ⟨b, off, none⟩) n cap) ∧ W.drew.cell? ⟨A + 2, 0, none⟩ = some (.slice va N vc) ∧ W.drew.cell? ⟨b, off + i * 6, none⟩ = some (.int .i64 yk) ∧ W.drew.cell? ⟨b, off + i * 6 + 1, none⟩ = some (.string yt) ∧ W.drew.cell? ⟨b, off + i * 6 + 2, none⟩ = some (.int .i64 yn) ∧ W.drew.cell? ⟨b, off + i * 6 + 3, none⟩ = some (.slice fa m fc) ∧ W.drew.cell? ⟨b, off + i * 6 + 4, none⟩ = some (.int .i64 yf) ∧ W.drew.cell? ⟨b, off + i * 6 + 5, none⟩ = some (.int .i64 yo)) := Lib.hid ⟨x0, x1, f0, f1, f2, f3, f4, f5⟩
  clear hyk hyt hyn hyf hyo x0 x1 f0 f1 f2 f3 f4 f5
  go_upto_region 1 with fail
  refine region_plainX (S := fun X => X.cell? ⟨A, 0, none⟩ = some (.slice (some ⟨b, off, none⟩) n cap) ∧ X.cell? ⟨A + 2, 0, none⟩ = some (.slice va N vc) ∧ X.cell? ⟨b, off + i * 6, none⟩ = some (.int .i64 yk) ∧ X.cell? ⟨b, off + i * 6 + 1, none⟩ = some (.string yt) ∧ X.cell? ⟨b, off + i * 6 + 2, none⟩ = some (.int .i64 yn) ∧ X.cell? ⟨b, off + i * 6 + 3, none⟩ = some (.slice fa m fc) ∧ X.cell? ⟨b, off + i * 6 + 4, none⟩ = some (.int .i64 yf) ∧ X.cell? ⟨b, off + i * 6 + 5, none⟩ = some (.int .i64 yo)) (m := 10) (by kernel_rfl) ?_
  refine x_take (i := 0) (v := .pointer (some ⟨A, 0, none⟩)) rfl rfl (by kernel_rfl) (by kernel_rfl) (by kernel_rfl) (by kernel_rfl) (fun _ _ _ h => h) (.inl ⟨by rfl, ?_⟩) HSS.out ?_
  · intro X hX; (try dsimp only at hX); obtain ⟨hs1, hs2, hs3, hs4, hs5, hs6, hs7, hs8⟩ := hX; go_simp
  simp only [List.getElem_toArray, List.getElem_cons_succ, List.getElem_cons_zero, Act.put, List.setIfInBounds_toArray, List.set_cons_zero, List.set_cons_succ]
  refine x_take (i := 1) (v := (.slice (some ⟨b, off, none⟩) n cap)) rfl rfl (by kernel_rfl) (by kernel_rfl) (by kernel_rfl) (by kernel_rfl) (fun _ _ _ h => h) (.inl ⟨by rfl, ?_⟩) HSS.out ?_
  · intro X hX; (try dsimp only at hX); obtain ⟨hs1, hs2, hs3, hs4, hs5, hs6, hs7, hs8⟩ := hX; go_simp
  simp only [List.getElem_toArray, List.getElem_cons_succ, List.getElem_cons_zero, Act.put, List.setIfInBounds_toArray, List.set_cons_zero, List.set_cons_succ]
  refine x_take (i := 2) (v := (.int .i64 (i : Int))) rfl rfl (by kernel_rfl) (by kernel_rfl) (by kernel_rfl) (by kernel_rfl) (fun _ _ _ h => h) (.inl ⟨by rfl, ?_⟩) HSS.out ?_
  · intro X hX; (try dsimp only at hX); obtain ⟨hs1, hs2, hs3, hs4, hs5, hs6, hs7, hs8⟩ := hX; go_simp
  simp only [List.getElem_toArray, List.getElem_cons_succ, List.getElem_cons_zero, Act.put, List.setIfInBounds_toArray, List.set_cons_zero, List.set_cons_succ]
  refine x_take (i := 3) (v := (.pointer (some ⟨b, off + i * 6, none⟩))) rfl rfl (by kernel_rfl) (by kernel_rfl) (by kernel_rfl) (by kernel_rfl) (fun _ _ _ h => h) (.inl ⟨by rfl, ?_⟩) HSS.out ?_
  · intro X hX; (try dsimp only at hX); obtain ⟨hs1, hs2, hs3, hs4, hs5, hs6, hs7, hs8⟩ := hX; go_simp
  simp only [List.getElem_toArray, List.getElem_cons_succ, List.getElem_cons_zero, Act.put, List.setIfInBounds_toArray, List.set_cons_zero, List.set_cons_succ]
  refine x_take (i := 4) (v := (.agg #[.int .i64 yk, .string yt, .int .i64 yn, .slice fa m fc, .int .i64 yf, .int .i64 yo])) rfl rfl (by kernel_rfl) (by kernel_rfl) (by kernel_rfl) (by kernel_rfl) (fun _ _ _ h => h) (.inl ⟨by rfl, ?_⟩) HSS.out ?_
  · intro X hX; (try dsimp only at hX); obtain ⟨hs1, hs2, hs3, hs4, hs5, hs6, hs7, hs8⟩ := hX; go_simp
  simp only [List.getElem_toArray, List.getElem_cons_succ, List.getElem_cons_zero, Act.put, List.setIfInBounds_toArray, List.set_cons_zero, List.set_cons_succ]
  refine x_take (i := 5) (v := .pointer (some ⟨A + 2, 0, none⟩)) rfl rfl (by kernel_rfl) (by kernel_rfl) (by kernel_rfl) (by kernel_rfl) (fun _ _ _ h => h) (.inl ⟨by rfl, ?_⟩) HSS.out ?_
  · intro X hX; (try dsimp only at hX); obtain ⟨hs1, hs2, hs3, hs4, hs5, hs6, hs7, hs8⟩ := hX; go_simp
  simp only [List.getElem_toArray, List.getElem_cons_succ, List.getElem_cons_zero, Act.put, List.setIfInBounds_toArray, List.set_cons_zero, List.set_cons_succ]
  refine x_take (i := 6) (v := (.slice va N vc)) rfl rfl (by kernel_rfl) (by kernel_rfl) (by kernel_rfl) (by kernel_rfl) (fun _ _ _ h => h) (.inl ⟨by rfl, ?_⟩) HSS.out ?_
  · intro X hX; (try dsimp only at hX); obtain ⟨hs1, hs2, hs3, hs4, hs5, hs6, hs7, hs8⟩ := hX; go_simp
  simp only [List.getElem_toArray, List.getElem_cons_succ, List.getElem_cons_zero, Act.put, List.setIfInBounds_toArray, List.set_cons_zero, List.set_cons_succ]
  refine x_take (i := 7) (v := (.int .i64 (N : Int))) rfl rfl (by kernel_rfl) (by kernel_rfl) (by kernel_rfl) (by kernel_rfl) (fun _ _ _ h => h) (.inl ⟨by rfl, ?_⟩) HSS.out ?_
  · intro X hX; (try dsimp only at hX); obtain ⟨hs1, hs2, hs3, hs4, hs5, hs6, hs7, hs8⟩ := hX; go_simp
  simp only [List.getElem_toArray, List.getElem_cons_succ, List.getElem_cons_zero, Act.put, List.setIfInBounds_toArray, List.set_cons_zero, List.set_cons_succ]
  refine x_one (i := 8) (by kernel_rfl) rfl (fun K' hK' => ?_)
  go_simp
  have tz := World.alloc_heap_new W (.cells #[.int .i64 0, .string ⟨#[]⟩, .int .i64 0, .slice none 0 0, .int .i64 0, .int .i64 0] 38)
  have hbz : Below W.heap.size W (W.alloc (.cells #[.int .i64 0, .string ⟨#[]⟩, .int .i64 0, .slice none 0 0, .int .i64 0, .int .i64 0] 38)).drew := ((Below.refl _ _).alloc (Nat.le_refl _) _).drew
  have hsz : ∀ X : World, Below W.heap.size W X → X.cell? ⟨A, 0, none⟩ = some (.slice (some ⟨b, off, none⟩) n cap) ∧ X.cell? ⟨A + 2, 0, none⟩ = some (.slice va N vc) ∧ X.cell? ⟨b, off + i * 6, none⟩ = some (.int .i64 yk) ∧ X.cell? ⟨b, off + i * 6 + 1, none⟩ = some (.string yt) ∧ X.cell? ⟨b, off + i * 6 + 2, none⟩ = some (.int .i64 yn) ∧ X.cell? ⟨b, off + i * 6 + 3, none⟩ = some (.slice fa m fc) ∧ X.cell? ⟨b, off + i * 6 + 4, none⟩ = some (.int .i64 yf) ∧ X.cell? ⟨b, off + i * 6 + 5, none⟩ = some (.int .i64 yo) := fun X hX => by
    have hA2 := lt_of HM.out.out
    have hA0 := lt_of HM.out.tree
    have hbl : b < W.heap.size := by have := HBA.out.2; omega
    exact ⟨(hX.cell (p := ⟨A, 0, none⟩) hA0).trans HSS.out.1, (hX.cell (p := ⟨A + 2, 0, none⟩) hA2).trans HSS.out.2.1, (hX.cell (p := ⟨b, off + i * 6, none⟩) hbl).trans HSS.out.2.2.1, (hX.cell (p := ⟨b, off + i * 6 + 1, none⟩) hbl).trans HSS.out.2.2.2.1, (hX.cell (p := ⟨b, off + i * 6 + 2, none⟩) hbl).trans HSS.out.2.2.2.2.1, (hX.cell (p := ⟨b, off + i * 6 + 3, none⟩) hbl).trans HSS.out.2.2.2.2.2.1, (hX.cell (p := ⟨b, off + i * 6 + 4, none⟩) hbl).trans HSS.out.2.2.2.2.2.2.1, (hX.cell (p := ⟨b, off + i * 6 + 5, none⟩) hbl).trans HSS.out.2.2.2.2.2.2.2⟩
  have HSZ := Lib.hid hsz
  have HBZ := Lib.hid hbz
  have htz : (W.alloc (.cells #[.int .i64 0, .string ⟨#[]⟩, .int .i64 0, .slice none 0 0, .int .i64 0, .int .i64 0] 38)).drew.heap[W.heap.size]? = _ := tz
  clear hsz hbz tz
  refine hK'.out _ _ (fun _ => HSZ.out _ HBZ.out) ?_
  clear hK' K'
  generalize (W.alloc (.cells #[.int .i64 0, .string ⟨#[]⟩, .int .i64 0, .slice none 0 0, .int .i64 0, .int .i64 0] 38)).drew = WZ at htz HBZ ⊢
  obtain ⟨lB, hlB⟩ : ∃ x, W.heap.size = x := ⟨_, rfl⟩
  rw [hlB] at htz ⊢
  have HTZ := Lib.hid htz
  have HLB := Lib.hid (And.intro trivial hlB)
  have c0 := cell_at (i := 0) htz rfl
  have g0 : WZ.frozen? ⟨lB, 0, none⟩ = false := cells_frozen htz
  have c1 := cell_at (i := 1) htz rfl
  have g1 : WZ.frozen? ⟨lB, 1, none⟩ = false := cells_frozen htz
  have c2 := cell_at (i := 2) htz rfl
  have g2 : WZ.frozen? ⟨lB, 2, none⟩ = false := cells_frozen htz
  have c3 := cell_at (i := 3) htz rfl
  have g3 : WZ.frozen? ⟨lB, 3, none⟩ = false := cells_frozen htz
  have c4 := cell_at (i := 4) htz rfl
  have g4 : WZ.frozen? ⟨lB, 4, none⟩ = false := cells_frozen htz
  have c5 := cell_at (i := 5) htz rfl
  have g5 : WZ.frozen? ⟨lB, 5, none⟩ = false := cells_frozen htz
  clear htz hlB
  refine x_one (i := 9) (by kernel_rfl) rfl (fun K' hK' => ?_)
  go_simp
  clear c0 c1 c2 c3 c4 c5 g0 g1 g2 g3 g4 g5
  have hl3 := cells_set (i := 5) (.int .i64 yo) (cells_set (i := 4) (.int .i64 yf) (cells_set (i := 3) (.slice fa m fc) (cells_set (i := 2) (.int .i64 yn) (cells_set (i := 1) (.string yt) (cells_set (i := 0) (.int .i64 yk) (HTZ.out))))))
  have hb3 : Below W.heap.size W ((((((WZ.setCell ⟨lB, 0, none⟩ (.int .i64 yk)).setCell ⟨lB, 1, none⟩ (.string yt)).setCell ⟨lB, 2, none⟩ (.int .i64 yn)).setCell ⟨lB, 3, none⟩ (.slice fa m fc)).setCell ⟨lB, 4, none⟩ (.int .i64 yf)).setCell ⟨lB, 5, none⟩ (.int .i64 yo)) := ((((((HBZ.out.setCell (p := ⟨lB, 0, none⟩) (Nat.le_of_eq HLB.out.2) (.int .i64 yk)).setCell (p := ⟨lB, 1, none⟩) (Nat.le_of_eq HLB.out.2) (.string yt)).setCell (p := ⟨lB, 2, none⟩) (Nat.le_of_eq HLB.out.2) (.int .i64 yn)).setCell (p := ⟨lB, 3, none⟩) (Nat.le_of_eq HLB.out.2) (.slice fa m fc)).setCell (p := ⟨lB, 4, none⟩) (Nat.le_of_eq HLB.out.2) (.int .i64 yf)).setCell (p := ⟨lB, 5, none⟩) (Nat.le_of_eq HLB.out.2) (.int .i64 yo))
  generalize ((((((WZ.setCell ⟨lB, 0, none⟩ (.int .i64 yk)).setCell ⟨lB, 1, none⟩ (.string yt)).setCell ⟨lB, 2, none⟩ (.int .i64 yn)).setCell ⟨lB, 3, none⟩ (.slice fa m fc)).setCell ⟨lB, 4, none⟩ (.int .i64 yf)).setCell ⟨lB, 5, none⟩ (.int .i64 yo)) = W3 at hl3 hb3 ⊢
  have hl4 : W3.heap[lB]? = some (.cells #[.int .i64 yk, .string yt, .int .i64 yn, .slice fa m fc, .int .i64 yf, .int .i64 yo] 38) := hl3
  have HL3 := Lib.hid hl4
  have HB3 := Lib.hid hb3
  clear hl3 hb3 hl4 HTZ HBZ
  refine hK'.out _ _ (fun _ => HSZ.out _ HB3.out) ?_
  clear hK' K'
  refine x_one (i := 10) (by kernel_rfl) rfl (fun K' hK' => ?_)
  go_simp
  refine hK'.out _ _ (fun h => absurd rfl h) ?_
  clear hK' K'
  refine x_done (by kernel_rfl) ?_ _
  have HM3 := Lib.hid (HM.out.keep HB3.out)
  have l0 : W3.cell? ⟨lB, 0, none⟩ = some (.int .i64 yk) := cell_at (i := 0) HL3.out rfl
  have l1 : W3.cell? ⟨lB, 1, none⟩ = some (.string yt) := cell_at (i := 1) HL3.out rfl
  have l2 : W3.cell? ⟨lB, 2, none⟩ = some (.int .i64 yn) := cell_at (i := 2) HL3.out rfl
  have l3 : W3.cell? ⟨lB, 3, none⟩ = some (.slice fa m fc) := cell_at (i := 3) HL3.out rfl
  have l4 : W3.cell? ⟨lB, 4, none⟩ = some (.int .i64 yf) := cell_at (i := 4) HL3.out rfl
  have l5 : W3.cell? ⟨lB, 5, none⟩ = some (.int .i64 yo) := cell_at (i := 5) HL3.out rfl
  have x0 := cell_at (i := 0) HM3.out.out rfl
  rw [HN.out] at x0
  clear HSZ HSS
  -- the append
  obtain ⟨i0, hi, hz0, hz1, hz2⟩ := info_parts infoLeaf
  have HI0 := Lib.hid hi
  have HZ0 := Lib.hid hz0
  have HZ1 := Lib.hid hz1
  have HZ2 := Lib.hid hz2
  clear hi hz0 hz1 hz2
  have hb4 : Below W3.heap.size W3 (W3.alloc (.cells #[.int .i64 yk, .string yt, .int .i64 yn, .slice fa m fc, .int .i64 yf, .int .i64 yo] 38)) := (Below.refl _ _).alloc (Nat.le_refl _) _
  have HM4 := Lib.hid (HM3.out.keep hb4)
  have hnc := new_cells W3 [.int .i64 yk, .string yt, .int .i64 yn, .slice fa m fc, .int .i64 yf, .int .i64 yo] 38
  have HNC := Lib.hid hnc
  have HB4 := Lib.hid hb4
  have hoc : ∀ u ∈ [(.int .i64 yk : Value), (.string yt : Value), (.int .i64 yn : Value), (.slice fa m fc : Value), (.int .i64 yf : Value), (.int .i64 yo : Value)], u.oneCell' = true := by
    intro u hu
    simp only [List.mem_cons, List.not_mem_nil, or_false] at hu
    rcases hu with rfl | rfl | rfl | rfl | rfl | rfl <;> rfl
  have HOC := Lib.hid hoc
  have HL4 := Lib.hid ((hb4.block lB (lt_of HL3.out)).trans HL3.out)
  have HX4 : Hid (lB < (W3.alloc (.cells #[.int .i64 yk, .string yt, .int .i64 yn, .slice fa m fc, .int .i64 yf, .int .i64 yo] 38)).heap.size) := Lib.hid (lt_of HL4.out)
  have HNL : Hid (N ≤ 100000) := Lib.hid (by have := HLEN.out; have := HN.out; omega)
  clear hb4 hnc hoc
  go_upto_region 2 with fail
  go_wp2_with (at_builtin; refine wpList_append_at _ rfl _ _ 22 rfl A 38 i0 (.agg #[.int .i64 0, .string ⟨#[]⟩, .int .i64 0, .slice none 0 0, .int .i64 0, .int .i64 0]) 6 72 Tryd.underlying22 HI0.out HZ0.out HZ1.out HZ2.out rfl (by decide) (.slice va N vc) N (entC P) rfl (by rw [← HN.out]; have h := HM4.out.row.own; exact h) ⟨W3.heap.size, 0, none⟩ 1 1 [.int .i64 yk, .string yt, .int .i64 yn, .slice fa m fc, .int .i64 yf, .int .i64 yo] rfl rfl HNC.out HOC.out (by have := HNL.out; unfold maxLen; omega) (by have := HNL.out; omega) (by have := lt_of HM4.out.tree; omega) ?_)
  intro v5 w5 hown hgrow hloc
  obtain ⟨g5, c5, rfl⟩ : ∃ g c, v5 = .slice (some ⟨g, 0, none⟩) (N + 1) c := by
    rcases hown.2 with ⟨_, h0⟩ | ⟨g, cp, cur, e, _⟩
    · omega
    · exact ⟨g, cp, e⟩
  have hvals : leafCs y (.slice fa m fc) = [.int .i64 yk, .string yt, .int .i64 yn, .slice fa m fc, .int .i64 yf, .int .i64 yo] := by
    unfold leafCs
    rw [HY.out.1, HY.out.2.1, HY.out.2.2.1, HY.out.2.2.2.1, HY.out.2.2.2.2]
  have hown' : w5.ownsRow A 38 6 (.slice (some ⟨g5, 0, none⟩) (N + 1) c5) (P.length + 1) (entC P ++ leafCs y (.slice fa m fc)) := by rw [hvals, HN.out]; exact hown
  have hks4 : IsAt (W3.alloc (.cells #[.int .i64 yk, .string yt, .int .i64 yn, .slice fa m fc, .int .i64 yf, .int .i64 yo] 38)) (.slice fa m fc) y.kids := by rw [HKE.out]; exact HKS.out.keep (B := A) HM4.out.below (Nat.le_of_eq HA.out.2)
  have hoff4 : Off (.slice fa m fc) (.slice va N vc) (A + 2) := by
    intro ad' n' c' e hn'
    have h1 := HKS.out.lt ad' n' c' e hn'
    rw [HA.out.2] at h1
    refine ⟨fun e2 => ?_, by omega⟩
    have h2 := (HM4.out.row.lt _ (by rw [HN.out]; exact e2)).1
    omega
  have hX : A + 2 < (W3.alloc (.cells #[.int .i64 yk, .string yt, .int .i64 yn, .slice fa m fc, .int .i64 yf, .int .i64 yo] 38)).heap.size := lt_of HM4.out.out
  have hrow4 := HM4.out.row
  rw [HN.out] at hrow4
  obtain ⟨hr5, hnx5⟩ := hrow4.app hX hown' hgrow (hloc.imp id (fun e => by rw [e]; simp)) hks4 hoff4
  have hv2 : (Value.slice va N vc).ownBlock ≠ some (A + 2) := hrow4.ne
  have hv0 : (Value.slice va N vc).ownBlock ≠ some A := hrow4.not HM4.out.tree (by decide)
  have hv3 : (Value.slice va N vc).ownBlock ≠ some (A + 3) := hrow4.not HM4.out.fn (by decide)
  have hvl : (Value.slice va N vc).ownBlock ≠ some lB := by
    intro e
    have h1 := HM.out.row.lt lB (by rw [HN.out]; exact e)
    have h2 := HLB.out.2
    omega
  have ht5 := (hgrow.block A (lt_of HM4.out.tree) (fun e => hv0 e.symm)).trans HM4.out.tree
  have ho5 := (hgrow.block (A + 2) (lt_of HM4.out.out) (fun e => hv2 e.symm)).trans HM4.out.out
  have hf5 := (hgrow.block (A + 3) (lt_of HM4.out.fn) (fun e => hv3 e.symm)).trans HM4.out.fn
  have hl5 := (hgrow.block lB HX4.out (fun e => hvl e.symm)).trans HL4.out
  have hb5 := HM4.out.below.grown hgrow (by have := lt_of HM4.out.tree; omega) (fun k hk => (hrow4.lt k hk).1)
  have hfr5 : Fr A W (.slice va N vc) w5 (.slice (some ⟨g5, 0, none⟩) (N + 1) c5) := ((Fr.of_below HB3.out).trans (Fr.of_below HB4.out)).trans ⟨hnx5, fun j hj _ hv => hgrow.block j hj (fun e => hv e.symm)⟩
  have cb := cell_at (i := 0) ho5 rfl
  have fb := cells_frozen (i := 0) ho5
  rw [HN.out] at cb
  have hm6 : BwM A w0 (.slice (some ⟨b, off, none⟩) n cap) root (.slice (some ⟨g5, 0, none⟩) (N + 1) c5) (P ++ [(y, .slice fa m fc)]) (w5.setCell ⟨A + 2, 0, none⟩ (.slice (some ⟨g5, 0, none⟩) (N + 1) c5)) :=
    ⟨hb5.setCell (p := ⟨A + 2, 0, none⟩) (by show A ≤ A + 2; omega) _, (Below.heap_setCell _ _ _ _ (by show A ≠ A + 2; omega)).trans ht5, cells_set _ ho5, (Below.heap_setCell _ _ _ _ (by show A + 3 ≠ A + 2; omega)).trans hf5, hr5.box 0 _⟩
  have hl6 : (w5.setCell ⟨A + 2, 0, none⟩ (.slice (some ⟨g5, 0, none⟩) (N + 1) c5)).heap[lB]? = _ := (Below.heap_setCell _ _ _ _ (by show lB ≠ A + 2; have := lt_of HM.out.out; have := HLB.out.2; omega)).trans hl5
  have hfr6 : Fr A W (.slice va N vc) (w5.setCell ⟨A + 2, 0, none⟩ (.slice (some ⟨g5, 0, none⟩) (N + 1) c5)) (.slice (some ⟨g5, 0, none⟩) (N + 1) c5) := hfr5.trans ⟨⟨by simp [World.setCell], .inl rfl⟩, fun j _ hne _ => Below.heap_setCell _ _ _ _ hne⟩
  have HM6 := Lib.hid hm6
  have HL6 := Lib.hid hl6
  have HF6 := Lib.hid hfr6
  clear hown hown' hgrow hloc hvals hks4 hoff4 hX hrow4 hr5 hnx5 hv2 hv0 hv3 hvl ht5 ho5 hf5 hl5 hb5 hfr5 hm6 hl6 hfr6 HM4 HNC HB4 HOC HL4 HX4 HM3 HL3 HB3 HI0 HZ0 HZ1 HZ2 l0 l1 l2 l3 l4 l5 x0
  go_upto_region 3 with fail
  generalize w5.setCell ⟨A + 2, 0, none⟩ (.slice (some ⟨g5, 0, none⟩) (N + 1) c5) = W6 at HM6 HL6 HF6 ⊢
  clear cb fb
  -- the row of the kids
  obtain ⟨j0, hji, hjz0, hjz1, hjz2⟩ := info_parts infoInt
  have JI := Lib.hid hji
  have JZ0 := Lib.hid hjz0
  have JZ1 := Lib.hid hjz1
  have JZ2 := Lib.hid hjz2
  clear hji hjz0 hjz1 hjz2
  have l3 : W6.cell? ⟨lB, 3, none⟩ = some (.slice fa m fc) := cell_at (i := 3) HL6.out rfl
  have hb7 : Below W6.heap.size W6 (W6.alloc (.cells (zerosA m) 3)) := (Below.refl _ _).alloc (Nat.le_refl _) _
  have HM7 := Lib.hid (HM6.out.keep hb7)
  have HL7 := Lib.hid ((hb7.block lB (lt_of HL6.out)).trans HL6.out)
  have HF7 := Lib.hid (HF6.out.trans (Fr.of_below hb7))
  have HK7 := Lib.hid (World.alloc_heap_new W6 (.cells (zerosA m) 3))
  have HO7 : Hid (∀ p ∈ P ++ [(y, Value.slice fa m fc)], OffK p.2 W6.heap.size) := Lib.hid (fun p hp ad' n' c' e hn' => Nat.ne_of_lt ((HM6.out.row.kids p hp).1.lt ad' n' c' e hn'))
  have HV7 : Hid ((Value.slice (some ⟨g5, 0, none⟩) (N + 1) c5).ownBlock ≠ some W6.heap.size) := Lib.hid (fun e => Nat.lt_irrefl _ (HM6.out.row.lt _ e).2)
  have HS7 : Hid (W6.heap.size < (W6.alloc (.cells (zerosA m) 3)).heap.size) := Lib.hid (by simp)
  have HW6 : Hid (W.heap.size ≤ W6.heap.size ∧ A + 4 ≤ W6.heap.size) := Lib.hid ⟨HF6.out.nx.size, by have := lt_of HM6.out.fn; omega⟩
  have hml : m ≤ 100000 := hkl
  have HIM7 := Lib.hid (HM7.out.below)
  clear hb7 hkl
  go_upto_region 4 with (refine wpList_make_at _ rfl (.tmp 27) (.tmp 27) 32 rfl 3 j0 (.int .i64 0) Tryd.underlying32 JI.out JZ0.out m rfl rfl (by rw [JZ2.out]; omega) (by omega) ?_; rw [JZ1.out, made_ints])
  generalize W6.alloc (.cells (zerosA m) 3) = W7 at HM7 HL7 HF7 HK7 HS7 HIM7 ⊢
  obtain ⟨K, hK⟩ : ∃ x, W6.heap.size = x := ⟨_, rfl⟩
  rw [hK] at HK7 HO7 HV7 HS7 HW6 ⊢
  clear hK l3 HM6 HL6 HF6
  have l3 : W7.cell? ⟨lB, 3, none⟩ = some (.slice fa m fc) := cell_at (i := 3) HL7.out rfl
  go_upto_region 5 with fail
  go_wp2_with fail
  clear l3 HL7
  obtain ⟨PE, hPE⟩ : ∃ PE : List Ent, P ++ [(y, Value.slice fa m fc)] = PE := ⟨_, rfl⟩
  rw [hPE] at HM7 HO7
  have HPE := Lib.hid hPE
  have HPL : Hid (PE.length = N + 1) := Lib.hid (by rw [← hPE, List.length_append, HN.out]; rfl)
  clear hPE
  go_loopw [32] (fun iv wr => ∃ (c : Nat) (v' : Value) (Q : List Ent), c ≤ m ∧ iv = .int .i64 c ∧ Hid (BwM A w0 (.slice (some ⟨b, off, none⟩) n cap) root v' (PE ++ Q) wr) ∧ Hid (Q.map (·.1) = Sx.flatK (Sx.flat L k) (Sx.sizeF L k) (ks.take c) (N + 1)) ∧ Hid (wr.heap[K]? = some (.cells (kidA (Sx.sizeF L k) ks (N + 1) c).toArray 3)) ∧ Hid (v'.ownBlock ≠ some K) ∧ Hid (Fr A W (.slice va N vc) wr v') ∧ Hid (Fresh W7.heap.size Q) ∧ Hid (W7.heap.size ≤ wr.heap.size)) (fun iv _ => m - (intOf iv).toNat)
  case atStart =>
    refine ⟨0, _, [], Nat.zero_le _, rfl, Lib.hid (by rw [List.append_nil]; exact HM7.out), Lib.hid (by rw [List.take_zero]; rfl), Lib.hid ?_, HV7, HF7, Lib.hid (fun p hp => by cases hp), Lib.hid (Nat.le_refl _)⟩
    have h := HK7.out
    unfold zerosA at h
    unfold kidA
    rw [List.take_zero, HMM.out]
    exact h
  case round =>
    obtain ⟨c, v', Q, hc, rfl, HM, HQ, HK, HV, HF, HR, HZ⟩ := hrel
    by_cases hlt : c < m
    · have hcl : c < ks.length := by rw [HMM.out]; exact hlt
      obtain ⟨bk, ok, rfl, hbk, hck⟩ := HKS.out.at c hcl
      have hkc := (HM.out.below.cell (p := ⟨bk, ok + c, none⟩) (by rw [← HA.out.2]; exact hbk)).trans hck
      have hkd := HKI.out ks[c] (List.getElem_mem _)
      have hgo := Sx.flatK_go (Sx.flat L k) (Sx.sizeF L k) hcl (N + 1)
      have hkg := kidA_go (Sx.sizeF L k) ks (N + 1) c hcl
      have hQl : Q.length = Sx.szL (Sx.sizeF L k) (ks.take c) := by
        have h := congrArg List.length HQ.out
        rw [List.length_map, Sx.flatK_len (Sx.flat_len L k)] at h
        exact h
      have hsz : Sx.szL (Sx.sizeF L k) (ks.take c) + Sx.sizeF L k ks[c] ≤ Sx.szL (Sx.sizeF L k) ks := by
        rw [← Sx.szL_go (Sx.sizeF L k) hcl]
        exact Sx.szL_le _ _ _
      have hpl : (PE ++ Q).length = N + 1 + Sx.szL (Sx.sizeF L k) (ks.take c) := by rw [List.length_append, HPL.out, hQl]
      obtain ⟨z, hz⟩ : ∃ z, ks[c] = z := ⟨_, rfl⟩
      rw [hz] at hkc hkd hgo hsz
      have hcall := HI.out z wr v' (PE ++ Q) hkd (by rw [hpl]; have h := HLEN.out; rw [HN.out] at h; omega) HM.out
      unfold bwArgs at hcall
      rw [hpl] at hcall
      obtain ⟨T, hT⟩ : ∃ T : Nat, N + 1 + Sx.szL (Sx.sizeF L k) (ks.take c) = T := ⟨_, rfl⟩
      rw [hT] at hcall hgo hkg
      have x3 := cell_at (i := 0) HM.out.fn rfl
      have g1 : (0 : Int) ≤ c := by omega
      have g2 : (c : Int) < m := by omega
      have HCALL := Lib.hid hcall
      have HGO := Lib.hid hgo
      have HKG := Lib.hid hkg
      have HKL := Lib.hid (And.intro trivial hcl)
      clear hck hkd hgo hkg hQl hsz hpl hz hcall hT hcl hbk
      go_wp2_with fail
      refine HCALL.out.mono ?_
      rintro e w8 ⟨rfl, v8, Q8, hm8, hq8, hf8, hr8⟩
      clear x3
      have hK8 := (hf8.same K (lt_of HK.out) (by have := HW6.out.2; omega) HV.out).trans HK.out
      have hv8 := hf8.nx.off (lt_of HK.out) HV.out
      have hkl := kidA_len (Sx.sizeF L k) ks (N + 1) c (Nat.le_of_lt HKL.out.2)
      have ck : ∃ u, w8.cell? ⟨K, c, none⟩ = some u := ⟨_, cell_at (i := c) hK8 (by rw [List.getElem?_toArray]; exact List.getElem?_eq_getElem (by rw [hkl]; exact HKL.out.2))⟩
      obtain ⟨uk, ck⟩ := ck
      have fk : w8.frozen? ⟨K, c, none⟩ = false := cells_frozen hK8
      have hoff : ∀ p ∈ PE ++ (Q ++ Q8), OffK p.2 K := by
        intro p hp
        rcases List.mem_append.1 hp with hp | hp
        · exact HO7.out p hp
        · intro ad' n' c' e hn' e2
          rcases List.mem_append.1 hp with hp | hp
          · have h1 := HR.out p hp ad' n' c' e hn'
            have h2 := HS7.out
            omega
          · have h1 := hr8 p hp ad' n' c' e hn'
            have h2 := HS7.out
            have h3 := HZ.out
            omega
      rw [List.append_assoc] at hm8
      have hm9 := hm8.far c (.int .i64 ((T : Nat) : Int)) (by have := HW6.out.2; omega) (by have := HW6.out.2; omega) (by have := HW6.out.2; omega) (by have := HW6.out.2; omega) hv8 hoff
      have hK9 := cells_set (i := c) (.int .i64 ((T : Nat) : Int)) hK8
      rw [HKG.out] at hK9
      have hf9 : Fr A W (.slice va N vc) (w8.setCell ⟨K, c, none⟩ (.int .i64 ((T : Nat) : Int))) v8 := by
        refine (HF.out.trans hf8).trans' (by simp [World.setCell]) fun j hj hne hv => Below.heap_setCell _ _ _ _ ?_
        have := HW6.out.1
        show j ≠ K
        omega
      have HM9 := Lib.hid hm9
      have HK9 := Lib.hid hK9
      have HF9 := Lib.hid hf9
      have HV9 := Lib.hid hv8
      have HQ9 : Hid ((Q ++ Q8).map (·.1) = Sx.flatK (Sx.flat L k) (Sx.sizeF L k) (ks.take (c + 1)) (N + 1)) := Lib.hid (by rw [List.map_append, HQ.out, hq8, HGO.out])
      have HR9 : Hid (Fresh W7.heap.size (Q ++ Q8)) := Lib.hid (fun p hp => by
        rcases List.mem_append.1 hp with hp | hp
        · exact HR.out p hp
        · exact (hr8.mono HZ.out) p hp)
      have HZ9 : Hid (W7.heap.size ≤ (w8.setCell ⟨K, c, none⟩ (.int .i64 ((T : Nat) : Int))).heap.size) := Lib.hid (by
        have h1 := hf8.nx.size
        have h2 := HZ.out
        simp [World.setCell]
        omega)
      clear hm8 hq8 hf8 hr8 hK8 hv8 hkl hoff hm9 hK9 hf9 HCALL HGO HKG HM HQ HK HV HF HR HZ
      go_wp2
      go_roundw
      case rel => exact ⟨c + 1, v8, Q ++ Q8, by omega, by go_num, HM9, HQ9, HK9, HV9, HF9, HR9, HZ9⟩
      case measure => simp [intOf]; omega
    · obtain rfl : m = c := by omega
      have hnn : ¬ (m : Int) < m := by omega
      have hrow := HM.out.row
      have hPEQ : (PE ++ Q).length ≠ 0 := by rw [List.length_append, HPL.out]; omega
      obtain ⟨g, cap2, rfl⟩ : ∃ g cap2, v' = .slice (some ⟨g, 0, none⟩) (PE ++ Q).length cap2 := by
        rcases hrow.own.2 with ⟨_, h0⟩ | ⟨g, cp, cur, e, _⟩
        · exact absurd h0 hPEQ
        · exact ⟨g, cp, e⟩
      have hNl : N < (PE ++ Q).length := by rw [List.length_append, HPL.out]; omega
      have hent : (PE ++ Q)[N] = (y, Value.slice fa m fc) := by
        have h : (PE ++ Q)[N]? = some (y, Value.slice fa m fc) := by
          rw [← HPE.out, List.append_assoc, List.getElem?_append_right (by rw [HN.out]; exact Nat.le_refl _), HN.out, Nat.sub_self]
          rfl
        rw [List.getElem?_eq_getElem hNl] at h
        exact Option.some.inj h
      have hkA : kidA (Sx.sizeF L k) ks (N + 1) m = (Sx.posK (Sx.sizeF L k) ks (N + 1)).map (Value.int .i64 ·) := by
        unfold kidA
        rw [HMM.out, Nat.sub_self, List.replicate_zero, List.append_nil, List.take_of_length_le (by rw [HMM.out]; exact Nat.le_refl _)]
      have hkK := HK.out
      rw [hkA] at hkK
      have hu : IsAt wr (.slice (some ⟨K, 0, none⟩) m m) (Sx.posK (Sx.sizeF L k) ks (N + 1)) := IsAt.blk hkK (by rw [Sx.posK_len, HMM.out]) (fun q hq => by
        rw [List.getElem?_toArray, List.getElem?_map, List.getElem?_eq_getElem hq]
        rfl)
      have huo : Off (.slice (some ⟨K, 0, none⟩) m m) (.slice (some ⟨g, 0, none⟩) (PE ++ Q).length cap2) (A + 2) := by
        intro ad' n' c' e hn'
        cases e
        exact ⟨HV.out, by have := HW6.out.2; show K ≠ A + 2; omega⟩
      have hput := hrow.put N hNl (Sx.posK (Sx.sizeF L k) ks (N + 1)) (.slice (some ⟨K, 0, none⟩) m m) hu huo
      rw [hent] at hput
      have hset : (PE ++ Q).set N ({ y with kids := Sx.posK (Sx.sizeF L k) ks (N + 1) }, Value.slice (some ⟨K, 0, none⟩) m m) = P ++ ({ y with kids := Sx.posK (Sx.sizeF L k) ks (N + 1) }, Value.slice (some ⟨K, 0, none⟩) m m) :: Q := by
        rw [← HPE.out, List.append_assoc, List.set_append_right _ _ (by rw [HN.out]; exact Nat.le_refl _), HN.out, Nat.sub_self]
        rfl
      rw [show ((y, Value.slice fa m fc) : Ent).1 = y from rfl, hset] at hput
      have hgl := hrow.lt g rfl
      have hg0 : A ≠ g := fun e => hrow.not HM.out.tree (by decide) (by rw [e]; rfl)
      have hg2 : A + 2 ≠ g := fun e => hrow.ne (by rw [e]; rfl)
      have hg3 : A + 3 ≠ g := fun e => hrow.not HM.out.fn (by decide) (by rw [e]; rfl)
      have hcg : (∃ u, wr.cell? ⟨g, N * 6 + 3, none⟩ = some u) ∧ wr.frozen? ⟨g, N * 6 + 3, none⟩ = false := by
        rcases hrow.own.2 with ⟨e, _⟩ | ⟨g', cp, cur, e, h1, h2, h3, h4, h5, h6⟩
        · cases e
        · cases e
          refine ⟨⟨_, cell_at (i := N * 6 + 3) h2 (Array.getElem?_eq_getElem (by rw [h5]; omega))⟩, cells_frozen h2⟩
      have hm10 : BwM A w0 (.slice (some ⟨b, off, none⟩) n cap) root (.slice (some ⟨g, 0, none⟩) (PE ++ Q).length cap2) (P ++ ({ y with kids := Sx.posK (Sx.sizeF L k) ks (N + 1) }, Value.slice (some ⟨K, 0, none⟩) m m) :: Q) (wr.setCell ⟨g, N * 6 + 3, none⟩ (.slice (some ⟨K, 0, none⟩) m m)) :=
        ⟨HM.out.below.setCell (p := ⟨g, N * 6 + 3, none⟩) hgl.1 _, (Below.heap_setCell _ _ _ _ hg0).trans HM.out.tree, (Below.heap_setCell _ _ _ _ hg2).trans HM.out.out, (Below.heap_setCell _ _ _ _ hg3).trans HM.out.fn, hput⟩
      have hf10 : Fr A W (.slice va N vc) (wr.setCell ⟨g, N * 6 + 3, none⟩ (.slice (some ⟨K, 0, none⟩) m m)) (.slice (some ⟨g, 0, none⟩) (PE ++ Q).length cap2) :=
        HF.out.trans' (by simp [World.setCell]) fun j hj hne hv => Below.heap_setCell _ _ _ _ (fun e => HF.out.nx.off hj hv (by show some g = some j; rw [e]))
      have hfresh : Fresh W.heap.size (({ y with kids := Sx.posK (Sx.sizeF L k) ks (N + 1) }, Value.slice (some ⟨K, 0, none⟩) m m) :: Q) := by
        intro p hp ad' n' c' e hn'
        rcases List.mem_cons.1 hp with rfl | hp
        · cases e
          exact HW6.out.1
        · have h1 := HR.out p hp ad' n' c' e hn'
          have h2 := HS7.out
          have h3 := HW6.out.1
          omega
      have hmap : (({ y with kids := Sx.posK (Sx.sizeF L k) ks (N + 1) }, Value.slice (some ⟨K, 0, none⟩) m m) :: Q).map (·.1) = { y with kids := Sx.posK (Sx.sizeF L k) ks (N + 1) } :: Sx.flatK (Sx.flat L k) (Sx.sizeF L k) ks (N + 1) := by
        rw [List.map_cons, HQ.out, List.take_of_length_le (by rw [HMM.out]; exact Nat.le_refl _)]
      have x2 := cell_at (i := 0) HM.out.out rfl
      obtain ⟨ck, fk⟩ := hcg
      obtain ⟨uk, ck⟩ := ck
      obtain ⟨M, hM⟩ : ∃ M, (PE ++ Q).length = M := ⟨_, rfl⟩
      rw [hM] at x2 hNl hm10 hf10
      have g3 : (0 : Int) ≤ N := by omega
      have g4 : (N : Int) < M := by omega
      have HM10 := Lib.hid hm10
      have HF10 := Lib.hid hf10
      have HR10 := Lib.hid hfresh
      have HQ10 := Lib.hid hmap
      clear hrow hPEQ hent hkA hkK hu huo hput hset hgl hg0 hg2 hg3 hm10 hf10 hfresh hmap hM HM HQ HK HV HF HR HZ
      go_wp2
      go_ret
      refine ⟨by rw [HN.out] <;> rfl, _, _, HM10.out, ?_, by rw [HN.out]; exact HF10.out, HR10.out⟩
      rw [HN.out]
      exact HQ10.out

theorem below_ok (A n cap : Nat) (ad : Option Addr) (w0 : World) (hA : w0.heap.size = A) (root : Int) (L : List LeafM) (hL : LsAt w0 (.slice ad n cap) L) (hS : SmT L) (hn : L.length = n) : ∀ k, BwOk A w0 (.slice ad n cap) root L k
  | 0 => fun t W v P h _ _ => h.elim
  | k + 1 => below_step A n cap ad w0 hA root L hL hS hn k (below_ok A n cap ad w0 hA root L hL hS hn k)

end Go.Proofs.YtpeihgbkolihgaaDoor
