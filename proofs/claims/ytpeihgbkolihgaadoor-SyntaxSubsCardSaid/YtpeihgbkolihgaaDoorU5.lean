/- The literal of deepest at a leaf that is new. -/
import Derived.Test.YtpeihgbkolihgaaDoorU4
set_option linter.unusedVariables false
set_option linter.unusedSimpArgs false
namespace Go.Proofs.YtpeihgbkolihgaaDoor
open Go.RowKit

/-- What a call of the literal is to do while fewer than k leaves are unmarked. -/
def RcOk (B n cap : Nat) (ad : Option Addr) (w : World) (root : Int) (L : List LeafM) (k : Nat) : Prop :=
  ∀ (t depth : Int) (W : World) (s : Sx.St), 0 ≤ depth → depth ≤ 200000 - (Sx.unm s : Int) → s.marks.length = L.length → s.count + Sx.unm s = L.length → Sx.unm s < k → DpM B w (.slice ad n cap) root n W s →
    Calls Tryd.prog 55 (dpArgs B t depth) W fun e W' => e = .returned (.bool (Sx.reachF L k t depth s).1) ∧ DpM B w (.slice ad n cap) root n W' (Sx.reachF L k t depth s).2

theorem wrap_small (k : Nat) (h : k ≤ 100000) : wrap64 ((k : Int) + 1) = (k : Int) + 1 := IntWalk.wrap64_in _ (by omega)
theorem wrap_small' (k : Nat) (h : k ≤ 100000) : IntKind.i64.wrap ((k : Int) + 1) = (k : Int) + 1 := IntWalk.i64_in _ (by omega)

set_option maxRecDepth 100000 in
set_option maxHeartbeats 12800000 in
theorem reach_new (B n cap : Nat) (ad : Option Addr) (w : World) (hB : B = w.heap.size) (root : Int) (L : List LeafM) (hL : LsAt w (.slice ad n cap) L) (hS : SmT L) (hn : L.length = n) (k : Nat) (ih : RcOk B n cap ad w root L k)
    (i : Nat) (depth : Int) (W : World) (s : Sx.St) (hd0 : 0 ≤ depth) (hd1 : depth ≤ 200000 - (Sx.unm s : Int)) (hlen : s.marks.length = L.length) (hcu : s.count + Sx.unm s = L.length) (hun : Sx.unm s < k + 1) (hi : i < n) (hb : Sx.bad L i s = false) (hm : DpM B w (.slice ad n cap) root n W s) :
    Calls Tryd.prog 55 (dpArgs B i depth) W fun e W' => e = .returned (.bool (Sx.reachF L (k + 1) i depth s).1) ∧ DpM B w (.slice ad n cap) root n W' (Sx.reachF L (k + 1) i depth s).2 := by
  rw [Sx.reachF_good hb]
  obtain ⟨g, hg⟩ : ∃ g : Int → Sx.St → Bool × Sx.St, g = fun q s => Sx.reachF L k q (depth + 1) s := ⟨_, rfl⟩
  rw [← hg]
  have hgle : ∀ q s, Sx.Le s (g q s).2 := by rw [hg]; exact fun q s => Sx.reachF_le L k q (depth + 1) s
  have hih : ∀ (q : Int) (W : World) (s : Sx.St), depth + 1 ≤ 200000 - (Sx.unm s : Int) → s.marks.length = L.length → s.count + Sx.unm s = L.length → Sx.unm s < k → DpM B w (.slice ad n cap) root n W s → Calls Tryd.prog 55 (dpArgs B q (depth + 1)) W fun e W' => e = .returned (.bool (g q s).1) ∧ DpM B w (.slice ad n cap) root n W' (g q s).2 := by
    intro q W s h1 h2 h3 h4 h5
    have h0 : 0 ≤ depth + 1 := by omega
    have h := ih q (depth + 1) W s h0 h1 h2 h3 h4 h5
    have hq : Sx.reachF L k q (depth + 1) s = g q s := by rw [hg]
    rw [hq] at h
    exact h
  have hmk := (Sx.not_bad hb).2
  rw [Int.toNat_natCast] at hmk
  obtain ⟨b, off, fa, fc, rfl, hbl, ⟨e0, e1, e2, e3, e4, e5⟩, hks⟩ := hL.at i (by omega)
  have g1 : (0 : Int) ≤ i := by omega
  have g2 : (i : Int) < n := by omega
  have q1 : b < B := by omega
  obtain ⟨ks, hks'⟩ : ∃ ks, L[i].kids = ks := ⟨_, rfl⟩
  have hko : Sx.kidsOf L i = ks := by unfold Sx.kidsOf; rw [Int.toNat_natCast, List.getElem?_eq_getElem (by omega)]; exact hks'
  rw [hko]
  have hkl := (hS.2 L[i] (List.getElem_mem _)).2.1
  rw [hks'] at hks hkl e3
  obtain ⟨m, hmm⟩ : ∃ m, ks.length = m := ⟨_, rfl⟩
  rw [hmm] at hks hkl e3
  have ⟨hle, hun2⟩ := Sx.mark_le (depth := depth) hb
  obtain ⟨s1, hs1⟩ : ∃ s1, Sx.mark i depth s = s1 := ⟨_, rfl⟩
  rw [hs1] at hle hun2 ⊢
  have HC := Lib.hid (isLeaf_any (some ⟨b, off, none⟩) n cap root i W true (Lib.hid (by simp; omega)))
  have c0 := cell_at (i := 0) hm.tree rfl
  have c1 := cell_at (i := 1) hm.tree rfl
  have hm2 := hm.alloc (.cells #[.slice (some ⟨b, off, none⟩) n cap, .int .i64 root] 24)
  obtain ⟨W2, hW2⟩ : ∃ W2, W.alloc (.cells #[.slice (some ⟨b, off, none⟩) n cap, .int .i64 root] 24) = W2 := ⟨_, rfl⟩
  rw [hW2] at hm2 HC
  have hlr := lt_of hm2.row
  have hlc := lt_of hm2.cnt
  have hlt := lt_of hm2.top
  have hcn : s.count ≤ 100000 := by have := hS.1; omega
  have hw1 := wrap_small s.count hcn
  have hw1' := wrap_small' s.count hcn
  obtain ⟨D, hDm, hDc⟩ : ∃ D, max s.top depth = D ∧ ((s.top < depth ∧ depth = D) ∨ (¬ s.top < depth ∧ s.top = D)) := by
    refine ⟨_, rfl, ?_⟩
    by_cases h : s.top < depth
    · exact .inl ⟨h, (Int.max_eq_right (Int.le_of_lt h)).symm⟩
    · exact .inr ⟨h, (Int.max_eq_left (Int.not_lt.1 h)).symm⟩
  have hmkd := hm2.mark i D
  rw [show (⟨s.marks.set i true, s.count + 1, D⟩ : Sx.St) = s1 by rw [← hs1, ← hDm]; unfold Sx.mark; rw [Int.toNat_natCast]] at hmkd
  have c2 := cell_at (i := 0) hm2.box rfl
  have c3 := cell_at (i := i) hm2.row (by rw [bools_get, hmk]; rfl)
  have c4 := cell_at (i := 0) hm2.cnt rfl
  have c5 := cell_at (i := 0) hm2.top rfl
  have c6 := cell_at (i := 0) hm2.tree rfl
  have f3 : W2.frozen? ⟨B + 1, i, none⟩ = false := cells_frozen hm2.row
  have f4 : W2.frozen? ⟨B + 3, 0, none⟩ = false := cells_frozen hm2.cnt
  have f5 : W2.frozen? ⟨B + 4, 0, none⟩ = false := cells_frozen hm2.top
  have hbW := hm2.below.cell (p := ⟨b, off + i * 6 + 3, none⟩) q1
  have e6 := hbW.trans e3
  have HMK := Lib.hid hmkd
  have HKS := Lib.hid hks
  have HIH := Lib.hid hih
  have HGL := Lib.hid hgle
  have HHLE := Lib.hid hle
  have HUN := Lib.hid (And.intro hun2 hun)
  have HCU := Lib.hid (And.intro hlen hcu)
  have HDD := Lib.hid (And.intro hd0 hd1)
  have HMM := Lib.hid hmm
  have HBE := Lib.hid (And.intro trivial hB)
  clear hB hm hm2 hmkd hks hks' hko hih ih hgle hle hun2 hun hlen hcu hd1 hL hS hb e0 e1 e2 e3 e4 e5 hbW hmk hs1 hg hmm hi hDm
  unfold dpArgs
  rcases hDc with ⟨hx, rfl⟩ | ⟨hx, rfl⟩
  all_goals go_enter Tryd.func55, Tryd.ntmps55
  all_goals (go_wp2_with fail; refine HC.out.mono ?_; rintro e w1 ⟨rfl, h⟩; rw [h]; clear h w1)
  all_goals go_wp2
  all_goals first | generalize (((W2.setCell ⟨B + 1, i, none⟩ (.bool true)).setCell ⟨B + 3, 0, none⟩ (.int .i64 ((s.count : Int) + 1))).setCell ⟨B + 4, 0, none⟩ (.int .i64 depth)) = W3 at HMK ⊢ | generalize (((W2.setCell ⟨B + 1, i, none⟩ (.bool true)).setCell ⟨B + 3, 0, none⟩ (.int .i64 ((s.count : Int) + 1))).setCell ⟨B + 4, 0, none⟩ (.int .i64 s.top)) = W3 at HMK ⊢
  all_goals clear hx c0 c1 c2 c3 c4 c5 c6 f3 f4 f5 e6 hlr hlc hlt hW2 HC hw1 hw1' hcn
  all_goals go_loopw [37] (fun iv wr => ∃ (c : Nat) (s' : Sx.St), c ≤ m ∧ iv = .int .i64 c ∧ Hid (Sx.kidsF g (ks.take c) s1 = (true, s')) ∧ Hid (DpM B w (.slice (some ⟨b, off, none⟩) n cap) root n wr s')) (fun iv _ => m - (intOf iv).toNat)
  all_goals try (case atStart => exact ⟨0, s1, Nat.zero_le _, rfl, Lib.hid (by rw [List.take_zero]; rfl), HMK⟩)
  all_goals try (case round =>
    obtain ⟨c, s', hc, rfl, HK, HM'⟩ := hrel
    by_cases hlt : c < m
    · have hcl : c < ks.length := by rw [HMM.out]; exact hlt
      obtain ⟨bk, ok, rfl, hbk, hck⟩ := HKS.out.at c hcl
      have hkc := (HM'.out.below.cell (p := ⟨bk, ok + c, none⟩) (by rw [HBE.out.2]; exact hbk)).trans hck
      have hfn := cell_at (i := 0) HM'.out.fn rfl
      obtain ⟨q, hq⟩ : ∃ q, ks[c] = q := ⟨_, rfl⟩
      have hgo := Sx.kidsF_go hcl HK.out
      rw [hq] at hkc hgo
      have hle2 := Sx.kidsF_le HGL.out (ks.take c) s1
      rw [HK.out] at hle2
      have hle3 := HHLE.out.trans hle2
      have hcall := HIH.out q wr s' (by have h1 := HDD.out; have h2 := HUN.out; have h3 := hle2.unm; dsimp only at h3; omega) (hle3.len.trans HCU.out.1) (by have h1 := hle3.cnt; have h2 := HCU.out; dsimp only at h1; omega) (by have h2 := HUN.out; have h3 := hle2.unm; dsimp only at h3; omega) HM'.out
      obtain ⟨⟨r, s2⟩, hr⟩ : ∃ r, g q s' = r := ⟨_, rfl⟩
      rw [hr] at hcall hgo
      have HCALL := Lib.hid hcall
      have HGO := Lib.hid hgo
      have h1 : (0 : Int) ≤ c := by omega
      have h2 : (c : Int) < m := by omega
      have hw2 : wrap64 (depth + 1) = depth + 1 := by have h1 := HDD.out; exact IntWalk.wrap64_in _ (by omega)
      have hw2' : IntKind.i64.wrap (depth + 1) = depth + 1 := by have h1 := HDD.out; exact IntWalk.i64_in _ (by omega)
      clear hck hq hgo hle2 hle3 hcall hr hbk hcl hd0
      unfold dpCaps at hfn
      unfold dpArgs at HCALL
      go_wp2_with fail
      refine HCALL.out.mono ?_
      rintro e w5 ⟨rfl, hm5⟩
      have HM5 := Lib.hid hm5
      clear hm5
      cases r with
      | false =>
        go_wp2
        go_ret
        have h := Sx.kidsF_end (c + 1) HGO.out
        rw [h]
        exact ⟨rfl, HM5.out⟩
      | true =>
        go_wp2
        clear hw2 hw2'
        go_roundw
        case rel => exact ⟨c + 1, s2, by omega, by go_num, HGO, HM5⟩
        case measure => simp [intOf]; omega
    · obtain rfl : m = c := by omega
      have hnn : ¬ (m : Int) < m := by omega
      have h := HK.out
      rw [List.take_of_length_le (by rw [HMM.out]; exact Nat.le_refl _)] at h
      have HF := Lib.hid h
      clear h
      go_wp2
      go_ret
      rw [HF.out]
      exact ⟨rfl, HM'.out⟩)

end Go.Proofs.YtpeihgbkolihgaaDoor
