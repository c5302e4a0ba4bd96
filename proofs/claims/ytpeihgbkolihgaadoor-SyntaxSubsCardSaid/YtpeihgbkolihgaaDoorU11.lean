/- fitsKids. -/
import Derived.Test.YtpeihgbkolihgaaDoorU9
import Derived.Test.YtpeihgbkolihgaaDoorU6
import Derived.Deep.QuietTactic
import Derived.BigQuiet
import Derived.Deep.DeepCutAuto
import Derived.Deep.Cut
set_option linter.unusedVariables false
set_option linter.unusedSimpArgs false
namespace Go.Proofs.YtpeihgbkolihgaaDoor
open Go.RowKit

namespace Sx
/-- A group of kids: a set of kinds, the least and the greatest number. -/
structure Grp where
  set : Int
  least : Int
  most : Int
def takeF (L : List LeafM) (g : Grp) : List Int → Nat → Nat
  | [], c => c
  | k :: ks, c => if (decide ((c : Int) < g.most) && inSet g.set (leafOf L k).kind) = true then takeF L g ks (c + 1) else c
def kidsFit (L : List LeafM) : List Grp → List Int → Bool
  | [], ks => decide (ks.length = 0)
  | g :: gs, ks => if (takeF L g ks 0 : Int) < g.least then false else kidsFit L gs (ks.drop (takeF L g ks 0))
theorem takeF_le (L : List LeafM) (g : Grp) : ∀ (ks : List Int) (c : Nat), c ≤ takeF L g ks c ∧ takeF L g ks c ≤ c + ks.length
  | [], c => ⟨Nat.le_refl _, Nat.le_refl _⟩
  | k :: ks, c => by
    rw [takeF]
    split
    · have h := takeF_le L g ks (c + 1)
      rw [List.length_cons]
      omega
    · exact ⟨Nat.le_refl _, by omega⟩
def grpV (g : Grp) : Value := .agg #[.int .i64 g.set, .int .i64 g.least, .int .i64 g.most]
def grpsV (a b c : Grp) : Value := .agg #[.int .i64 a.set, .int .i64 a.least, .int .i64 a.most, .int .i64 b.set, .int .i64 b.least, .int .i64 b.most, .int .i64 c.set, .int .i64 c.least, .int .i64 c.most]
end Sx

theorem run_index_agg {P : Program} (w : World) (t e : TypeId) (n size : Nat) (cs : Array Value) (i : Int) (j : Nat) (u : Array Value) (h : P.underlying t = some (.array n e)) (ha : ∀ w, (isAgg e).run P w = .ok true w) (hs : ∀ w, (Go.sizeOf e).run P w = .ok size w) (hi : i < n) (hj : i = j) (hv : cs.extract (j * size) (j * size + size) = u) :
    (Instr.index t (.agg cs) (.int .i64 i)).run P w = .ok (.agg u) w := by
  subst hj
  have hin : (0 ≤ (j : Int) ∧ (j : Int) < (n : Int)) := by omega
  have hjn : j < n := by omega
  simp [Instr.index, run_underlying h, asIntOf, hin, go_sem, Go.part, ha, hs, Sem.run_bind, hv, hjn]

set_option maxRecDepth 100000 in
set_option maxHeartbeats 6400000 in
theorem fitsKids_any (ga gb gc : Sx.Grp) (v : Value) (L : List LeafM) (root : Int) (x : LeafM) (vk : Value) (r : Bool) (w : World) (hv : LsAt w v L) (hk : IsAt w vk x.kids) (hkl : x.kids.length ≤ 100000) (hin : Sx.inside L x.kids) (hr : Hid (Sx.kidsFit L [ga, gb, gc] x.kids = r)) :
    Calls Tryd.prog 58 #[Sx.grpsV ga gb gc, .agg #[v, .int .i64 root], leafV x.kind x.text x.num vk x.frm x.to] w fun e w' => e = .returned (.bool r) ∧ Below w.heap.size w w' := by
  obtain ⟨ad, cap, rfl⟩ := hv.slice
  obtain ⟨fa, fc, rfl⟩ := hk.slice
  obtain ⟨n, hn⟩ : ∃ n, L.length = n := ⟨_, rfl⟩
  obtain ⟨ks, hks⟩ : ∃ ks, x.kids = ks := ⟨_, rfl⟩
  rw [hks] at hk hkl hin ⊢
  have hr2 := hr.out
  rw [hks] at hr2
  obtain ⟨m, hm⟩ : ∃ m, ks.length = m := ⟨_, rfl⟩
  rw [hm] at hk hkl ⊢
  rw [hn] at hv ⊢
  have hp0 := hr2
  obtain ⟨W3, hW3⟩ : ∃ W3, ((w.alloc (.cells #[.int .i64 ga.set, .int .i64 ga.least, .int .i64 ga.most, .int .i64 gb.set, .int .i64 gb.least, .int .i64 gb.most, .int .i64 gc.set, .int .i64 gc.least, .int .i64 gc.most] 66)).alloc (treeO (.slice ad n cap) root)).alloc (leafO x.kind x.text x.num (.slice fa m fc) x.frm x.to) = W3 := ⟨_, rfl⟩
  have hA : Below w.heap.size w W3 := by rw [← hW3]; exact (((Below.refl _ _).alloc (Nat.le_refl _) _).alloc (by simp) _).alloc (by simp; omega) _
  obtain ⟨V1, hV1⟩ : ∃ V1, V1 = w.alloc (.cells #[.int .i64 ga.set, .int .i64 ga.least, .int .i64 ga.most, .int .i64 gb.set, .int .i64 gb.least, .int .i64 gb.most, .int .i64 gc.set, .int .i64 gc.least, .int .i64 gc.most] 66) := ⟨_, rfl⟩
  have z1 : V1.heap.size = w.heap.size + 1 := by rw [hV1]; simp
  have z2 : (V1.alloc (treeO (.slice ad n cap) root)).heap.size = w.heap.size + 1 + 1 := by simp [z1]
  have hW3' := hW3
  rw [← hV1] at hW3'
  have t0 : W3.heap[w.heap.size + 1]? = some (treeO (.slice ad n cap) root) := by
    rw [← hW3', ← z1]; exact (Below.heap_alloc _ _ _ (by simp)).trans (World.alloc_heap_new V1 _)
  have l0 : W3.heap[w.heap.size + 1 + 1]? = some (leafO x.kind x.text x.num (.slice fa m fc) x.frm x.to) := by
    rw [← hW3', ← z2]; exact World.alloc_heap_new _ _
  have gb0 : W3.heap[w.heap.size]? = some (.cells #[.int .i64 ga.set, .int .i64 ga.least, .int .i64 ga.most, .int .i64 gb.set, .int .i64 gb.least, .int .i64 gb.most, .int .i64 gc.set, .int .i64 gc.least, .int .i64 gc.most] 66) := by
    have h : V1.heap[w.heap.size]? = some (.cells #[.int .i64 ga.set, .int .i64 ga.least, .int .i64 ga.most, .int .i64 gb.set, .int .i64 gb.least, .int .i64 gb.most, .int .i64 gc.set, .int .i64 gc.least, .int .i64 gc.most] 66) := by rw [hV1]; exact World.alloc_heap_new w _
    rw [← hW3']; exact (Below.heap_alloc _ _ _ (by simp; omega)).trans ((Below.heap_alloc _ _ _ (by omega)).trans h)
  have q0 := cell_at (i := 0) gb0 rfl
  have q1 := cell_at (i := 1) gb0 rfl
  have q2 := cell_at (i := 2) gb0 rfl
  have q3 := cell_at (i := 3) gb0 rfl
  have q4 := cell_at (i := 4) gb0 rfl
  have q5 := cell_at (i := 5) gb0 rfl
  have q6 := cell_at (i := 6) gb0 rfl
  have q7 := cell_at (i := 7) gb0 rfl
  have q8 := cell_at (i := 8) gb0 rfl
  have T0 := Lib.hid (cell_at (i := 0) t0 rfl)
  have B0 := Lib.hid (lt_of t0)
  have K0 := Lib.hid (cell_at (i := 3) l0 rfl)
  have B1 := Lib.hid (lt_of l0)
  have HV := Lib.hid (hv.keep hA (Nat.le_refl _))
  have HK := Lib.hid (hk.keep hA (Nat.le_refl _))
  have HA := Lib.hid hA
  have HR := Lib.hid hr2
  have HIN := Lib.hid hin
  have HM := Lib.hid hm
  have HN := Lib.hid hn
  unfold treeO leafO at hW3
  clear hv hk hA hr2 hp0 hin hm hr hks t0 l0 gb0 hn hV1 z1 z2 hW3' V1
  unfold leafV Sx.grpsV
  go_enter Tryd.func58, Tryd.ntmps58
  go_wp2
  clear hW3 q0 q1 q2 q3 q4 q5 q6 q7 q8
  go_loopw [7, 12] (fun sv iv wr => ∃ (j p : Nat), j ≤ 3 ∧ sv = .int .i64 p ∧ p ≤ m ∧ iv = .int .i64 j ∧ Hid (Sx.kidsFit L ([ga, gb, gc].drop j) (ks.drop p) = r) ∧ Hid (Below W3.heap.size W3 wr)) (fun _ iv _ => 3 - (intOf iv).toNat)
  case atStart => exact ⟨0, 0, Nat.zero_le _, rfl, Nat.zero_le _, rfl, Lib.hid HR.out, Lib.hid (Below.refl _ _)⟩
  case round =>
    obtain ⟨j, p, hj, rfl, hp, rfl, HG, HB⟩ := hrel
    by_cases hlt : j < 3
    · obtain ⟨wo, hwo⟩ : ∃ wo, wr = wo := ⟨_, rfl⟩
      subst hwo
      obtain ⟨g, hg, hgd⟩ : ∃ g, ((j = 0 ∧ g = ga) ∨ (j = 1 ∧ g = gb) ∨ (j = 2 ∧ g = gc)) ∧ [ga, gb, gc].drop j = g :: [ga, gb, gc].drop (j + 1) := by
        obtain rfl | rfl | rfl : j = 0 ∨ j = 1 ∨ j = 2 := by omega
        · exact ⟨ga, .inl ⟨rfl, rfl⟩, rfl⟩
        · exact ⟨gb, .inr (.inl ⟨rfl, rfl⟩), rfl⟩
        · exact ⟨gc, .inr (.inr ⟨rfl, rfl⟩), rfl⟩
      have hfit := HG.out
      rw [hgd, Sx.kidsFit] at hfit
      obtain ⟨C, hC⟩ : ∃ C, Sx.takeF L g (ks.drop p) 0 = C := ⟨_, rfl⟩
      have hle := (Sx.takeF_le L g (ks.drop p) 0).2
      rw [hC] at hfit hle
      rw [List.length_drop, HM.out] at hle
      have HC := Lib.hid hC
      have HFIT := Lib.hid hfit
      have hB4 := HB.out.alloc HB.out.size (.cells #[.int .i64 g.set, .int .i64 g.least, .int .i64 g.most] 65)
      have hg4 := World.alloc_heap_new wr (.cells #[.int .i64 g.set, .int .i64 g.least, .int .i64 g.most] 65)
      have HGB := Lib.hid (lt_of hg4)
      have G0 := Lib.hid (cell_at (i := 0) hg4 rfl)
      have G1 := Lib.hid (cell_at (i := 1) hg4 rfl)
      have G2 := Lib.hid (cell_at (i := 2) hg4 rfl)
      have HB4 := Lib.hid hB4
      clear hfit hC hgd HG hB4 hg4
      have h0 : (0 : Int) ≤ j := by omega
      have h3 : (j : Int) < 3 := by omega
      have hnx : ∀ W : World, (Instr.index 66 (.agg #[.int .i64 ga.set, .int .i64 ga.least, .int .i64 ga.most, .int .i64 gb.set, .int .i64 gb.least, .int .i64 gb.most, .int .i64 gc.set, .int .i64 gc.least, .int .i64 gc.most]) (.int .i64 (j : Int))).run Tryd.prog W = .ok (.agg #[.int .i64 g.set, .int .i64 g.least, .int .i64 g.most]) W := by
        intro W
        rcases hg with ⟨rfl, rfl⟩ | ⟨rfl, rfl⟩ | ⟨rfl, rfl⟩
        · exact run_index_agg W _ _ _ 3 _ _ 0 _ Tryd.underlying66 Tryd.isAgg65 Tryd.sizeOf65 (by decide) rfl rfl
        · exact run_index_agg W _ _ _ 3 _ _ 1 _ Tryd.underlying66 Tryd.isAgg65 Tryd.sizeOf65 (by decide) rfl rfl
        · exact run_index_agg W _ _ _ 3 _ _ 2 _ Tryd.underlying66 Tryd.isAgg65 Tryd.sizeOf65 (by decide) rfl rfl
      clear hg
      go_wp2
      clear hnx
      obtain ⟨gB, hgB⟩ : ∃ gB, wr.heap.size = gB := ⟨_, rfl⟩
      rw [hgB] at G0 G1 G2 HGB ⊢
      generalize hW4 : wr.alloc (.cells #[.int .i64 g.set, .int .i64 g.least, .int .i64 g.most] 65) = W4 at HB4 G0 G1 G2 HGB ⊢
      clear hW4 hgB HB
      go_loopw [7] (fun sv wr => ∃ c : Nat, p + c ≤ m ∧ sv = .int .i64 ((p + c : Nat) : Int) ∧ Hid (Sx.takeF L g (ks.drop (p + c)) c = C) ∧ Hid (Below W4.heap.size W4 wr)) (fun sv _ => m - (intOf sv).toNat)
      case atStart => exact ⟨0, by omega, rfl, HC, Lib.hid (Below.refl _ _)⟩
      case round =>
        obtain ⟨c, hcm, rfl, HT, HBI⟩ := hrel
        have hbW := HB4.out.trans (HBI.out.mono HB4.out.size)
        have g0 := (HBI.out.cell (p := ⟨gB, 0, none⟩) HGB.out).trans G0.out
        have g1 := (HBI.out.cell (p := ⟨gB, 1, none⟩) HGB.out).trans G1.out
        have g2 := (HBI.out.cell (p := ⟨gB, 2, none⟩) HGB.out).trans G2.out
        have t0 := (hbW.cell (p := ⟨w.heap.size + 1, 0, none⟩) B0.out).trans T0.out
        have k0 := (hbW.cell (p := ⟨w.heap.size + 1 + 1, 3, none⟩) B1.out).trans K0.out
        have HBW := Lib.hid hbW
        clear hbW
        obtain ⟨s, hs⟩ : ∃ s, p + c = s := ⟨_, rfl⟩
        have hT := HT.out
        have hsm : s ≤ m := by omega
        have hsub : (s : Int) - (p : Int) = (c : Int) := by omega
        rw [hs] at hT ⊢
        have HSS := Lib.hid (And.intro trivial hs)
        have HSUB := Lib.hid (And.intro trivial hsub)
        by_cases h1 : s < m
        · have hsl : s < ks.length := by rw [HM.out]; exact h1
          obtain ⟨bk, ok, rfl, hbk, hck⟩ := HK.out.at s hsl
          have hkc := (HBW.out.cell (p := ⟨bk, ok + s, none⟩) hbk).trans hck
          rw [List.drop_eq_getElem_cons hsl, Sx.takeF] at hT
          have hi := HIN.out ks[s] (List.getElem_mem _)
          obtain ⟨i, hi'⟩ := Int.eq_ofNat_of_zero_le hi.1
          rw [hi'] at hkc hT hi
          have hil : i < L.length := by omega
          have hlo : Sx.leafOf L (i : Int) = L[i] := by unfold Sx.leafOf; rw [Int.toNat_natCast, List.getElem?_eq_getElem hil]; rfl
          rw [hlo] at hT
          obtain ⟨b, off, fa2, fc2, rfl, hbl, ⟨e0, er⟩, eks⟩ := HV.out.at i hil
          have f0 := (HBW.out.cell (p := ⟨b, off + i * 6, none⟩) hbl).trans e0
          generalize L[i].kind = kd at f0 hT
          have i1 : (0 : Int) ≤ i := by omega
          have i2 : (i : Int) < n := by have := HN.out; omega
          have s1 : (0 : Int) ≤ s := by omega
          have s2 : (s : Int) < m := by omega
          clear e0 er eks hi hi' hlo hbl hck hbk
          clear hil hsl
          obtain ⟨q1, hq1⟩ : ∃ q, decide ((c : Int) < g.most) = q := ⟨_, rfl⟩
          obtain ⟨q2, hq2⟩ : ∃ q, Sx.inSet g.set kd = q := ⟨_, rfl⟩
          rw [hq1, hq2] at hT
          have HQ2 := Lib.hid hq2
          have d1 : decide ((s : Int) - (p : Int) < g.most) = q1 := by rw [hsub]; exact hq1
          clear hq1 hq2 hsub hs
          have d0 : decide ((s : Int) < (m : Int)) = true := decide_eq_true s2
          cases q1 with
          | false =>
            have HCE : Hid (C = c) := Lib.hid (by rw [← hT]; rfl)
            clear hT
            have HFF : Hid ((if (c : Int) < g.least then false else Sx.kidsFit L ([ga, gb, gc].drop (j + 1)) (ks.drop s)) = r) := Lib.hid (by have h := HFIT.out; rw [HCE.out, List.drop_drop, HSS.out.2] at h; exact h)
            by_cases hcl : (c : Int) < g.least
            · have hrf : r = false := by rw [← HFF.out, if_pos hcl]
              subst hrf
              have d2 : decide ((s : Int) - (p : Int) < g.least) = true := by rw [HSUB.out.2]; exact decide_eq_true hcl
              have d3 : (s : Int) - (p : Int) < g.least := by rw [HSUB.out.2]; exact hcl
              clear hcl
              go_wp2_with fail
              go_quiet (fail)
              go_wp2
              go_ret
              exact ⟨rfl, HA.out.trans ((below_drewN _ HBW.out).mono HA.out.size)⟩
            · have HFG : Hid (Sx.kidsFit L ([ga, gb, gc].drop (j + 1)) (ks.drop s) = r) := Lib.hid (by rw [← HFF.out, if_neg hcl])
              have d2 : decide ((s : Int) - (p : Int) < g.least) = false := by rw [HSUB.out.2]; exact decide_eq_false hcl
              have d3 : ¬ (s : Int) - (p : Int) < g.least := by rw [HSUB.out.2]; exact hcl
              clear hcl
              go_wp2_with fail
              go_quiet (fail)
              go_wp2
              go_roundw
              case rel => exact ⟨j + 1, s, by omega, rfl, by omega, by go_num, HFG, Lib.hid (below_drewN _ HBW.out)⟩
              case measure => simp [intOf]; omega
          | true =>
            cases q2 with
            | false =>
              have HCE : Hid (C = c) := Lib.hid (by rw [← hT]; rfl)
              clear hT
              have HFF : Hid ((if (c : Int) < g.least then false else Sx.kidsFit L ([ga, gb, gc].drop (j + 1)) (ks.drop s)) = r) := Lib.hid (by have h := HFIT.out; rw [HCE.out, List.drop_drop, HSS.out.2] at h; exact h)
              by_cases hcl : (c : Int) < g.least
              · have hrf : r = false := by rw [← HFF.out, if_pos hcl]
                subst hrf
                have d2 : decide ((s : Int) - (p : Int) < g.least) = true := by rw [HSUB.out.2]; exact decide_eq_true hcl
                have d3 : (s : Int) - (p : Int) < g.least := by rw [HSUB.out.2]; exact hcl
                clear hcl
                go_wp2_with fail
                go_quiet ((go_at_call 56; exact Calls.quiet_of_same ((isIn_any g.set kd false _ HQ2).mono fun _ _ h => ⟨h.1, h.2⟩)))
                go_wp2
                go_ret
                exact ⟨rfl, HA.out.trans ((below_drewN _ HBW.out).mono HA.out.size)⟩
              · have HFG : Hid (Sx.kidsFit L ([ga, gb, gc].drop (j + 1)) (ks.drop s) = r) := Lib.hid (by rw [← HFF.out, if_neg hcl])
                have d2 : decide ((s : Int) - (p : Int) < g.least) = false := by rw [HSUB.out.2]; exact decide_eq_false hcl
                have d3 : ¬ (s : Int) - (p : Int) < g.least := by rw [HSUB.out.2]; exact hcl
                clear hcl
                go_wp2_with fail
                go_quiet ((go_at_call 56; exact Calls.quiet_of_same ((isIn_any g.set kd false _ HQ2).mono fun _ _ h => ⟨h.1, h.2⟩)))
                go_wp2
                go_roundw
                case rel => exact ⟨j + 1, s, by omega, rfl, by omega, by go_num, HFG, Lib.hid (below_drewN _ HBW.out)⟩
                case measure => simp [intOf]; omega
            | true =>
              have HTN : Hid (Sx.takeF L g (ks.drop (p + (c + 1))) (c + 1) = C) := Lib.hid (by rw [← Nat.add_assoc, HSS.out.2]; exact hT)
              clear hT
              go_wp2_with fail
              go_quiet ((go_at_call 56; exact Calls.quiet_of_same ((isIn_any g.set kd true _ HQ2).mono fun _ _ h => ⟨h.1, h.2⟩)))
              go_wp2
              go_roundw
              case rel => exact ⟨c + 1, by have h := HSS.out.2; omega, by have h := HSS.out.2; simp; omega, HTN, Lib.hid (below_drewN _ HBI.out)⟩
              case measure => simp [intOf]; omega
        · obtain rfl : s = m := by omega
          have d0 : decide ((s : Int) < (s : Int)) = false := decide_eq_false (by omega)
          have HCE : Hid (C = c) := Lib.hid (by rw [← hT, List.drop_eq_nil_of_le (by rw [HM.out]; exact Nat.le_refl _)]; rfl)
          clear hT hsub
          have HFF : Hid ((if (c : Int) < g.least then false else Sx.kidsFit L ([ga, gb, gc].drop (j + 1)) (ks.drop s)) = r) := Lib.hid (by have h := HFIT.out; rw [HCE.out, List.drop_drop, HSS.out.2] at h; exact h)
          by_cases hcl : (c : Int) < g.least
          · have hrf : r = false := by rw [← HFF.out, if_pos hcl]
            subst hrf
            have d2 : decide ((s : Int) - (p : Int) < g.least) = true := by rw [HSUB.out.2]; exact decide_eq_true hcl
            have d3 : (s : Int) - (p : Int) < g.least := by rw [HSUB.out.2]; exact hcl
            clear hcl
            go_wp2_with fail
            go_quiet (fail)
            go_wp2
            go_ret
            exact ⟨rfl, HA.out.trans ((below_drewN _ HBW.out).mono HA.out.size)⟩
          · have HFG : Hid (Sx.kidsFit L ([ga, gb, gc].drop (j + 1)) (ks.drop s) = r) := Lib.hid (by rw [← HFF.out, if_neg hcl])
            have d2 : decide ((s : Int) - (p : Int) < g.least) = false := by rw [HSUB.out.2]; exact decide_eq_false hcl
            have d3 : ¬ (s : Int) - (p : Int) < g.least := by rw [HSUB.out.2]; exact hcl
            clear hcl
            go_wp2_with fail
            go_quiet (fail)
            go_wp2
            go_roundw
            case rel => exact ⟨j + 1, s, by omega, rfl, by omega, by go_num, HFG, Lib.hid (below_drewN _ HBW.out)⟩
            case measure => simp [intOf]; omega
    · obtain rfl : j = 3 := by omega
      have hfit := HG.out
      rw [show [ga, gb, gc].drop 3 = [] from rfl, Sx.kidsFit, List.length_drop, HM.out] at hfit
      have k0 := (HB.out.cell (p := ⟨w.heap.size + 1 + 1, 3, none⟩) B1.out).trans K0.out
      have HF : Hid (decide ((p : Int) = (m : Int)) = r) := Lib.hid (by rw [← hfit]; exact decide_eq_decide.2 (by omega))
      clear hfit HG
      go_wp2
      go_ret
      exact ⟨by rw [← HF.out] <;> rfl, HA.out.trans (HB.out.mono HA.out.size)⟩

end Go.Proofs.YtpeihgbkolihgaaDoor
