/- What Check does. -/
import Derived.Test.YtpeihgbkolihgaaDoorU13
import Derived.Test.YtpeihgbkolihgaaDoorU14
set_option linter.unusedVariables false
set_option linter.unusedSimpArgs false
namespace Go.Proofs.YtpeihgbkolihgaaDoor
open Go.RowKit

namespace Sx
def check (L : List LeafM) (root : Int) : Int :=
  if 4096 < L.length then 6 else if (deepest L root).2 = false then 3 else if forms L = false then 3 else if 64 < (deepest L root).1 then 7 else 0
end Sx

set_option maxRecDepth 100000 in
set_option maxHeartbeats 3200000 in
theorem Check_any (v : Value) (L : List LeafM) (root : Int) (w : World) (hv : LsAt w v L) (hS : SmT L) :
    Calls Tryd.prog 21 #[.agg #[v, .int .i64 root]] w fun e w' => e = .returned (.int .i64 (Sx.check L root)) ∧ Below w.heap.size w w' := by
  obtain ⟨c, hc⟩ : ∃ c, Sx.check L root = c := ⟨_, rfl⟩
  rw [hc]
  unfold Sx.check at hc
  obtain ⟨ad, cap, rfl⟩ := hv.slice
  obtain ⟨n, hn⟩ : ∃ n, L.length = n := ⟨_, rfl⟩
  rw [hn] at hv hc ⊢
  have hA : Below w.heap.size w (w.alloc (treeO (.slice ad n cap) root)) := (Below.refl _ _).alloc (Nat.le_refl _) _
  have t0 := World.alloc_heap_new w (treeO (.slice ad n cap) root)
  have hin := Sx.deepest_inside L root
  have HD := Lib.hid (deepest_any (.slice ad n cap) L root _ (hv.keep hA (Nat.le_refl _)) hS)
  obtain ⟨⟨d, ok⟩, hdo⟩ : ∃ p, Sx.deepest L root = p := ⟨_, rfl⟩
  rw [hdo] at HD hc hin
  obtain ⟨f, hf⟩ : ∃ f, Sx.forms L = f := ⟨_, rfl⟩
  have HV := Lib.hid (hv.keep hA (Nat.le_refl _))
  have HA := Lib.hid hA
  have HT0 := Lib.hid t0
  have HLT := Lib.hid (lt_of t0)
  have HFF := Lib.hid hf
  have HS := Lib.hid hS
  have HIN := Lib.hid hin
  rw [hf] at hc
  dsimp only at hc
  unfold treeO at HD
  clear hv hA t0 hf hin hdo hS
  by_cases hbig : 4096 < n
  · rw [if_pos hbig] at hc
    subst hc
    have g1 : (4096 : Int) < n := by omega
    unfold treeO at HA
    go_enter Tryd.func21, Tryd.ntmps21
    go_wp2
    go_ret
    exact ⟨rfl, HA.out⟩
  · rw [if_neg hbig] at hc
    have g1 : ¬ (4096 : Int) < n := by omega
    cases ok with
    | false =>
      rw [if_pos rfl] at hc
      subst hc
      go_enter Tryd.func21, Tryd.ntmps21
      go_wp2_with fail
      refine HD.out.mono ?_
      rintro e w1 ⟨rfl, hb⟩
      have HB := Lib.hid (HA.out.trans (hb.mono HA.out.size))
      clear hb
      go_wp2
      go_ret
      exact ⟨rfl, HB.out⟩
    | true =>
      rw [if_neg (by simp)] at hc
      go_enter Tryd.func21, Tryd.ntmps21
      go_wp2_with fail
      refine HD.out.mono ?_
      rintro e w1 ⟨rfl, hb⟩
      have HB := Lib.hid (HA.out.trans (hb.mono HA.out.size))
      have ht1 := (hb.block w.heap.size (by simp)).trans HT0.out
      have c0 := cell_at (i := 0) ht1 rfl
      have c1 := cell_at (i := 1) ht1 rfl
      have HF := Lib.hid (haveForms_any (.slice ad n cap) L root f w1 (HV.out.keep hb (Nat.le_refl _)) HS.out (HIN.out trivial) HFF)
      clear hb ht1
      go_wp2_with fail
      refine HF.out.mono ?_
      rintro e w2 ⟨rfl, hb⟩
      have HB2 := Lib.hid (HB.out.trans (hb.mono HB.out.size))
      clear hb c0 c1
      cases f with
      | false =>
        rw [if_pos rfl] at hc
        subst hc
        go_wp2
        go_ret
        exact ⟨rfl, HB2.out⟩
      | true =>
        rw [if_neg (by simp)] at hc
        by_cases hd : 64 < d
        · rw [if_pos hd] at hc
          subst hc
          go_wp2
          go_ret
          exact ⟨rfl, HB2.out⟩
        · rw [if_neg hd] at hc
          subst hc
          go_wp2
          go_ret
          exact ⟨rfl, HB2.out⟩

end Go.Proofs.YtpeihgbkolihgaaDoor
