/- The literal of deepest, which calls itself. -/
import Derived.Test.YtpeihgbkolihgaaDoorU3
set_option linter.unusedVariables false
set_option linter.unusedSimpArgs false
namespace Go.Proofs.YtpeihgbkolihgaaDoor
open Go.RowKit

namespace Sx
theorem kidsF_go {g : Int → St → Bool × St} {l : List Int} {s s' : St} {c : Nat} (hc : c < l.length) (h : kidsF g (l.take c) s = (true, s')) : kidsF g (l.take (c + 1)) s = g l[c] s' := by
  rw [← List.take_append_getElem hc, kidsF_snoc g _ _ _ (by rw [h]), h]
theorem kidsF_end {g : Int → St → Bool × St} {l : List Int} {s s' : St} (c : Nat) (h : kidsF g (l.take c) s = (false, s')) : kidsF g l s = (false, s') := by
  have h2 := kidsF_app g (l.take c) (l.drop c) s
  rw [List.take_append_drop, h, if_neg (by simp)] at h2
  exact h2
theorem reachF_bad {L : List LeafM} {k : Nat} {t depth : Int} {s : St} (h : bad L t s = true) : reachF L (k + 1) t depth s = (false, s) := by rw [reachF, if_pos h]
theorem reachF_good {L : List LeafM} {k : Nat} {t depth : Int} {s : St} (h : bad L t s = false) : reachF L (k + 1) t depth s = kidsF (fun q s => reachF L k q (depth + 1) s) (kidsOf L t) (mark t depth s) := by rw [reachF, if_neg (by rw [h]; simp)]
end Sx

set_option maxRecDepth 100000 in
set_option maxHeartbeats 3200000 in
theorem reach_out (B n cap : Nat) (ad : Option Addr) (w : World) (root : Int) (t depth : Int) (W : World) (s : Sx.St) (ht : ¬ (0 ≤ t ∧ t < (n : Int))) (hm : DpM B w (.slice ad n cap) root n W s) :
    Calls Tryd.prog 55 (dpArgs B t depth) W fun e W' => e = .returned (.bool false) ∧ DpM B w (.slice ad n cap) root n W' s := by
  have c0 := cell_at (i := 0) hm.tree rfl
  have c1 := cell_at (i := 1) hm.tree rfl
  have HC := Lib.hid (isLeaf_any ad n cap root t W false (Lib.hid (by simp; omega)))
  have HM := Lib.hid (hm.alloc (.cells #[.slice ad n cap, .int .i64 root] 24))
  clear hm ht
  unfold dpArgs
  go_enter Tryd.func55, Tryd.ntmps55
  go_wp2_with fail
  refine HC.out.mono ?_
  rintro e w1 ⟨rfl, h⟩
  rw [h]
  clear h w1
  go_wp2
  go_ret
  exact ⟨rfl, HM.out⟩

set_option maxRecDepth 100000 in
set_option maxHeartbeats 3200000 in
theorem reach_met (B n cap : Nat) (ad : Option Addr) (w : World) (root : Int) (i : Nat) (depth : Int) (W : World) (s : Sx.St) (hi : i < n) (hs : s.marks[i]? = some true) (hm : DpM B w (.slice ad n cap) root n W s) :
    Calls Tryd.prog 55 (dpArgs B i depth) W fun e W' => e = .returned (.bool false) ∧ DpM B w (.slice ad n cap) root n W' s := by
  have c0 := cell_at (i := 0) hm.tree rfl
  have c1 := cell_at (i := 1) hm.tree rfl
  have HC := Lib.hid (isLeaf_any ad n cap root i W true (Lib.hid (by simp; omega)))
  have hm2 := hm.alloc (.cells #[.slice ad n cap, .int .i64 root] 24)
  have c2 := cell_at (i := 0) hm2.box rfl
  have c3 := cell_at (i := i) hm2.row (by rw [bools_get, hs]; rfl)
  have HM := Lib.hid hm2
  have g1 : (0 : Int) ≤ i := by omega
  have g2 : (i : Int) < n := by omega
  clear hm hm2
  unfold dpArgs
  go_enter Tryd.func55, Tryd.ntmps55
  go_wp2_with fail
  refine HC.out.mono ?_
  rintro e w1 ⟨rfl, h⟩
  rw [h]
  clear h w1
  go_wp2
  go_ret
  exact ⟨rfl, HM.out⟩

end Go.Proofs.YtpeihgbkolihgaaDoor
