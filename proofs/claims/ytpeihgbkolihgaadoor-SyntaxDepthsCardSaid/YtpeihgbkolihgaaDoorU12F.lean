/- What forms does. -/
import Derived.Test.YtpeihgbkolihgaaDoorU12
set_option linter.unusedVariables false
set_option linter.unusedSimpArgs false
namespace Go.Proofs.YtpeihgbkolihgaaDoor
open Go.RowKit

set_option maxRecDepth 100000 in
set_option maxHeartbeats 12800000 in
theorem forms_any (w : World) :
    Calls Tryd.prog 33 #[] w fun e w' => e = .returned (.agg Sx.formTab) ∧ Below w.heap.size w w' := by
  have hst := run_storeCells_new (P := Tryd.prog) w 69 Tryd.zeroCells69 Sx.formTab infoForms zeroForms formTab_one
  rw [show Sx.formTab.toList = Sx.formL from rfl] at hst
  have HST := Lib.hid hst
  have HB := Lib.hid ((Below.refl w.heap.size w).alloc (Nat.le_refl _) (.cells Sx.formTab 69))
  have HG := Lib.hid (World.alloc_heap_new w (.cells Sx.formTab 69))
  clear hst
  go_enter Tryd.func33, Tryd.ntmps33
  go_wp2
  rw [show_tab]
  · rw [HST.out]
    simp only [Result.andThen]
    rw [Oper.upon_skip]
    generalize w.alloc (.cells Sx.formTab 69) = W at HB HG ⊢
    go_wp2
    refine bodyPost_ret (v := .agg Sx.formTab) (results_cell_row Tryd.results33 _ _ w.heap.size _ Sx.formTab _ _ (by rfl) HG.out Tryd.underlying69 rfl infoForms) rfl ⟨rfl, HB.out⟩
  · kernel_rfl

end Go.Proofs.YtpeihgbkolihgaaDoor
