/- awake. -/
import Derived.Test.YteidhlfiofiocabZN
set_option linter.unusedVariables false
set_option linter.unusedSimpArgs false
namespace Go.Proofs.Yteidhlfiofiocab
open Go.RowKit Go.Shelf

theorem Dt.seq_data (x y : ByteArray) : Dt.seq x y = (x.data.toList == y.data.toList) := by unfold Dt.seq; rw [ByteArray.toList_eq, ByteArray.toList_eq]

theorem ex_sm : Sm exTable := by
  unfold Sm SmD SmC In64 exTable
  simp
  decide
theorem ex_many : Dt.many exTable = false := by decide +kernel
theorem ex_typed : Dt.typed exTable = true := by decide +kernel
theorem ex_form : Dt.form exTable = true := by
  unfold Dt.form exTable Dt.isBool Dt.pairB
  simp only [Dt.seq_data]
  decide +kernel
theorem ex_twice : Dt.twice exTable = false := by
  unfold Dt.twice exTable
  simp only [Dt.twF, Dt.conStep, Dt.inS, Dt.seq_data]
  decide +kernel
theorem ex_fin : AllFin exTable := by
  have h1 : HasFin exTable 1 := HasFin.data 0 (by decide) ⟨⟨#[70, 97, 108, 115, 101]⟩, []⟩ (by simp [exTable]) (by simp)
  have h2 : HasFin exTable 2 := HasFin.data 1 (by decide) ⟨⟨#[78, 105, 108]⟩, []⟩ (by simp [exTable]) (by simp)
  have h3 : HasFin exTable 3 := HasFin.data 2 (by decide) ⟨⟨#[82, 101, 100]⟩, []⟩ (by simp [exTable]) (by simp)
  have h4 : HasFin exTable 4 := HasFin.data 3 (by decide) ⟨⟨#[78, 111, 110, 101]⟩, []⟩ (by simp [exTable]) (by simp)
  intro i hi
  match i, hi with
  | 0, _ => exact h1
  | 1, _ => exact h2
  | 2, _ => exact h3
  | 3, _ => exact h4
  | i + 4, h => exact absurd h (by simp [exTable])
theorem ex_check : Dt.check exTable = 0 := by
  unfold Dt.check
  rw [ex_many, ex_form, ex_twice, ex_typed, (Dt.finB_iff exTable).2 ex_fin]
  rfl
theorem ex_reach : Dt.reach exTable 4 = [4, 2, 0] := by decide +kernel
theorem ex_rec2 : Dt.recB exTable 2 = true := by decide +kernel
theorem ex_rec4 : Dt.recB exTable 4 = false := by decide +kernel
theorem ex_flat3 : Dt.flat exTable 3 = true := by decide +kernel
theorem ex_flat2 : Dt.flat exTable 2 = false := by decide +kernel
theorem ex_cells : Dt.cells exTable 2 1 = 1 := by decide +kernel


end Go.Proofs.Yteidhlfiofiocab
