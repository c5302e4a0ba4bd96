/- What a call of Dump's literal is to do. -/
import Derived.Test.YtpeihgbkolihgaaDoorU26
import Derived.Test.YtpeihgbkolihgaaDoorYX
import Derived.BigQuiet
import Derived.Laws.Concat
set_option linter.unusedVariables false
set_option linter.unusedSimpArgs false
namespace Go.Proofs.YtpeihgbkolihgaaDoor
open Go.RowKit

theorem below_drew {B : Nat} {w W : World} (h : Below B w W) : Below B w W.drew := ⟨h.os, h.tape, h.output, h.size, h.block⟩
theorem wdl (c : UInt8) (s : ByteArray) : (⟨#[c]⟩ ++ s : ByteArray).data.toList = c :: s.data.toList := by simp [ByteArray.data_append]
theorem wsz (c : UInt8) (s : ByteArray) : (⟨#[c]⟩ ++ s : ByteArray).size = s.data.toList.length + 1 := by rw [Lib.size_eq, wdl, List.length_cons]

theorem cat1 (c : UInt8) (s : ByteArray) (h : s.size ≤ 100000) : ∀ W : World, (Op.stringOp .add ⟨#[c]⟩ s).run Tryd.prog W = .ok (.string (⟨#[c]⟩ ++ s)) W := fun W => run_string_add W _ _ (show ((1 : Nat) : Int) ≤ 8388608 by decide) (by omega)

/-- What a call of the literal is to do where what is below its leaf ends within k levels. -/
def DpOk (G T F A : Nat) (w0 : World) (L : List LeafM) (k : Nat) : Prop :=
  ∀ (t : Int) (bs : List UInt8) (W : World) (fa : Option Addr) (fc : Nat), Sx.Hh L k t → bs.length + (Sx.dumpF L k t).length ≤ 140737488355328 → DmM G T F A w0 bs W → IsAt w0 (.slice fa (Sx.leafOf L t).kids.length fc) (Sx.leafOf L t).kids →
    Calls Tryd.prog 34 #[leafV (Sx.leafOf L t).kind (Sx.leafOf L t).text (Sx.leafOf L t).num (.slice fa (Sx.leafOf L t).kids.length fc) (Sx.leafOf L t).frm (Sx.leafOf L t).to, .pointer (some ⟨T, 0, none⟩), .pointer (some ⟨G, 0, none⟩), .pointer (some ⟨F, 0, none⟩), .pointer (some ⟨A, 0, none⟩)] W fun e w' => e = .returned (.tuple #[]) ∧ DmM G T F A w0 (bs ++ Sx.dumpF L k t) w'

end Go.Proofs.YtpeihgbkolihgaaDoor
