/- The reference's Text and Of, at a text that is known. -/
import Derived.Test.YtpnofebhpeiepaaGreatDoorR6
set_option linter.unusedVariables false
set_option linter.unusedSimpArgs false
namespace Go.Proofs.YtpnofebhpeiepaaGreatDoor
open Go.RowKit _root_.Go.Proofs.YtpnofebhpeiepaaGreatDoor.Nm

theorem rText_to (v : Value) (y : Int) (t : ByteArray) (w : World) (h : Ref w v y) (hl : (dg y.natAbs).length ≤ 2000) (ht : Hid (True ∧ t = ⟨(Lib.itoa y).toArray⟩)) :
    Calls Tryz.prog 14 #[v] w fun e w' => e = .returned (.string t) ∧ Below w.heap.size w w' := by
  rw [ht.out.2]
  exact rText_any v y w h (by omega)

theorem rOf_to (s : ByteArray) (z : Int) (hs : Hid (IsStr s z)) (w : World) :
    Calls Tryz.prog 20 #[.string s] w (RefPost z w) := by
  have h := rOf_any s hs.out.1 w
  rwa [hs.out.2] at h

end Go.Proofs.YtpnofebhpeiepaaGreatDoor
