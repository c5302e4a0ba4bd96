/- The law TokenCovers: all ways. -/
import Derived.Test.YtpoddcegfhgdeaaDoorYH
set_option linter.unusedVariables false
set_option linter.unusedSimpArgs false
namespace Go.Proofs.YtpoddcegfhgdeaaDoor
open Go.RowKit

set_option maxRecDepth 100000 in
set_option maxHeartbeats 3200000 in
theorem law_TokenCovers (x : ByteArray) (w : World) (her : Erg w) : Calls Tryd.prog 6 #[.string x] w fun e w' => e = .returned (.bool true) ∧ Below w.heap.size w w' := by
  by_cases hs : (1000 : Int) < x.size
  · have hge : 2 < w.heap.size := by obtain ⟨_, _, _, h⟩ := her; exact h
    have HE := Lib.hid her
    clear her
    go_enter Tryd.func6, Tryd.ntmps6
    go_wp2_with fail
    refine (awake_any _ HE.out hge).mono ?_
    rintro e w1 ⟨rfl, hb⟩
    have HB := Lib.hid hb
    clear hb
    go_wp2
    go_ret
    exact ⟨rfl, HB.out⟩
  · obtain ⟨R, hR⟩ : ∃ R, Tk.scanF x.data.toList = R := ⟨_, rfl⟩
    cases R with
    | inl p => exact covers_bad x p w her hs (Lib.hid hR)
    | inr q => exact covers_good x q.1 q.2 w her hs (Lib.hid hR)

end Go.Proofs.YtpoddcegfhgdeaaDoor
