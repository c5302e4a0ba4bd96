/- What the small functions on limbs do: trim, extended. -/
import Derived.Test.YtdkpcjfadabkbaaGreatDoorMem
import Derived.Test.YtdkpcjfadabkbaaGreatDoorAm
import Derived.Test.YtdkpcjfadabkbaaGreatDoorProg
import Derived.WalkSpells
import Derived.WalkLawsBesides
import Derived.IntWalk
import Derived.LoopTactic
import Derived.Lib.Hide
set_option linter.unusedVariables false
set_option linter.unusedSimpArgs false
namespace Go.Proofs.YtdkpcjfadabkbaaGreatDoor
open Go.RowKit

/-- A barrier for the walk. -/
def Stop (p : Prop) : Prop := p
theorem hold {p : Prop} (h : Stop p) : p := h
theorem go_on {p : Prop} (h : p) : Stop p := h

/-- The call returns a slice that reads as the limbs of n; nothing that was there has changed. -/
def NatPost (n : Nat) (w : World) (e : Ending) (w' : World) : Prop := ∃ v, e = .returned v ∧ Rd .u32 w' v (Nm.ds 1000000000 n) ∧ Fr w.heap.size v ∧ Below w.heap.size w w'

theorem trim_nil (a : Option Addr) (c : Nat) (w : World) :
    Calls Tryz.prog 71 #[.slice a 0 c] w fun e w' => e = .returned (.slice a 0 c) ∧ w = w' := by
  go_enter Tryz.func71, Tryz.ntmps71
  go_wp2
  refine wp_loop_rounds 1 ?_
  rw [rounds_succ]
  go_wp2
  go_ret
  exact ⟨rfl, rfl⟩

theorem last_zero (b : Nat) (xs : List Nat) (j : Nat) (hj : j < xs.length) (h : xs[j] = 0) : Nm.vl b (xs.take (j + 1)) = Nm.vl b (xs.take j) := by
  rw [Nm.vl_take_succ b xs j hj, h]; simp

theorem last_not (xs : List Nat) (j : Nat) (hj : j < xs.length) (h : xs[j] ≠ 0) : (xs.take (j + 1)).getLast? ≠ some 0 := by
  rw [List.take_add_one, List.getElem?_eq_getElem hj, Option.toList_some, List.getLast?_concat]
  intro e
  exact h (Option.some.inj e)

set_option maxHeartbeats 400000 in
theorem trim_row (g off c : Nat) (xs : List Nat) (h0 : 0 < xs.length) (hxc : xs.length ≤ c) (hc0 : Cap xs.length c) (w : World) (hr : Row .u32 w g off xs) :
    Calls Tryz.prog 71 #[.slice (some ⟨g, off, none⟩) xs.length c] w fun e w' => (∃ k : Nat, e = .returned (.slice (some ⟨g, off, none⟩) k c) ∧ k ≤ xs.length ∧ Nm.vl 1000000000 (xs.take k) = Nm.vl 1000000000 xs ∧ (xs.take k).getLast? ≠ some 0) ∧ w = w' := by
  have HR := Lib.hid hr
  have hc := hc0.1
  clear hr hc0
  go_enter Tryz.func71, Tryz.ntmps71
  go_wp2
  go_loop [0] (fun s => ∃ k : Nat, k ≤ xs.length ∧ s = .slice (some ⟨g, off, none⟩) k c ∧ Hid (Nm.vl 1000000000 (xs.take k) = Nm.vl 1000000000 xs)) (fun s => match s with | .slice _ n _ => n | _ => 0)
  case atStart => exact ⟨xs.length, Nat.le_refl _, rfl, Lib.hid (by rw [List.take_length])⟩
  case round =>
    obtain ⟨k, hk, rfl, HV⟩ := hrel
    cases k with
    | zero =>
      go_wp2
      go_ret
      exact ⟨⟨0, rfl, by omega, HV.out, by simp⟩, rfl⟩
    | succ j =>
      have hc0 := HR.out j (by omega)
      by_cases hz : xs[j] = 0
      · rw [hz] at hc0
        have HV' : Hid (Nm.vl 1000000000 (xs.take j) = Nm.vl 1000000000 xs) := Lib.hid (by rw [← HV.out, last_zero _ _ _ (by omega) hz])
        clear hz
        go_wp2
        go_round
        case rel => exact ⟨j, by omega, rfl, HV'⟩
        case measure => simp
      · have hz' : ((xs[j] : Int) == 0) = false := by rw [beq_eq_false_iff_ne]; omega
        go_wp2
        go_ret
        exact ⟨⟨j + 1, rfl, hk, HV.out, last_not _ _ _ hz⟩, rfl⟩

theorem rd_trim {w : World} {g off c k : Nat} {xs : List Nat} (hx : ∀ x ∈ xs, x < 1000000000) (hxc : xs.length ≤ c) (hc : Cap xs.length c) (hg : g < w.heap.size) (hr : Row .u32 w g off xs)
    (hk : k ≤ xs.length) (hv : Nm.vl 1000000000 (xs.take k) = Nm.vl 1000000000 xs) (hl : (xs.take k).getLast? ≠ some 0) : Rd .u32 w (.slice (some ⟨g, off, none⟩) k c) (Nm.ds 1000000000 (Nm.vl 1000000000 xs)) := by
  have e := Nm.ds_vl 1000000000 (by omega) (xs.take k) (fun x h => hx x (List.mem_of_mem_take h)) hl
  rw [← hv, e]
  have hl2 : (xs.take k).length = k := by rw [List.length_take]; omega
  have hr2 : Row .u32 w g off (xs.take k) := by
    intro i hi
    rw [List.length_take] at hi
    rw [hr i (by omega)]
    simp
  have := Rd.mk (k := .u32) (w := w) (g := g) (off := off) (c := c) (xs := xs.take k) (by omega) (hc.less (by omega)) hg hr2
  rwa [hl2] at this

/-- A slice that has been trimmed. -/
theorem trim_any (v : Value) (xs : List Nat) (hx : ∀ x ∈ xs, x < 1000000000) (w : World) (h : Rd .u32 w v xs) :
    Calls Tryz.prog 71 #[v] w fun e w' => (∃ v', e = .returned v' ∧ Rd .u32 w v' (Nm.ds 1000000000 (Nm.vl 1000000000 xs)) ∧ Same v v') ∧ w = w' := by
  rcases h.cases with ⟨rfl, a, c, rfl, hc⟩ | ⟨h0, g, off, c, rfl, hxc, hc, hg, hr⟩
  · refine (trim_nil a c w).mono ?_
    rintro e w' ⟨rfl, rfl⟩
    refine ⟨⟨_, rfl, ?_, fun ad n c' e => ⟨n, c', e⟩⟩, rfl⟩
    rw [show Nm.vl 1000000000 [] = 0 from rfl, Nm.ds_zero]
    exact Rd.nil _ _ _ _ hc
  · refine (trim_row g off c xs h0 hxc hc w hr).mono ?_
    rintro e w' ⟨⟨k, rfl, hk, hv, hl⟩, rfl⟩
    refine ⟨⟨_, rfl, rd_trim hx hxc hc hg hr hk hv hl, fun ad n c' e => ?_⟩, rfl⟩
    simp only [Value.slice.injEq, Option.some.injEq] at e
    obtain ⟨rfl, _, _⟩ := e
    exact ⟨_, _, rfl⟩

end Go.Proofs.YtdkpcjfadabkbaaGreatDoor
