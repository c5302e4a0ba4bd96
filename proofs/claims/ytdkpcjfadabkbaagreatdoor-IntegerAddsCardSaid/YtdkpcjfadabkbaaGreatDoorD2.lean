/- What word does. -/
import Derived.Test.YtdkpcjfadabkbaaGreatDoorD1
set_option linter.unusedVariables false
set_option linter.unusedSimpArgs false
namespace Go.Proofs.YtdkpcjfadabkbaaGreatDoor
open Go.RowKit

set_option maxRecDepth 100000 in
set_option maxHeartbeats 1600000 in
theorem word_to (aa : Option Addr) (ca : Nat) (xs : List Nat) (w : World) (ha : Rd .u32 w (.slice aa xs.length ca) xs) (hx : ∀ x ∈ xs, x < 1000000000) (hl : xs.length ≤ 2) :
    Calls Tryz.prog 68 #[.slice aa xs.length ca] w fun e w' => e = .returned (.int .u64 (Nm.vl 1000000000 xs : Nat)) ∧ w = w' := by
  have hcell : ∀ k (hk : k < xs.length), ∃ g0 off, aa = some ⟨g0, off, none⟩ ∧ w.cell? ⟨g0, off + k, none⟩ = some (.int .u32 (xs[k] : Nat)) := by
    intro k hk
    obtain ⟨a', c', e, _, _, h3⟩ := id ha
    obtain ⟨g0, off, e2, h4, h5⟩ := h3 (by rintro rfl; simp at hk)
    simp only [Value.slice.injEq] at e
    exact ⟨g0, off, by rw [e.1, e2], h5 k hk⟩
  have HCELL := Lib.hid hcell
  have HX := Lib.hid hx
  clear hcell ha hx
  go_enter Tryz.func68, Tryz.ntmps68
  go_wp2
  go_loop [3, 7] (fun rv j => ∃ (k r : Nat), k ≤ xs.length ∧ j = .int .i64 k ∧ rv = .int .u64 r ∧ Hid (r = Nm.vl 1000000000 (xs.drop (xs.length - k)))) (fun _ j => xs.length - (intOf j).toNat)
  case atStart => exact ⟨0, 0, by omega, rfl, rfl, Lib.hid (by simp [Nm.vl])⟩
  case round =>
    obtain ⟨k, r, hk, rfl, rfl, HV⟩ := hrel
    by_cases hlt : k < xs.length
    · have hlt' : (k : Int) < xs.length := by omega
      obtain ⟨p, hp⟩ : ∃ p : Nat, p = xs.length - 1 - k := ⟨_, rfl⟩
      have hpl : p < xs.length := by omega
      have hpl' : (p : Int) < xs.length := by omega
      have hpe : (xs.length : Int) - 1 - k = p := by omega
      have HP := Lib.hid (show xs.length - k = p + 1 by omega)
      have HP2 := Lib.hid (show xs.length - (k + 1) = p by omega)
      have hp1 : p ≤ 1 := by omega
      clear hp
      rw [HP.out] at HV
      have hx1 := HX.out _ (List.getElem_mem hpl)
      have hr1 : r < 1000000000 := by
        have h1 := Nm.vl_lt 1000000000 (xs.drop (p + 1)) (fun z hz => HX.out z (List.mem_of_mem_drop hz))
        rw [← HV.out, List.length_drop] at h1
        have h2 := Nat.pow_le_pow_right (n := 1000000000) (by omega) (show xs.length - (p + 1) ≤ 1 by omega)
        omega
      have HV' : Hid (r * 1000000000 + xs[p] = Nm.vl 1000000000 (xs.drop (xs.length - (k + 1)))) := Lib.hid (by
        rw [HP2.out, List.drop_eq_getElem_cons hpl, HV.out]
        simp only [Nm.vl]
        omega)
      obtain ⟨g0, off, rfl, hc⟩ := HCELL.out p hpl
      go_wp2
      go_round
      case rel => exact ⟨k + 1, r * 1000000000 + xs[p], by omega, by go_num, by go_num, HV'⟩
      case measure => simp [intOf]; omega
    · have hke : k = xs.length := by omega
      have HR : Hid (Nm.vl 1000000000 xs = r) := Lib.hid (by have := HV.out; rw [hke, Nat.sub_self, List.drop_zero] at this; exact this.symm)
      have hge : ¬ (k : Int) < xs.length := by omega
      clear hke
      go_wp2
      go_ret
      exact ⟨by rw [HR.out]; rfl, rfl⟩

theorem word_any (va : Value) (a : Nat) (w : World) (ha : IsNat w va a) (la : (Nm.ds 1000000000 a).length ≤ 2) :
    Calls Tryz.prog 68 #[va] w fun e w' => e = .returned (.int .u64 (a : Nat)) ∧ w = w' := by
  obtain ⟨aa, ca, rfl, _⟩ := id ha
  have h := word_to aa ca _ w ha (Nm.ds_lt _ (by omega) _) la
  rwa [Nm.vl_ds _ (by omega)] at h

end Go.Proofs.YtdkpcjfadabkbaaGreatDoor
