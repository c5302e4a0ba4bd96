/- What slices.Clone does with a number; what divide does where the quotient is 0, and with a divisor of one limb. -/
import Derived.Test.YtdkpcjfadabkbaaDoorD5
import Derived.Test.YtdkpcjfadabkbaaDoorN6
import Derived.Lib.AppendStr
import Derived.Lib.SliceRun
set_option linter.unusedVariables false
set_option linter.unusedSimpArgs false
namespace Go.Proofs.YtdkpcjfadabkbaaDoor
open Go.RowKit _root_.Go.Proofs.YtdkpcjfadabkbaaDoor.Nm

theorem rd_of_own {B : Nat} {t : TypeId} {w : World} {v : Value} {xs : List Nat} (h : w.ownsRow B t 1 v xs.length (xs.map (fun x => Value.int .u32 (x : Nat)))) (hl : xs.length ≤ 60000) : Rd .u32 w v xs ∧ Fr B v := by
  rcases h.2 with ⟨rfl, h2⟩ | ⟨g, cap, cur, rfl, hB, hg, hn, hcap, hsz, ht⟩
  · have : xs = [] := List.length_eq_zero_iff.1 h2
    subst this
    exact ⟨Rd.nil _ _ _ _ ⟨by omega, by unfold maxLen; omega⟩, fun ad n c e => by cases e⟩
  · have hlt : g < w.heap.size := by
      rcases Nat.lt_or_ge g w.heap.size with h' | h'
      · exact h'
      · simp [Array.getElem?_eq_none h'] at hg
    refine ⟨Rd.mk hn ⟨hl, hcap⟩ hlt ?_, fun ad n c e _ => ?_⟩
    · intro i hi
      have hc := World.ownsRow.cells h (g := g) rfl i (.int .u32 ((xs[i] : Nat) : Int)) (by simp [List.getElem?_eq_getElem hi])
      rw [addr_add, Nat.zero_add] at hc
      rw [Nat.zero_add]
      exact hc
    · simp only [Value.slice.injEq, Option.some.injEq] at e
      obtain ⟨rfl, _, _⟩ := e
      exact hB

set_option maxRecDepth 100000 in
set_option maxHeartbeats 1600000 in
theorem Clone_some (ad : Addr) (xs : List Nat) (c : Nat) (w : World) (hl : xs.length ≤ 60000) (hr : ∀ (j : Nat) (h : j < xs.length), w.cell? (ad.add j) = some (.int .u32 (xs[j] : Nat)) ∧ (ad.add j).block < w.heap.size) :
    Calls Tryd.prog 85 #[.slice (some ad) xs.length c] w fun e w' => ∃ v', e = .returned v' ∧ Rd .u32 w' v' xs ∧ Fr w.heap.size v' ∧ Below w.heap.size w w' := by
  obtain ⟨i0, hi, hz0, hz1, hz2⟩ := info_parts info32
  have HI := Lib.hid hi
  have HZ0 := Lib.hid hz0
  have HZ1 := Lib.hid hz1
  have HZ2 := Lib.hid hz2
  have HR := Lib.hid hr
  clear hi hz0 hz1 hz2 hr
  have q22 : ∀ (w : World) (a : Option Addr) (n c n' c' : Nat), (binOp .eql 70 (.slice a n c) (.slice none n' c')).run Tryd.prog w = .ok (.bool a.isNone) w := fun w a n c n' c' => Lib.run_eql_slice_nil w _ _ a n c n' c' Tryd.underlying70
  go_enter Tryd.func85, Tryd.ntmps85
  go_wp2_with (at_builtin; refine wpList_append_own _ rfl _ _ 70 rfl w.heap.size 87 i0 (.int .u32 0) 1 4 Tryd.underlying70 HI.out HZ0.out HZ1.out HZ2.out rfl (by decide) _ _ _ rfl (World.ownsRow_made w #[] 0 (Nat.le_refl _) (Nat.zero_le _) rfl) ad xs.length c (xs.map (fun x => Value.int .u32 (x : Nat))) rfl ?c0 ?c1 ?c2 ?c3 ?c4 ?c5 ?_)
  case c0 => simp
  case c1 =>
    intro j u hj
    rw [List.getElem?_map] at hj
    by_cases hjl : j < xs.length
    · rw [List.getElem?_eq_getElem hjl] at hj
      simp at hj
      subst hj
      obtain ⟨h1, h2⟩ := HR.out j hjl
      rw [World.cell?_alloc_lt w _ _ h2]
      exact h1
    · rw [List.getElem?_eq_none (by omega)] at hj; simp at hj
  case c2 => intro u hu; obtain ⟨x, _, rfl⟩ := List.mem_map.1 hu; rfl
  case c3 => unfold maxLen; omega
  case c4 => omega
  case c5 => simp
  intro v' w1 hown hgrow hnil
  have hB := ((Below.refl _ w).alloc (Nat.le_refl _) (.cells #[] 87)).grown hgrow (by simp) (by intro k hk; simp [Value.ownBlock] at hk; omega)
  have HH := Lib.hid (rd_of_own hown hl)
  have HB := Lib.hid hB
  clear hown hgrow hB hnil
  go_wp2
  go_ret
  exact ⟨v', rfl, HH.out.1, HH.out.2, HB.out⟩

set_option maxRecDepth 100000 in
theorem Clone_nil (n c : Nat) (w : World) : Calls Tryd.prog 85 #[.slice none n c] w fun e w' => e = .returned (.slice none 0 0) ∧ w = w' := by
  have q22 : ∀ (w : World) (a : Option Addr) (n c n' c' : Nat), (binOp .eql 70 (.slice a n c) (.slice none n' c')).run Tryd.prog w = .ok (.bool a.isNone) w := fun w a n c n' c' => Lib.run_eql_slice_nil w _ _ a n c n' c' Tryd.underlying70
  go_enter Tryd.func85, Tryd.ntmps85
  go_wp2
  go_ret
  exact ⟨rfl, rfl⟩

theorem Clone_any (v : Value) (a : Nat) (w : World) (h : IsNat w v a) :
    Calls Tryd.prog 85 #[v] w (NatPost a w) := by
  have hl := Rd.length h
  rcases Rd.cases h with ⟨h0, aa, c, rfl, hc⟩ | ⟨h0, g, off, c, rfl, hxc, hc, hg, hr⟩
  · have ha : a = 0 := (ds_eq_nil _ (by omega) a).1 h0
    subst ha
    cases aa with
    | none =>
      refine (Clone_nil 0 c w).mono ?_
      rintro e w' ⟨rfl, rfl⟩
      exact ⟨_, rfl, by rw [ds_zero]; exact Rd.nil _ _ _ _ ⟨by omega, by unfold maxLen; omega⟩, (fun ad n c e => by cases e), Below.refl _ _⟩
    | some ad =>
      have := Clone_some ad [] c w (by simp) (fun j h => by simp at h)
      refine this.mono ?_
      rintro e w' ⟨v', rfl, h1, h2, h3⟩
      exact ⟨v', rfl, by rw [ds_zero]; exact h1, h2, h3⟩
  · refine (Clone_some ⟨g, off, none⟩ (ds 1000000000 a) c w hl (fun j hj => ?_)).mono ?_
    · rw [addr_add]; exact ⟨hr j hj, hg⟩
    · rintro e w' ⟨v', rfl, h1, h2, h3⟩
      exact ⟨v', rfl, h1, h2, h3⟩

/-- A quotient and a remainder, as limbs. -/
def QuoPost (q r : Nat) (w : World) (e : Ending) (w' : World) : Prop :=
  ∃ v1 v2, e = .returned (.tuple #[v1, v2]) ∧ IsNat w' v1 q ∧ Fr w.heap.size v1 ∧ IsNat w' v2 r ∧ Fr w.heap.size v2 ∧ Below w.heap.size w w'

set_option maxRecDepth 100000 in
set_option maxHeartbeats 1600000 in
theorem divide_less (va vb : Value) (a b : Nat) (w : World) (ha : IsNat w va a) (hb : IsNat w vb b) (hlt : a < b) :
    Calls Tryd.prog 67 #[va, vb] w (QuoPost 0 a w) := by
  have HA := Lib.hid ha
  have HB := Lib.hid hb
  have HS : Hid (sgn a b = -1) := Lib.hid (sgn_lt (by omega))
  clear ha hb hlt
  go_enter Tryd.func67, Tryd.ntmps67
  go_wp2_with fail
  refine (compare_any _ _ a b _ HA.out HB.out).mono ?_
  rintro e w1 ⟨rfl, n, hw⟩
  rw [HS.out]
  have HW := Lib.hid (show Below w.heap.size w w1 from by rw [hw]; exact ⟨rfl, rfl, rfl, Nat.le_refl _, fun _ _ => rfl⟩)
  clear hw
  go_wp2_with fail
  refine (Clone_any _ a _ (HA.out.keep HW.out (Nat.le_refl _))).mono ?_
  rintro e w2 ⟨v, rfl, hv, hf, hb2⟩
  have HV := Lib.hid hv
  have HF := Lib.hid (hf.mono HW.out.size)
  have HW2 := Lib.hid (HW.out.trans (hb2.mono HW.out.size))
  clear hv hf hb2
  go_wp2
  go_ret2
  exact ⟨_, _, rfl, by unfold IsNat; rw [ds_zero]; exact Rd.nil _ _ _ _ ⟨by omega, by unfold maxLen; omega⟩, (fun ad n c e => by cases e), HV.out, HF.out, HW2.out⟩

end Go.Proofs.YtdkpcjfadabkbaaDoor
