/- Few. -/
import Derived.Test.YteidhlfiofiocabZ4
set_option linter.unusedVariables false
set_option linter.unusedSimpArgs false
namespace Go.Proofs.Yteidhlfiofiocab
open Go.RowKit Go.Shelf

namespace Dt
def fewSC (c : ConM) : Bool := decide (c.fields.length ≤ 6) && decide (c.name.size ≤ 60)
def fewSD (x : DataM) : Bool := decide (x.cons.length ≤ 6) && decide (x.name.size ≤ 60) && x.cons.all fewSC
def fewS (d : List DataM) : Bool := d.all fewSD && decide (d.length ≤ 8)
theorem fewS_sm {d : List DataM} (h : fewS d = true) (h64 : ∀ x ∈ d, ∀ c ∈ x.cons, ∀ f ∈ c.fields, In64 f) : Sm d := by
  simp [fewS, fewSD, fewSC] at h
  obtain ⟨h2, h1⟩ := h
  refine ⟨by omega, fun x hx => ?_⟩
  obtain ⟨⟨a, b⟩, c⟩ := h2 x hx
  refine ⟨by omega, by omega, fun y hy => ?_⟩
  obtain ⟨p, q⟩ := c y hy
  exact ⟨by omega, by omega, h64 x hx y hy⟩
theorem fewS_bad {d : List DataM} {x : DataM} (hx : x ∈ d) (h : fewSD x = false) : fewS d = false := by
  have h2 : d.all fewSD = false := by rw [List.all_eq_false]; exact ⟨x, hx, by rw [h]; simp⟩
  simp [fewS, h2]
theorem fewSD_bad {x : DataM} {c : ConM} (hc : c ∈ x.cons) (h : fewSC c = false) : fewSD x = false := by
  have h2 : x.cons.all fewSC = false := by rw [List.all_eq_false]; exact ⟨c, hc, by rw [h]; simp⟩
  simp [fewSD, h2]
end Dt

set_option maxRecDepth 100000 in
set_option maxHeartbeats 12800000 in
theorem sFew_any (v : Value) (d : List DataM) (r : Bool) (w : World) (hv : DsAt w v d) (hl : d.length ≤ maxLen) (hr : Hid (Dt.fewS d = r)) :
    Calls Try.prog 5 #[v] w fun e w' => e = .returned (.bool r) ∧ w' = w := by
  obtain ⟨ad, cap, rfl⟩ := hv.slice
  obtain ⟨n, hln⟩ : ∃ n, d.length = n := ⟨_, rfl⟩
  rw [hln] at hv hl ⊢
  have hn63 : n ≤ 9223372036854775807 := by unfold maxLen at hl; omega
  have HL := Lib.hid hln
  have HV := Lib.hid hv
  clear hv hln hl
  go_enter Try.func5, Try.ntmps5
  go_wp2
  go_loop [3] (fun i => ∃ k : Nat, k ≤ n ∧ i = .int .i64 k ∧ Hid (∀ j (h : j < k) (h2 : j < d.length), Dt.fewSD (d[j]'h2) = true)) (fun i => n - (intOf i).toNat)
  case atStart => exact ⟨0, Nat.zero_le _, rfl, Lib.hid (fun j h => absurd h (Nat.not_lt_zero _))⟩
  case round =>
    obtain ⟨k, hk, rfl, HA⟩ := hrel
    by_cases hlt : k < n
    · have hltz : (k : Int) < (n : Int) := by omega
      have hkd : k < d.length := by rw [HL.out]; exact hlt
      obtain ⟨b, off, fa, fc, rfl, hb, c0, c1, hcs⟩ := HV.out.at k hkd
      obtain ⟨y, hy⟩ : ∃ y, d[k] = y := ⟨_, rfl⟩
      rw [hy] at c0 c1 hcs
      have HY := Lib.hid hy
      have HYD : Hid (y ∈ d) := Lib.hid (by rw [← hy]; exact List.getElem_mem hkd)
      obtain ⟨nm, hnm⟩ : ∃ nm, y.name = nm := ⟨_, rfl⟩
      obtain ⟨cs, hcse⟩ : ∃ cs, y.cons = cs := ⟨_, rfl⟩
      obtain ⟨m, hm⟩ : ∃ m, cs.length = m := ⟨_, rfl⟩
      rw [hcse, hm] at c1 hcs
      rw [hnm] at c0
      have HCS := Lib.hid hcs
      have HNM := Lib.hid hnm
      have HCE := Lib.hid hcse
      have HM := Lib.hid hm
      clear hy hnm hcse hm hcs
      by_cases h2 : 6 < m
      · have g3 : (6 : Int) < m := by omega
        obtain rfl : r = false := by
          rw [← hr.out]
          exact Dt.fewS_bad HYD.out (by simp [Dt.fewSD, HCE.out, HM.out]; omega)
        go_wp2
        go_ret
        exact ⟨rfl, rfl⟩
      · have g3 : ¬ (6 : Int) < m := by omega
        by_cases h1 : 60 < nm.size
        · have g2 : (60 : Int) < nm.size := by omega
          obtain rfl : r = false := by
            rw [← hr.out]
            exact Dt.fewS_bad HYD.out (by simp [Dt.fewSD, HNM.out]; omega)
          go_wp2
          go_ret
          exact ⟨rfl, rfl⟩
        · have g2 : ¬ (60 : Int) < nm.size := by omega
          have HC1 := Lib.hid c1
          go_wp2
          clear c0
          go_loop [4] (fun i => ∃ j : Nat, j ≤ m ∧ i = .int .i64 j ∧ Hid (∀ i (h : i < j) (h2 : i < cs.length), Dt.fewSC (cs[i]'h2) = true)) (fun i => m - (intOf i).toNat)
          case atStart => exact ⟨0, Nat.zero_le _, rfl, Lib.hid (fun j h => absurd h (Nat.not_lt_zero _))⟩
          case round =>
            obtain ⟨j, hj, rfl, HAC⟩ := hrel
            by_cases hjlt : j < m
            · have hjltz : (j : Int) < (m : Int) := by omega
              have hjl : j < cs.length := by rw [HM.out]; exact hjlt
              obtain ⟨b2, off2, ga, gc, rfl, hb2, e0, e1, hfs⟩ := HCS.out.at j hjl
              obtain ⟨z, hz⟩ : ∃ z, cs[j] = z := ⟨_, rfl⟩
              rw [hz] at e0 e1
              have HZ := Lib.hid hz
              have HZM : Hid (z ∈ y.cons) := Lib.hid (by rw [HCE.out, ← hz]; exact List.getElem_mem hjl)
              obtain ⟨zn, hzn⟩ : ∃ zn, z.name = zn := ⟨_, rfl⟩
              obtain ⟨zl, hzl⟩ : ∃ zl, z.fields.length = zl := ⟨_, rfl⟩
              rw [hzn] at e0
              rw [hzl] at e1
              have HZN := Lib.hid hzn
              have HZL := Lib.hid hzl
              clear hz hfs hzn hzl
              have bad : Hid (Dt.fewSC z = false → r = false) := Lib.hid (fun h => by
                rw [← hr.out]
                exact Dt.fewS_bad HYD.out (Dt.fewSD_bad HZM.out h))
              by_cases p3 : 6 < zl
              · have p4 : (6 : Int) < zl := by omega
                obtain rfl := bad.out (by simp [Dt.fewSC, HZL.out]; omega)
                go_wp2
                go_ret
                exact ⟨rfl, rfl⟩
              · have p4 : ¬ (6 : Int) < zl := by omega
                by_cases p1 : 60 < zn.size
                · have p2 : (60 : Int) < zn.size := by omega
                  obtain rfl := bad.out (by simp [Dt.fewSC, HZN.out]; omega)
                  go_wp2
                  go_ret
                  exact ⟨rfl, rfl⟩
                · have p2 : ¬ (60 : Int) < zn.size := by omega
                  have HFZ : Hid (Dt.fewSC z = true) := Lib.hid (by simp [Dt.fewSC, HZN.out, HZL.out]; omega)
                  go_wp2
                  go_round
                  case rel =>
                    refine ⟨j + 1, by omega, by go_num, Lib.hid (fun i h h2 => ?_)⟩
                    by_cases e : i = j
                    · subst e; rw [HZ.out]; exact HFZ.out
                    · exact HAC.out i (by omega) h2
                  case measure => simp [intOf]; omega
            · obtain rfl : m = j := by omega
              have hnn : ¬ (m : Int) < m := by omega
              go_wp2
              go_round
              case rel =>
                refine ⟨k + 1, by omega, by go_num, Lib.hid (fun i h h2 => ?_)⟩
                by_cases e : i = k
                · subst e
                  rw [HY.out]
                  have hac : cs.all Dt.fewSC = true := by
                    rw [List.all_eq_true]
                    intro x hx
                    obtain ⟨i, hi, rfl⟩ := List.getElem_of_mem hx
                    exact HAC.out i (by rw [← HM.out]; exact hi) hi
                  simp [Dt.fewSD, HNM.out, HCE.out, HM.out]
                  exact ⟨⟨by omega, by omega⟩, by simpa using hac⟩
                · exact HA.out i (by omega) h2
              case measure => simp [intOf]; omega
    · obtain rfl : n = k := by omega
      have hnn : ¬ (n : Int) < n := by omega
      have hr2 : r = decide (n ≤ 8) := by
        rw [← hr.out]
        have h1 : d.all Dt.fewSD = true := by
          rw [List.all_eq_true]
          intro x hx
          obtain ⟨i, hi, rfl⟩ := List.getElem_of_mem hx
          exact HA.out i (by rw [← HL.out]; exact hi) hi
        simp only [Dt.fewS, h1, HL.out, Bool.true_and]
      by_cases h8 : n ≤ 8
      · have g8 : (n : Int) ≤ 8 := by omega
        obtain rfl : r = true := by rw [hr2]; exact decide_eq_true h8
        clear hr2
        go_wp2
        go_ret
        exact ⟨rfl, rfl⟩
      · have g8 : ¬ (n : Int) ≤ 8 := by omega
        obtain rfl : r = false := by rw [hr2]; exact decide_eq_false h8
        clear hr2
        go_wp2
        go_ret
        exact ⟨rfl, rfl⟩

end Go.Proofs.Yteidhlfiofiocab
