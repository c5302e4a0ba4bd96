/- Few. -/
import Derived.Test.YtphlokjhfbfogaaZ4
set_option linter.unusedVariables false
set_option linter.unusedSimpArgs false
namespace Go.Proofs.Ytphlokjhfbfogaa
open Go.RowKit Go.Shelf

namespace Dt
def fewC (c : ConM) : Bool := decide (c.name.size ≤ 100) && decide (c.fields.length ≤ 20)
def fewD (x : DataM) : Bool := decide (x.name.size ≤ 100) && decide (x.cons.length ≤ 30) && x.cons.all fewC
def sumF (l : List ConM) : Nat := (l.map (fun c => c.fields.length)).sum
def partsD (x : DataM) : Nat := 1 + x.cons.length + sumF x.cons
def parts (d : List DataM) : Nat := (d.map partsD).sum
def few (d : List DataM) : Bool := decide (d.length ≤ 80) && d.all fewD && decide (parts d ≤ 400)
theorem sumF_snoc (l : List ConM) (c : ConM) : sumF (l ++ [c]) = sumF l + c.fields.length := by simp [sumF]
theorem parts_snoc (l : List DataM) (x : DataM) : parts (l ++ [x]) = parts l + partsD x := by simp [parts]
theorem sumF_le (l : List ConM) (h : ∀ c ∈ l, fewC c = true) : sumF l ≤ 20 * l.length := by
  induction l with
  | nil => simp [sumF]
  | cons c l ih =>
    have h1 := h c (by simp)
    have h2 := ih (fun c hc => h c (by simp [hc]))
    simp [fewC] at h1
    simp [sumF] at h2 ⊢
    omega
theorem parts_le (d : List DataM) (h : ∀ x ∈ d, fewD x = true) : parts d ≤ 631 * d.length := by
  induction d with
  | nil => simp [parts]
  | cons x d ih =>
    have h1 := h x (by simp)
    have h2 := ih (fun c hc => h c (by simp [hc]))
    simp [fewD] at h1
    have h3 := sumF_le x.cons h1.2
    simp [parts, partsD] at h2 ⊢
    omega
theorem few_sm {d : List DataM} (h : few d = true) (h64 : ∀ x ∈ d, ∀ c ∈ x.cons, ∀ f ∈ c.fields, In64 f) : Sm d := by
  simp [few, fewD, fewC] at h
  obtain ⟨⟨h1, h2⟩, _⟩ := h
  refine ⟨by omega, fun x hx => ?_⟩
  obtain ⟨⟨a, b⟩, c⟩ := h2 x hx
  refine ⟨by omega, by omega, fun y hy => ?_⟩
  obtain ⟨p, q⟩ := c y hy
  exact ⟨by omega, by omega, h64 x hx y hy⟩
end Dt

theorem wrap_one (q : Nat) (h : q ≤ 100000) : wrap64 ((q : Int) + 1) = (q : Int) + 1 := IntWalk.wrap64_in _ (by omega)
theorem wrap_one' (q : Nat) (h : q ≤ 100000) : IntKind.i64.wrap ((q : Int) + 1) = (q : Int) + 1 := IntWalk.i64_in _ (by omega)
theorem wrap_sum (a b c : Nat) (h : a ≤ 100000) (h2 : b ≤ 100000) (e : a + b = c) : wrap64 ((a : Int) + b) = c := by subst e; rw [IntWalk.wrap64_in _ (by omega)]; omega
theorem wrap_sum' (a b c : Nat) (h : a ≤ 100000) (h2 : b ≤ 100000) (e : a + b = c) : IntKind.i64.wrap ((a : Int) + b) = c := by subst e; rw [IntWalk.i64_in _ (by omega)]; omega
theorem wrap_two (a b c : Nat) (h : a ≤ 100000) (h2 : b ≤ 100000) (e : a + 1 + b = c) : wrap64 ((a : Int) + 1 + b) = c := by subst e; rw [IntWalk.wrap64_in _ (by omega)]; omega
theorem wrap_two' (a b c : Nat) (h : a ≤ 100000) (h2 : b ≤ 100000) (e : a + 1 + b = c) : IntKind.i64.wrap ((a : Int) + 1 + b) = c := by subst e; rw [IntWalk.i64_in _ (by omega)]; omega

set_option maxRecDepth 100000 in
set_option maxHeartbeats 12800000 in
theorem Few_any (v : Value) (d : List DataM) (r : Bool) (w : World) (hv : DsAt w v d) (hr : Hid (Dt.few d = r)) :
    Calls Try.prog 5 #[v] w fun e w' => e = .returned (.bool r) ∧ w' = w := by
  obtain ⟨ad, cap, rfl⟩ := hv.slice
  obtain ⟨n, hln⟩ : ∃ n, d.length = n := ⟨_, rfl⟩
  rw [hln] at hv ⊢
  have HL := Lib.hid hln
  have HV := Lib.hid hv
  clear hv hln
  by_cases hbig : 80 < n
  · obtain rfl : r = false := by rw [← hr.out]; simp [Dt.few, HL.out]; omega
    have g1 : (80 : Int) < n := by omega
    go_enter Try.func5, Try.ntmps5
    go_wp2
    go_ret
    exact ⟨rfl, rfl⟩
  · have g1 : ¬ (80 : Int) < n := by omega
    have hn80 : n ≤ 80 := by omega
    go_enter Try.func5, Try.ntmps5
    go_wp2
    go_loop [3, 4] (fun p i => ∃ (k q : Nat), k ≤ n ∧ i = .int .i64 k ∧ p = .int .i64 q ∧ Hid (q = Dt.parts (d.take k)) ∧ Hid (∀ j (h : j < k) (h2 : j < d.length), Dt.fewD (d[j]'h2) = true)) (fun _ i => n - (intOf i).toNat)
    case atStart => exact ⟨0, 0, Nat.zero_le _, rfl, rfl, Lib.hid rfl, Lib.hid (fun j h => absurd h (Nat.not_lt_zero _))⟩
    case round =>
      obtain ⟨k, q, hk, rfl, rfl, HQ, HA⟩ := hrel
      have hall : ∀ x ∈ d.take k, Dt.fewD x = true := fun x hx => by
        obtain ⟨j, hj, rfl⟩ := List.getElem_of_mem hx
        rw [List.getElem_take]
        rw [List.length_take] at hj
        exact HA.out j (by omega) (by omega)
      have hq : q ≤ 60000 := by
        have h1 := Dt.parts_le _ hall
        rw [← HQ.out, List.length_take] at h1
        omega
      have HALL := Lib.hid hall
      clear hall
      by_cases hlt : k < n
      · have hltz : (k : Int) < (n : Int) := by omega
        have hkd : k < d.length := by rw [HL.out]; exact hlt
        obtain ⟨b, off, fa, fc, rfl, hb, c0, c1, hcs⟩ := HV.out.at k hkd
        obtain ⟨y, hy⟩ : ∃ y, d[k] = y := ⟨_, rfl⟩
        rw [hy] at c0 c1 hcs
        have HY := Lib.hid hy
        have HYD : Hid (y ∈ d) := Lib.hid (by rw [← hy]; exact List.getElem_mem hkd)
        have HTK : Hid (d.take (k + 1) = d.take k ++ [y]) := Lib.hid (by rw [← hy]; exact (List.take_append_getElem hkd).symm)
        obtain ⟨nm, hnm⟩ : ∃ nm, y.name = nm := ⟨_, rfl⟩
        obtain ⟨cs, hcse⟩ : ∃ cs, y.cons = cs := ⟨_, rfl⟩
        obtain ⟨m, hm⟩ : ∃ m, cs.length = m := ⟨_, rfl⟩
        rw [hcse, hm] at c1 hcs
        rw [hnm] at c0
        have HCS := Lib.hid hcs
        have HNM := Lib.hid hnm
        have HCE := Lib.hid hcse
        have HM := Lib.hid hm
        clear hy hnm hcse hm hcs
        by_cases h1 : 100 < nm.size
        · have g2 : (100 : Int) < nm.size := by omega
          obtain rfl : r = false := by
            rw [← hr.out]
            have : Dt.fewD y = false := by simp [Dt.fewD, HNM.out]; omega
            have h2 : d.all Dt.fewD = false := by rw [List.all_eq_false]; exact ⟨y, HYD.out, by rw [this]; simp⟩
            simp [Dt.few, h2]
          go_wp2
          go_ret
          exact ⟨rfl, rfl⟩
        · have g2 : ¬ (100 : Int) < nm.size := by omega
          by_cases h2 : 30 < m
          · have g3 : (30 : Int) < m := by omega
            obtain rfl : r = false := by
              rw [← hr.out]
              have : Dt.fewD y = false := by simp [Dt.fewD, HCE.out, HM.out]; omega
              have h2 : d.all Dt.fewD = false := by rw [List.all_eq_false]; exact ⟨y, HYD.out, by rw [this]; simp⟩
              simp [Dt.few, h2]
            go_wp2
            go_ret
            exact ⟨rfl, rfl⟩
          · have g3 : ¬ (30 : Int) < m := by omega
            have hm30 : m ≤ 30 := by omega
            obtain ⟨q1, hq1⟩ : ∃ q1, q + 1 + m = q1 := ⟨_, rfl⟩
            have hq1b : q1 ≤ 70000 := by omega
            have bq : q ≤ 100000 := by omega
            have bm : m ≤ 100000 := by omega
            have hw1 : wrap64 ((q : Int) + 1) = (q : Int) + 1 := wrap_one q bq
            have hw3 : IntKind.i64.wrap ((q : Int) + 1) = (q : Int) + 1 := wrap_one' q bq
            have hw2 : wrap64 ((q : Int) + 1 + m) = (q1 : Int) := wrap_two q m q1 bq bm hq1
            have hw4 : IntKind.i64.wrap ((q : Int) + 1 + m) = (q1 : Int) := wrap_two' q m q1 bq bm hq1
            have HQ1 := Lib.hid hq1
            have HC0 := Lib.hid c0
            clear hq1
            go_wp2
            clear hw1 hw2 hw3 hw4 bq bm
            go_loop [3, 5] (fun p i => ∃ (j s : Nat), j ≤ m ∧ i = .int .i64 j ∧ p = .int .i64 s ∧ Hid (s = q1 + Dt.sumF (cs.take j)) ∧ Hid (∀ i (h : i < j) (h2 : i < cs.length), Dt.fewC (cs[i]'h2) = true)) (fun _ i => m - (intOf i).toNat)
            case atStart => exact ⟨0, q1, Nat.zero_le _, rfl, rfl, Lib.hid rfl, Lib.hid (fun j h => absurd h (Nat.not_lt_zero _))⟩
            case round =>
              obtain ⟨j, s, hj, rfl, rfl, HS, HAC⟩ := hrel
              have hallc : ∀ x ∈ cs.take j, Dt.fewC x = true := fun x hx => by
                obtain ⟨i, hi, rfl⟩ := List.getElem_of_mem hx
                rw [List.getElem_take]
                rw [List.length_take] at hi
                exact HAC.out i (by omega) (by omega)
              have hs : s ≤ 80000 := by
                have h1 := Dt.sumF_le _ hallc
                rw [List.length_take] at h1
                have h2 := HS.out
                omega
              clear hallc
              by_cases hjlt : j < m
              · have hjltz : (j : Int) < (m : Int) := by omega
                have hjl : j < cs.length := by rw [HM.out]; exact hjlt
                obtain ⟨b2, off2, ga, gc, rfl, hb2, e0, e1, hfs⟩ := HCS.out.at j hjl
                obtain ⟨z, hz⟩ : ∃ z, cs[j] = z := ⟨_, rfl⟩
                rw [hz] at e0 e1
                have HZ := Lib.hid hz
                have HZM : Hid (z ∈ cs) := Lib.hid (by rw [← hz]; exact List.getElem_mem hjl)
                have HTK2 : Hid (cs.take (j + 1) = cs.take j ++ [z]) := Lib.hid (by rw [← hz]; exact (List.take_append_getElem hjl).symm)
                obtain ⟨zn, hzn⟩ : ∃ zn, z.name = zn := ⟨_, rfl⟩
                obtain ⟨zl, hzl⟩ : ∃ zl, z.fields.length = zl := ⟨_, rfl⟩
                rw [hzn] at e0
                rw [hzl] at e1
                have HZN := Lib.hid hzn
                have HZL := Lib.hid hzl
                clear hz hfs hzn hzl
                have bad : Dt.fewC z = false → r = false := fun h => by
                  rw [← hr.out]
                  have h1 : Dt.fewD y = false := by
                    have : y.cons.all Dt.fewC = false := by rw [HCE.out, List.all_eq_false]; exact ⟨z, HZM.out, by rw [h]; simp⟩
                    simp [Dt.fewD, this]
                  have h2 : d.all Dt.fewD = false := by rw [List.all_eq_false]; exact ⟨y, HYD.out, by rw [h1]; simp⟩
                  simp [Dt.few, h2]
                by_cases p1 : 100 < zn.size
                · have p2 : (100 : Int) < zn.size := by omega
                  obtain rfl := bad (by simp [Dt.fewC, HZN.out]; omega)
                  clear bad
                  go_wp2
                  go_ret
                  exact ⟨rfl, rfl⟩
                · have p2 : ¬ (100 : Int) < zn.size := by omega
                  by_cases p3 : 20 < zl
                  · have p4 : (20 : Int) < zl := by omega
                    obtain rfl := bad (by simp [Dt.fewC, HZL.out]; omega)
                    clear bad
                    go_wp2
                    go_ret
                    exact ⟨rfl, rfl⟩
                  · have p4 : ¬ (20 : Int) < zl := by omega
                    have HFZ : Hid (Dt.fewC z = true) := Lib.hid (by simp [Dt.fewC, HZN.out, HZL.out]; omega)
                    obtain ⟨s1, hs1⟩ : ∃ s1, s + zl = s1 := ⟨_, rfl⟩
                    have bs : s ≤ 100000 := by omega
                    have bz : zl ≤ 100000 := by omega
                    have hw1 : wrap64 ((s : Int) + zl) = (s1 : Int) := wrap_sum s zl s1 bs bz hs1
                    have hw2 : IntKind.i64.wrap ((s : Int) + zl) = (s1 : Int) := wrap_sum' s zl s1 bs bz hs1
                    have HS1 := Lib.hid hs1
                    clear bad hs1
                    go_wp2
                    go_round
                    case rel =>
                      refine ⟨j + 1, s1, by omega, by go_num, rfl, Lib.hid ?_, Lib.hid (fun i h h2 => ?_)⟩
                      · rw [HTK2.out, Dt.sumF_snoc, HZL.out, ← HS1.out, HS.out]; omega
                      · by_cases e : i = j
                        · subst e; rw [HZ.out]; exact HFZ.out
                        · exact HAC.out i (by omega) h2
                    case measure => simp [intOf]; omega
              · obtain rfl : m = j := by omega
                have hnn : ¬ (m : Int) < m := by omega
                go_wp2
                go_round
                case rel =>
                  refine ⟨k + 1, s, by omega, by go_num, rfl, Lib.hid ?_, Lib.hid (fun i h h2 => ?_)⟩
                  · have htm : cs.take m = cs := List.take_of_length_le (by rw [HM.out]; exact Nat.le_refl _)
                    have h1 := HS.out
                    rw [htm] at h1
                    rw [HTK.out, Dt.parts_snoc, Dt.partsD, HCE.out, HM.out, h1, ← HQ1.out, HQ.out]; omega
                  · by_cases e : i = k
                    · subst e
                      rw [HY.out]
                      have hac : cs.all Dt.fewC = true := by
                        rw [List.all_eq_true]
                        intro x hx
                        obtain ⟨i, hi, rfl⟩ := List.getElem_of_mem hx
                        exact HAC.out i (by rw [← HM.out]; exact hi) hi
                      simp [Dt.fewD, HNM.out, HCE.out, HM.out]
                      exact ⟨⟨by omega, by omega⟩, by simpa using hac⟩
                    · exact HA.out i (by omega) h2
                case measure => simp [intOf]; omega
      · obtain rfl : n = k := by omega
        have hnn : ¬ (n : Int) < n := by omega
        have hr2 : r = decide ((q : Int) ≤ 400) := by
          rw [← hr.out]
          have h1 : d.all Dt.fewD = true := by
            rw [List.all_eq_true]
            intro x hx
            obtain ⟨i, hi, rfl⟩ := List.getElem_of_mem hx
            exact HA.out i (by rw [← HL.out]; exact hi) hi
          have h2 := HQ.out
          rw [List.take_of_length_le (by rw [HL.out]; exact Nat.le_refl _)] at h2
          simp only [Dt.few, h1, HL.out, ← h2, decide_eq_true hn80, Bool.true_and]
          exact decide_eq_decide.2 (by omega)
        have HR2 := Lib.hid hr2
        clear hr2
        go_wp2
        go_ret
        exact ⟨by rw [HR2.out] <;> rfl, rfl⟩

end Go.Proofs.Ytphlokjhfbfogaa
