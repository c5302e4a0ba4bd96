/- What the reference's cmp and plus do. -/
import Derived.Test.YtdkpcjfadabkbaaGreatDoorR8
import Derived.Test.YtdkpcjfadabkbaaGreatDoorN6
set_option linter.unusedVariables false
set_option linter.unusedSimpArgs false
namespace Go.Proofs.YtdkpcjfadabkbaaGreatDoor
open Go.RowKit _root_.Go.Proofs.YtdkpcjfadabkbaaGreatDoor.Nm

theorem cmp_at (xs ys : List Nat) (hx : ∀ x ∈ xs, x < 10) (k : Nat) (hl : xs.length = ys.length) (h1 : k < xs.length) (h2 : k < ys.length) (ht : xs.take k = ys.take k) (h : xs[k] < ys[k]) : dval xs < dval ys := by
  have e1 : xs = xs.take k ++ (xs[k] :: xs.drop (k + 1)) := by rw [List.getElem_cons_drop, List.take_append_drop]
  have e2 : ys = ys.take k ++ (ys[k] :: ys.drop (k + 1)) := by rw [List.getElem_cons_drop, List.take_append_drop]
  have l1 : (xs.drop (k + 1)).length = xs.length - (k + 1) := List.length_drop
  have l2 : (ys.drop (k + 1)).length = xs.length - (k + 1) := by rw [List.length_drop, hl]
  have b1 := dval_lt (xs.drop (k + 1)) (fun x h => hx x (List.mem_of_mem_drop h))
  have v1 : dval xs = dval (xs.drop (k + 1)) + 10 ^ (xs.length - (k + 1)) * xs[k] + 10 ^ (xs.length - (k + 1) + 1) * dval (xs.take k) := by
    conv => lhs; rw [e1]
    rw [dval_append, dval_cons, List.length_cons, l1]
  have v2 : dval ys = dval (ys.drop (k + 1)) + 10 ^ (xs.length - (k + 1)) * ys[k] + 10 ^ (xs.length - (k + 1) + 1) * dval (xs.take k) := by
    conv => lhs; rw [e2]
    rw [dval_append, dval_cons, List.length_cons, l2, ht]
  rw [l1] at b1
  have h3 : 10 ^ (xs.length - (k + 1)) * (xs[k] + 1) ≤ 10 ^ (xs.length - (k + 1)) * ys[k] := Nat.mul_le_mul_left _ h
  rw [Nat.mul_add, Nat.mul_one] at h3
  rw [v1, v2]
  omega

theorem dg_len_lt (m n : Nat) (h : (dg m).length < (dg n).length) : m < n := by
  unfold dg at h
  rw [List.length_reverse, List.length_reverse] at h
  exact length_lt 10 (by omega) m n h

set_option maxRecDepth 100000 in
set_option maxHeartbeats 3200000 in
theorem rcmp_any (v1 v2 : Value) (m n : Nat) (w : World) (h1 : Rd .i64 w v1 (dg m)) (h2 : Rd .i64 w v2 (dg n)) :
    Calls Tryz.prog 35 #[v1, v2] w fun e w' => e = .returned (.int .i64 (sgn m n)) ∧ ∃ k, w' = w.drewN k := by
  obtain ⟨xs, hx⟩ : ∃ xs, dg m = xs := ⟨_, rfl⟩
  obtain ⟨ys, hy⟩ : ∃ xs, dg n = xs := ⟨_, rfl⟩
  have hlt1 : xs.length < ys.length → m < n := fun h => dg_len_lt m n (by rw [hx, hy]; exact h)
  have hlt2 : ys.length < xs.length → n < m := fun h => dg_len_lt n m (by rw [hx, hy]; exact h)
  have hvm : dval xs = m := by rw [← hx, dval_dg]
  have hvn : dval ys = n := by rw [← hy, dval_dg]
  rw [hx] at h1
  rw [hy] at h2
  have HX : Hid (∀ z ∈ xs, z < 10) := Lib.hid (by rw [← hx]; exact dg_lt _)
  have HY : Hid (∀ z ∈ ys, z < 10) := Lib.hid (by rw [← hy]; exact dg_lt _)
  have HVM := Lib.hid (And.intro trivial hvm)
  have HVN := Lib.hid (And.intro trivial hvn)
  obtain ⟨a1, c1, rfl, _, _, h3a⟩ := id h1
  obtain ⟨a2, c2, rfl, _, _, h3b⟩ := id h2
  have H3A := Lib.hid h3a
  have H3B := Lib.hid h3b
  have lx := h1.length
  have ly := h2.length
  obtain ⟨r, hr⟩ : ∃ r, sgn (m : Int) (n : Int) = r := ⟨_, rfl⟩
  rw [hr]
  have HR := Lib.hid (And.intro trivial hr)
  clear hr hx hy hvm hvn h1 h2 h3a h3b
  by_cases hl : xs.length = ys.length
  · have hne : ((xs.length : Int) != (ys.length : Int)) = false := by simp [hl]
    have HL := Lib.hid (And.intro trivial hl)
    have hle1 : xs.length ≤ ys.length := by omega
    have hle2 : ys.length ≤ xs.length := by omega
    clear hl hlt1 hlt2
    go_enter Tryz.func35, Tryz.ntmps35
    go_wp2
    go_loopw [5] (fun i wr => ∃ k : Nat, k ≤ xs.length ∧ i = .int .i64 k ∧ Hid (xs.take k = ys.take k) ∧ Hid (∃ n, wr = w.drewN n)) (fun i _ => xs.length - (intOf i).toNat)
    case atStart => exact ⟨0, by omega, rfl, Lib.hid rfl, Lib.hid ⟨0, rfl⟩⟩
    case round =>
      obtain ⟨k, hk, rfl, HT, HW⟩ := hrel
      obtain ⟨nn, rfl⟩ := HW.out
      by_cases hlt : k < xs.length
      · have hlt' : (k : Int) < xs.length := by omega
        have hky : k < ys.length := by omega
        have hky' : (k : Int) < ys.length := by omega
        obtain ⟨g1, o1, rfl, hg1, hr1⟩ := H3A.out (by rintro h; rw [h] at hlt; simp at hlt)
        obtain ⟨g2, o2, rfl, hg2, hr2⟩ := H3B.out (by rintro h; rw [h] at hky; simp at hky)
        obtain ⟨p, hp⟩ : ∃ p, xs[k] = p := ⟨_, rfl⟩
        obtain ⟨q, hq⟩ : ∃ p, ys[k] = p := ⟨_, rfl⟩
        have d1 : w.cell? ⟨g1, o1 + k, none⟩ = some (.int .i64 (p : Nat)) := by rw [← hp]; exact hr1 k hlt
        have d2 : w.cell? ⟨g2, o2 + k, none⟩ = some (.int .i64 (q : Nat)) := by rw [← hq]; exact hr2 k hky
        clear hr1 hr2
        rcases Nat.lt_trichotomy p q with hpq | hpq | hpq
        · have hpq' : (p : Int) < q := by omega
          have HE : Hid (r = -1) := Lib.hid (by
            rw [← HR.out.2, ← HVM.out.2, ← HVN.out.2]
            exact sgn_lt (by have := cmp_at xs ys HX.out k HL.out.2 hlt hky HT.out (by rw [hp, hq]; exact hpq); omega))
          clear hp hq
          go_wp2
          go_quiet (fail)
          go_wp2
          go_ret
          exact ⟨by rw [HE.out]; rfl, _, World.drewN_drewN ..⟩
        · have hpq1 : ¬ (p : Int) < q := by omega
          have hpq2 : ¬ (q : Int) < p := by omega
          have HT2 : Hid (xs.take (k + 1) = ys.take (k + 1)) := Lib.hid (by rw [List.take_add_one, List.take_add_one, HT.out, List.getElem?_eq_getElem hlt, List.getElem?_eq_getElem hky, hp, hq, hpq])
          clear hp hq hpq
          go_wp2
          go_quiet (fail)
          go_wp2
          go_quiet (fail)
          go_wp2
          go_roundw
          case rel => exact ⟨k + 1, by omega, by go_num, HT2, Lib.hid ⟨_, rfl⟩⟩
          case measure => simp [intOf]; omega
        · have hpq1 : ¬ (p : Int) < q := by omega
          have hpq2 : (q : Int) < p := by omega
          have HE : Hid (r = 1) := Lib.hid (by
            rw [← HR.out.2, ← HVM.out.2, ← HVN.out.2]
            exact sgn_gt (by have := cmp_at ys xs HY.out k HL.out.2.symm hky hlt HT.out.symm (by rw [hp, hq]; exact hpq); omega))
          clear hp hq
          go_wp2
          go_quiet (fail)
          go_wp2
          go_quiet (fail)
          go_wp2
          go_ret
          exact ⟨by rw [HE.out]; rfl, _, by rw [World.drewN_drewN, World.drewN_drewN]⟩
      · have HE : Hid (r = 0) := Lib.hid (by
          have h1 := HT.out
          rw [List.take_of_length_le (by omega), List.take_of_length_le (by omega)] at h1
          have h2 := HVM.out.2
          have h3 := HVN.out.2
          rw [← h1] at h3
          rw [← HR.out.2]; unfold sgn; rw [if_neg (by omega), if_neg (by omega)])
        go_wp2
        go_ret
        exact ⟨by rw [HE.out]; rfl, nn, rfl⟩
  · have hne : ((xs.length : Int) != (ys.length : Int)) = true := by simp; omega
    by_cases hlt : xs.length < ys.length
    · have hlt' : (xs.length : Int) < ys.length := by omega
      have HE : Hid (r = -1) := Lib.hid (by rw [← HR.out.2]; exact sgn_lt (by have := hlt1 hlt; omega))
      clear hlt1 hlt2 hl
      go_enter Tryz.func35, Tryz.ntmps35
      go_wp2
      go_ret
      exact ⟨by rw [HE.out]; rfl, 0, rfl⟩
    · have hlt' : ¬ (xs.length : Int) < ys.length := by omega
      have HE : Hid (r = 1) := Lib.hid (by rw [← HR.out.2]; exact sgn_gt (by have := hlt2 (by omega); omega))
      clear hlt1 hlt2 hl
      go_enter Tryz.func35, Tryz.ntmps35
      go_wp2
      go_ret
      exact ⟨by rw [HE.out]; rfl, 0, rfl⟩

/-- What plus leaves: digits of a number. -/
def DigPost (z : Nat) (w : World) (e : Ending) (w' : World) : Prop := ∃ v zs, e = .returned v ∧ Rd .i64 w' v zs ∧ (∀ x ∈ zs, x < 10) ∧ dval zs = z ∧ Below w.heap.size w w'

end Go.Proofs.YtdkpcjfadabkbaaGreatDoor
