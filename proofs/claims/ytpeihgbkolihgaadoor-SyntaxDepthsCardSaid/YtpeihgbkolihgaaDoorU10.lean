/- fitsNum. -/
import Derived.Test.YtpeihgbkolihgaaDoorU9
set_option linter.unusedVariables false
set_option linter.unusedSimpArgs false
namespace Go.Proofs.YtpeihgbkolihgaaDoor
open Go.RowKit

set_option maxRecDepth 100000 in
set_option maxHeartbeats 3200000 in
theorem fitsNum_any (k : Int) (v : Value) (L : List LeafM) (root : Int) (x : LeafM) (vk : Value) (r : Bool) (w : World) (hv : LsAt w v L) (hS : SmT L) (hk : IsAt w vk x.kids) (hkl : x.kids.length ≤ 100000) (hin : Sx.inside L x.kids) (hr : Hid (Sx.fitsNum k L x = r)) :
    Calls Tryd.prog 59 #[.int .i64 k, .agg #[v, .int .i64 root], leafV x.kind x.text x.num vk x.frm x.to] w fun e w' => e = .returned (.bool r) ∧ Below w.heap.size w w' := by
  obtain ⟨ad, cap, rfl⟩ := hv.slice
  obtain ⟨fa, fc, rfl⟩ := hk.slice
  have h := hr.out
  unfold Sx.fitsNum at h
  clear hr
  have hA : Below w.heap.size w ((w.alloc (treeO (.slice ad L.length cap) root)).alloc (leafO x.kind x.text x.num (.slice fa x.kids.length fc) x.frm x.to)) := ((Below.refl _ _).alloc (Nat.le_refl _) _).alloc (by simp) _
  have HFC := Lib.hid (fitsCount_any (.slice ad L.length cap) L root x (.slice fa x.kids.length fc) (Sx.fitsCount L x.kids x.num) _ (hv.keep hA (Nat.le_refl _)) hS (hk.keep hA (Nat.le_refl _)) hkl hin (Lib.hid rfl))
  generalize Sx.fitsCount L x.kids x.num = fcr at h HFC
  have HA := Lib.hid hA
  generalize L.length = n at HFC HA
  generalize x.kids.length = m at HFC HA
  unfold leafV at HFC ⊢
  unfold treeO leafO at HFC HA
  generalize x.kind = xk at HFC HA
  generalize x.text = xt at HFC HA
  generalize x.num = xn at h HFC HA
  generalize x.frm = xf at HFC HA
  generalize x.to = xo at HFC HA
  clear hv hk hA hS hkl hin
  by_cases h1 : k = 1
  · subst h1
    rw [if_pos rfl] at h
    subst h
    go_enter Tryd.func59, Tryd.ntmps59
    go_wp2
    go_ret
    exact ⟨rfl, HA.out⟩
  · rw [if_neg h1] at h
    have e1 : (k == 1) = false := by simpa using h1
    by_cases h2 : k = 2
    · subst h2
      rw [if_pos rfl] at h
      by_cases h0 : xn = 0
      · subst h0
        obtain rfl : r = true := by rw [← h]; rfl
        clear h h1 e1
        go_enter Tryd.func59, Tryd.ntmps59
        go_wp2
        go_ret
        exact ⟨rfl, HA.out⟩
      · have HR : Hid ((xn == 1) = r) := Lib.hid (by rw [← h, decide_eq_false h0, Bool.false_or]; rfl)
        have e0 : (xn == 0) = false := by simpa using h0
        clear h h1 e1
        go_enter Tryd.func59, Tryd.ntmps59
        go_wp2
        go_ret
        exact ⟨by rw [← HR.out] <;> rfl, HA.out⟩
    · rw [if_neg h2] at h
      have e2 : (k == 2) = false := by simpa using h2
      by_cases h3 : k = 3
      · subst h3
        rw [if_pos rfl] at h
        clear h1 e1 h2 e2
        by_cases h0 : 0 ≤ xn
        · have HR : Hid (decide (xn < 8) = r) := Lib.hid (by rw [← h, decide_eq_true h0, Bool.true_and])
          clear h
          go_enter Tryd.func59, Tryd.ntmps59
          go_wp2
          go_ret
          exact ⟨by rw [← HR.out] <;> rfl, HA.out⟩
        · obtain rfl : r = false := by rw [← h, decide_eq_false h0]; rfl
          clear h
          go_enter Tryd.func59, Tryd.ntmps59
          go_wp2
          go_ret
          exact ⟨rfl, HA.out⟩
      · rw [if_neg h3] at h
        have e3 : (k == 3) = false := by simpa using h3
        by_cases h4 : k = 4
        · subst h4
          rw [if_pos rfl] at h
          subst h
          clear h1 e1 h2 e2 h3 e3
          go_enter Tryd.func59, Tryd.ntmps59
          go_wp2_with fail
          refine HFC.out.mono ?_
          rintro e w1 ⟨rfl, hb⟩
          have HB := Lib.hid (HA.out.trans (hb.mono HA.out.size))
          clear hb
          go_wp2
          go_ret
          exact ⟨rfl, HB.out⟩
        · rw [if_neg h4] at h
          have e4 : (k == 4) = false := by simpa using h4
          have HR : Hid ((xn == 0) = r) := Lib.hid (by rw [← h]; rfl)
          clear h h1 h2 h3 h4
          go_enter Tryd.func59, Tryd.ntmps59
          go_wp2
          go_ret
          exact ⟨by rw [← HR.out] <;> rfl, HA.out⟩

end Go.Proofs.YtpeihgbkolihgaaDoor
