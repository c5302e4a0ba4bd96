/- The law's Few. -/
import Derived.Test.YtpeihgbkolihgaaDoorU9
set_option linter.unusedVariables false
set_option linter.unusedSimpArgs false
namespace Go.Proofs.YtpeihgbkolihgaaDoor
open Go.RowKit

namespace Sx
def small (x : LeafM) : Bool := decide (x.kids.length ≤ 20) && decide (x.text.size ≤ 60)
def few (L : List LeafM) : Bool := L.all small && decide (L.length ≤ 120)
/-- The numbers of a leaf are of 64 bits. -/
def H64 (L : List LeafM) : Prop := ∀ x ∈ L, In64 x.kind ∧ In64 x.num ∧ In64 x.frm ∧ In64 x.to ∧ ∀ t ∈ x.kids, In64 t
theorem few_sm {L : List LeafM} (h : few L = true) (h64 : H64 L) : SmT L := by
  unfold few at h
  rw [Bool.and_eq_true, decide_eq_true_eq, List.all_eq_true] at h
  refine ⟨by omega, fun x hx => ?_⟩
  have h1 := h.1 x hx
  unfold small at h1
  rw [Bool.and_eq_true, decide_eq_true_eq, decide_eq_true_eq] at h1
  obtain ⟨a, b, c, d, e⟩ := h64 x hx
  exact ⟨by omega, by omega, a, b, c, d, e⟩
end Sx

set_option maxRecDepth 100000 in
set_option maxHeartbeats 6400000 in
theorem Few_any (v : Value) (L : List LeafM) (root : Int) (r : Bool) (w : World) (hv : LsAt w v L) (hl : L.length ≤ 9223372036854775807) (hr : Hid (Sx.few L = r)) :
    Calls Tryd.prog 11 #[.agg #[v, .int .i64 root]] w fun e w' => e = .returned (.bool r) ∧ Below w.heap.size w w' := by
  obtain ⟨ad, cap, rfl⟩ := hv.slice
  obtain ⟨n, hn⟩ : ∃ n, L.length = n := ⟨_, rfl⟩
  rw [hn] at hv hl ⊢
  have hA := (Below.refl w.heap.size w).alloc (Nat.le_refl _) (treeO (.slice ad n cap) root)
  have t0 := World.alloc_heap_new w (treeO (.slice ad n cap) root)
  have hv2 := hv.keep hA (Nat.le_refl _)
  unfold treeO at hA t0 hv2
  have HA := Lib.hid hA
  have HT := Lib.hid t0
  have HV := Lib.hid hv2
  have HN := Lib.hid hn
  clear hv hA t0 hv2 hn
  go_enter Tryd.func11, Tryd.ntmps11
  go_wp2
  generalize w.alloc (.cells #[.slice ad n cap, .int .i64 root] 24) = W1 at HA HT HV ⊢
  go_loopw [3] (fun iv wr => ∃ c : Nat, c ≤ n ∧ iv = .int .i64 c ∧ Hid ((L.take c).all Sx.small = true) ∧ wr = W1) (fun iv _ => n - (intOf iv).toNat)
  case atStart => exact ⟨0, Nat.zero_le _, rfl, Lib.hid (by rw [List.take_zero]; rfl), rfl⟩
  case round =>
    obtain ⟨c, hc, rfl, HC, rfl⟩ := hrel
    have c0 : wr.cell? ⟨w.heap.size, 0, none⟩ = some (.slice ad n cap) := cell_at HT.out rfl
    by_cases hlt : c < n
    · have hcl : c < L.length := by rw [HN.out]; exact hlt
      obtain ⟨b, off, fa, fc, rfl, hbl, ⟨e0, e1, e2, e3, e4, e5⟩, hks⟩ := HV.out.at c hcl
      have hall : (L.take (c + 1)).all Sx.small = Sx.small L[c] := by rw [← List.take_append_getElem hcl, List.all_append, HC.out]; simp
      have hfr : Sx.small L[c] = false → r = false := fun h => by
        rw [← hr.out]
        unfold Sx.few
        have : L.all Sx.small = false := by
          rw [List.all_eq_false]
          exact ⟨L[c], List.getElem_mem _, by rw [h]; simp⟩
        rw [this]; rfl
      unfold Sx.small at hall hfr
      generalize L[c].kids.length = q at e3 hall hfr hks
      generalize L[c].text = tx at e1 hall hfr
      have h1 : (0 : Int) ≤ c := by omega
      have h2 : (c : Int) < n := by omega
      clear e0 e2 e4 e5 hks hcl hbl
      by_cases hq : q ≤ 20
      · have g1 : ¬ (20 : Int) < q := by omega
        rw [decide_eq_true hq, Bool.true_and] at hall hfr
        by_cases ht : tx.size ≤ 60
        · have g2 : ¬ (60 : Int) < tx.size := by omega
          rw [decide_eq_true ht] at hall
          have HAL := Lib.hid hall
          clear hall hfr
          go_wp2
          go_roundw
          case rel => exact ⟨c + 1, by omega, by go_num, HAL, trivial⟩
          case measure => simp [intOf]; omega
        · have g2 : (60 : Int) < tx.size := by omega
          obtain rfl : r = false := hfr (decide_eq_false ht)
          clear hall hfr
          go_wp2
          go_ret
          exact ⟨rfl, HA.out⟩
      · have g1 : (20 : Int) < q := by omega
        obtain rfl : r = false := hfr (by rw [decide_eq_false hq]; rfl)
        clear hall hfr
        go_wp2
        go_ret
        exact ⟨rfl, HA.out⟩
    · obtain rfl : n = c := by omega
      have hnn : ¬ (n : Int) < n := by omega
      have h := HC.out
      rw [List.take_of_length_le (by rw [HN.out]; exact Nat.le_refl _)] at h
      have HR : Hid (decide ((n : Int) ≤ 120) = r) := Lib.hid (by
        rw [← hr.out]
        unfold Sx.few
        rw [h, Bool.true_and, HN.out]
        exact decide_eq_decide.2 (by omega))
      clear h HC
      go_wp2
      go_ret
      exact ⟨by rw [← HR.out] <;> rfl, HA.out⟩

end Go.Proofs.YtpeihgbkolihgaaDoor
