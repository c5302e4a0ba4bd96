/- What token.same does, and slices.EqualFunc with it, at equal rows. -/
import Derived.Test.YtpoddcegfhgdeaaDoorYH
import Derived.Test.YtpoddcegfhgdeaaDoorYQ
set_option linter.unusedVariables false
set_option linter.unusedSimpArgs false
namespace Go.Proofs.YtpoddcegfhgdeaaDoor
open Go.RowKit

set_option maxRecDepth 100000 in
set_option maxHeartbeats 3200000 in
theorem same_eq (k : Int) (s : ByteArray) (a b c d : Int) (w : World) : Calls Tryd.prog 33 #[.agg #[.int .i64 k, .string s, .int .i64 a, .int .i64 b], .agg #[.int .i64 k, .string s, .int .i64 c, .int .i64 d]] w fun e w' => e = .returned (.bool true) ∧ Below w.heap.size w w' := by
  go_enter Tryd.func33, Tryd.ntmps33
  go_wp2
  go_ret
  exact ⟨rfl, ((Below.refl w.heap.size w).alloc (Nat.le_refl _) _).alloc (by simp) _⟩

/-- A row of tokens as it can be read: kinds and texts. -/
def KRow (W : World) (v : Value) (X : List (Nat × ByteArray)) : Prop :=
  ∃ ad cap, v = .slice ad X.length cap ∧ ∀ (i : Nat) (h : i < X.length), ∃ g a b : Nat, ad = some ⟨g, 0, none⟩ ∧ g < W.heap.size ∧ W.cell? ⟨g, i * 4, none⟩ = some (.int .i64 X[i].1) ∧ W.cell? ⟨g, i * 4 + 1, none⟩ = some (.string X[i].2) ∧ W.cell? ⟨g, i * 4 + 2, none⟩ = some (.int .i64 a) ∧ W.cell? ⟨g, i * 4 + 3, none⟩ = some (.int .i64 b)

set_option maxRecDepth 100000 in
set_option maxHeartbeats 12800000 in
theorem equal_rows (u v : Value) (X : List (Nat × ByteArray)) (w : World) (hu : KRow w u X) (hv : KRow w v X) (hX : X.length ≤ 1000000) :
    Calls Tryd.prog 32 #[u, v, .func (.func 33) #[] #[]] w fun e w' => e = .returned (.bool true) ∧ Below w.heap.size w w' := by
  obtain ⟨ad, cap, rfl, hu⟩ := hu
  obtain ⟨bd, cap2, rfl, hv⟩ := hv
  obtain ⟨n, hn⟩ : ∃ n, X.length = n := ⟨_, rfl⟩
  rw [hn]
  have HU := Lib.hid hu
  have HV := Lib.hid hv
  rw [hn] at hX
  have HN := Lib.hid hn
  clear hu hv hn
  go_enter Tryd.func32, Tryd.ntmps32
  go_wp2
  go_loopw [17] (fun i wr => ∃ k : Nat, k ≤ n ∧ i = .int .i64 k ∧ Hid (Below w.heap.size w wr)) (fun i _ => n - (intOf i).toNat)
  case atStart => exact ⟨0, Nat.zero_le _, rfl, Lib.hid (Below.refl _ _)⟩
  case round =>
    obtain ⟨k, hk, rfl, HW⟩ := hrel
    by_cases hlt : k < n
    · have h1 : k < X.length := by rw [HN.out]; exact hlt
      obtain ⟨g, a, b, rfl, hg, c0, c1, c2, c3⟩ := HU.out k h1
      obtain ⟨g2, a2, b2, rfl, hg2, d0, d1, d2, d3⟩ := HV.out k h1
      obtain ⟨kd, hkd⟩ : ∃ X', X[k].1 = X' := ⟨_, rfl⟩
      obtain ⟨tx, htx⟩ : ∃ X', X[k].2 = X' := ⟨_, rfl⟩
      rw [hkd] at c0 d0
      rw [htx] at c1 d1
      have e0 := (HW.out.cell (p := ⟨g, k * 4, none⟩) hg).trans c0
      have e1 := (HW.out.cell (p := ⟨g, k * 4 + 1, none⟩) hg).trans c1
      have e2 := (HW.out.cell (p := ⟨g, k * 4 + 2, none⟩) hg).trans c2
      have e3 := (HW.out.cell (p := ⟨g, k * 4 + 3, none⟩) hg).trans c3
      have f0 := (HW.out.cell (p := ⟨g2, k * 4, none⟩) hg2).trans d0
      have f1 := (HW.out.cell (p := ⟨g2, k * 4 + 1, none⟩) hg2).trans d1
      have f2 := (HW.out.cell (p := ⟨g2, k * 4 + 2, none⟩) hg2).trans d2
      have f3 := (HW.out.cell (p := ⟨g2, k * 4 + 3, none⟩) hg2).trans d3
      have hi1 : (k : Int) < n := by omega
      have hgw1 : g < wr.heap.size := Nat.lt_of_lt_of_le hg HW.out.size
      have hgw2 : g2 < wr.heap.size := Nat.lt_of_lt_of_le hg2 HW.out.size
      clear c0 c1 c2 c3 d0 d1 d2 d3 hkd htx h1
      have hA := (HW.out.alloc HW.out.size (.cells #[.int .i64 kd, .string tx, .int .i64 a, .int .i64 b] 37)).alloc (Nat.le_trans HW.out.size (by simp)) (.cells #[.int .i64 kd, .string tx, .int .i64 a2, .int .i64 b2] 37)
      have HA := Lib.hid hA
      clear hA
      go_wp2_with fail
      refine (same_eq kd tx a b a2 b2 _).mono ?_
      rintro e w2 ⟨rfl, hb⟩
      have HW2 := Lib.hid (HA.out.trans (hb.mono HA.out.size))
      clear hb e0 e1 e2 e3 f0 f1 f2 f3
      go_wp2
      go_roundw
      case rel => exact ⟨k + 1, by omega, by go_num, HW2⟩
      case measure => simp [intOf]; omega
    · obtain rfl : n = k := by omega
      have hnn : ¬ (n : Int) < n := by omega
      go_wp2
      go_ret
      exact ⟨rfl, HW.out⟩

end Go.Proofs.YtpoddcegfhgdeaaDoor
