/- The mathematics of reduce: the estimate is never too small, and going down from it one comes to the quotient. -/
import Derived.Test.YtdkpcjfadabkbaaDoorD2
set_option linter.unusedVariables false
set_option linter.unusedSimpArgs false
namespace Go.Proofs.YtdkpcjfadabkbaaDoor
open Go.RowKit _root_.Go.Proofs.YtdkpcjfadabkbaaDoor.Nm

theorem vl_split (xs : List Nat) (k : Nat) (hk : k ≤ xs.length) : vl 1000000000 xs = vl 1000000000 (xs.take k) + 1000000000 ^ k * vl 1000000000 (xs.drop k) := by
  conv => lhs; rw [← List.take_append_drop k xs]
  rw [vl_append, List.length_take, Nat.min_eq_left hk]

theorem est_le (R ys : List Nat) (n : Nat) (hR : R.length = n + 1 + 1) (hy : ys.length = n + 1) (hRl : ∀ x ∈ R, x < 1000000000) (hlt : vl 1000000000 R < 1000000000 * vl 1000000000 ys) (htop : 0 < ys[n]) :
    vl 1000000000 R / vl 1000000000 ys ≤ min ((R[n + 1] * 1000000000 + R[n]) / ys[n]) 999999999 := by
  have h1 := vl_split ys n (by omega)
  rw [List.drop_eq_getElem_cons (show n < ys.length by omega), List.drop_of_length_le (by omega), show vl 1000000000 [ys[n]] = ys[n] from by simp [vl]] at h1
  have h2 := vl_split R n (by omega)
  rw [List.drop_eq_getElem_cons (show n < R.length by omega), List.drop_eq_getElem_cons (show n + 1 < R.length by omega), List.drop_of_length_le (by omega), show vl 1000000000 [R[n], R[n + 1]] = R[n] + 1000000000 * R[n + 1] from by simp [vl]] at h2
  have h3 := vl_lt 1000000000 (R.take n) (fun x hx => hRl x (List.mem_of_mem_take hx))
  rw [List.length_take, Nat.min_eq_left (by omega)] at h3
  have hP : 0 < 1000000000 ^ n := Nat.pow_pos (by omega)
  generalize hV : vl 1000000000 ys = V at *
  generalize hW : vl 1000000000 R = W at *
  generalize 1000000000 ^ n = P at *
  generalize ys[n] = y at *
  generalize hq : W / V = q
  have hV0 : 0 < V := by
    have : 1 * 1 ≤ P * y := Nat.mul_le_mul hP htop
    omega
  have h4 : q * V ≤ W := by rw [← hq]; exact Nat.div_mul_le_self W V
  rw [Nat.le_min]
  refine ⟨?_, ?_⟩
  · rw [Nat.le_div_iff_mul_le htop]
    have h5 : q * (P * y) ≤ q * V := Nat.mul_le_mul_left _ (by omega)
    have h6 : P * (q * y) < P * (R[n] + 1000000000 * R[n + 1] + 1) := by
      rw [Nat.mul_add P, Nat.mul_one, show P * (q * y) = q * (P * y) from by rw [← Nat.mul_assoc, ← Nat.mul_assoc, Nat.mul_comm P q]]
      omega
    have h7 := Nat.lt_of_mul_lt_mul_left h6
    omega
  · have : q < 1000000000 := by rw [← hq, Nat.div_lt_iff_lt_mul hV0]; exact hlt
    omega

/-- Where the going down ends. -/
theorem down_end (W V t : Nat) (T : Int) (hq : W / V ≤ t) (hV : 0 < V) (hT : T = (W : Int) - (t : Int) * V) (h0 : 0 ≤ T) : t = W / V ∧ T = (W % V : Nat) := by
  have h1 : t * V ≤ W := by
    have : ((t * V : Nat) : Int) = (t : Int) * V := by simp
    omega
  have h2 : t ≤ W / V := (Nat.le_div_iff_mul_le hV).2 h1
  have h3 : t = W / V := Nat.le_antisymm h2 hq
  refine ⟨h3, ?_⟩
  have h4 := Nat.div_add_mod W V
  rw [← h3, Nat.mul_comm] at h4
  have : ((t * V : Nat) : Int) = (t : Int) * V := by simp
  omega

/-- While the difference is below 0, the quotient is not reached. -/
theorem down_more (W V t : Nat) (T : Int) (hq : W / V ≤ t) (hV : 0 < V) (hT : T = (W : Int) - (t : Int) * V) (h0 : T < 0) : W / V < t ∧ T + V = (W : Int) - ((t - 1 : Nat) : Int) * V := by
  have h1 : W / V < t := by
    rcases Nat.lt_or_ge (W / V) t with h | h
    · exact h
    · have h3 : t = W / V := Nat.le_antisymm h hq
      have h4 : t * V ≤ W := by have h5 := Nat.div_mul_le_self W V; rwa [← h3] at h5
      have : ((t * V : Nat) : Int) = (t : Int) * V := by simp
      exfalso
      clear hq h3 h
      omega
  refine ⟨h1, ?_⟩
  have ht0 : 0 < t := Nat.lt_of_le_of_lt (Nat.zero_le _) h1
  obtain ⟨u, rfl⟩ : ∃ u, t = u + 1 := ⟨t - 1, by clear hq h1; omega⟩
  rw [hT, Nat.add_sub_cancel, Int.natCast_add, Int.add_mul]
  omega

end Go.Proofs.YtdkpcjfadabkbaaDoor
