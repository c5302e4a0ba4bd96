/- The mathematics of the long division. -/
import Derived.Test.YtdkpcjfadabkbaaDoorD4
set_option linter.unusedVariables false
set_option linter.unusedSimpArgs false
namespace Go.Proofs.YtdkpcjfadabkbaaDoor
open Go.RowKit _root_.Go.Proofs.YtdkpcjfadabkbaaDoor.Nm

/-- The factor by which both numbers are multiplied. -/
theorem scale_fits (y : Nat) (hy : y < 1000000000) : 1 ≤ 1000000000 / (y + 1) ∧ 1000000000 / (y + 1) * (y + 1) ≤ 1000000000 :=
  ⟨(Nat.le_div_iff_mul_le (by omega)).2 (by omega), Nat.div_mul_le_self _ _⟩

/-- What has been done when the positions from p on are done. -/
structure LongInv (A D la p : Nat) (Rl Q : List Nat) : Prop where
  len : Rl.length = la + 1
  lt : ∀ x ∈ Rl, x < 1000000000
  qlt : ∀ x ∈ Q, x < 1000000000
  sum : vl 1000000000 Rl + 1000000000 ^ p * (vl 1000000000 Q * D) = A
  small : vl 1000000000 (Rl.drop p) < D

theorem LongInv.start (a sc b la n p : Nat) (Rl : List Nat) (hla : a < 1000000000 ^ la) (hb : 1000000000 ^ n ≤ b) (hp : p + n = la) (hsc : 0 < sc) (hlen : Rl.length = la + 1) (hlt : ∀ x ∈ Rl, x < 1000000000) (hv : vl 1000000000 Rl = a * sc) :
    LongInv (a * sc) (b * sc) la p Rl [] := by
  refine ⟨hlen, hlt, by simp, by rw [hv]; simp [vl], ?_⟩
  have h1 := vl_split Rl p (by omega)
  rw [hv] at h1
  have h2 : 1000000000 ^ p * (1000000000 ^ n * sc) ≤ 1000000000 ^ p * (b * sc) := Nat.mul_le_mul_left _ (Nat.mul_le_mul_right _ hb)
  have h3 : 1000000000 ^ p * (1000000000 ^ n * sc) = 1000000000 ^ la * sc := by rw [← Nat.mul_assoc, ← Nat.pow_add, hp]
  have h4 : a * sc < 1000000000 ^ la * sc := Nat.mul_lt_mul_of_pos_right hla hsc
  have h5 : 1000000000 ^ p * vl 1000000000 (Rl.drop p) < 1000000000 ^ p * (b * sc) := by omega
  exact Nat.lt_of_mul_lt_mul_left h5

/-- The limbs behind the window are zeros. -/
theorem behind_zero (xs : List Nat) (k : Nat) (D : Nat) (h : vl 1000000000 xs < D) (hD : D ≤ 1000000000 ^ k) : vl 1000000000 (xs.drop k) = 0 := by
  by_cases hk : k ≤ xs.length
  · have h1 := vl_split xs k hk
    rcases Nat.eq_zero_or_pos (vl 1000000000 (xs.drop k)) with h0 | h0
    · exact h0
    · have : 1000000000 ^ k * 1 ≤ 1000000000 ^ k * vl 1000000000 (xs.drop k) := Nat.mul_le_mul_left _ h0
      omega
  · rw [List.drop_of_length_le (by omega)]; rfl

theorem win_lt (x v W T D : Nat) (h2 : W = x + 1000000000 * v) (h3 : x < 1000000000) (h4 : v < D) (h5 : W = T) : T < 1000000000 * D := by omega

theorem LongInv.window {A D la p lb : Nat} {Rl Q : List Nat} (h : LongInv A D la (p + 1) Rl Q) (hD : D ≤ 1000000000 ^ lb) (hp : p + lb + 1 ≤ la + 1) :
    Rl = Rl.take p ++ (Rl.drop p).take (lb + 1) ++ Rl.drop (p + lb + 1) ∧ (Rl.take p).length = p ∧ ((Rl.drop p).take (lb + 1)).length = lb + 1 ∧ vl 1000000000 (Rl.drop (p + lb + 1)) = 0 ∧
    vl 1000000000 ((Rl.drop p).take (lb + 1)) < 1000000000 * D := by
  have hl := h.len
  have e1 : Rl = Rl.take p ++ (Rl.drop p).take (lb + 1) ++ Rl.drop (p + lb + 1) := by
    conv => lhs; rw [← List.take_append_drop p Rl]
    conv => lhs; rw [← List.take_append_drop (lb + 1) (Rl.drop p)]
    rw [List.append_assoc, List.drop_drop, show p + (lb + 1) = p + lb + 1 from by omega]
  have hz : vl 1000000000 (Rl.drop (p + lb + 1)) = 0 := by
    have := behind_zero (Rl.drop (p + 1)) lb D h.small hD
    rwa [List.drop_drop, show p + 1 + lb = p + lb + 1 from by omega] at this
  refine ⟨e1, by rw [List.length_take]; omega, by rw [List.length_take, List.length_drop]; omega, hz, ?_⟩
  have h1 : Rl.drop p = Rl[p] :: Rl.drop (p + 1) := List.drop_eq_getElem_cons (by omega)
  have h2 : vl 1000000000 (Rl.drop p) = Rl[p] + 1000000000 * vl 1000000000 (Rl.drop (p + 1)) := by rw [h1, vl]
  have h3 := h.lt Rl[p] (List.getElem_mem _)
  have h4 := h.small
  have h5 : vl 1000000000 (Rl.drop p) = vl 1000000000 ((Rl.drop p).take (lb + 1)) := by
    have := vl_split (Rl.drop p) (lb + 1) (by rw [List.length_drop]; omega)
    rw [List.drop_drop, show p + (lb + 1) = p + lb + 1 from by omega, hz, Nat.mul_zero, Nat.add_zero] at this
    exact this
  exact win_lt _ _ _ _ D h2 h3 h4 h5

theorem LongInv.step {A D la p lb : Nat} {Rl Q R' : List Nat} (h : LongInv A D la (p + 1) Rl Q) (hD0 : 0 < D) (hD : D ≤ 1000000000 ^ lb) (hp : p + lb + 1 ≤ la + 1) (hR : R'.length = lb + 1) (hRl : ∀ z ∈ R', z < 1000000000)
    (hv : vl 1000000000 R' = vl 1000000000 ((Rl.drop p).take (lb + 1)) % D) :
    LongInv A D la p (Rl.take p ++ R' ++ Rl.drop (p + lb + 1)) (vl 1000000000 ((Rl.drop p).take (lb + 1)) / D :: Q) ∧ vl 1000000000 ((Rl.drop p).take (lb + 1)) / D < 1000000000 := by
  obtain ⟨e1, l1, l2, hz, hw⟩ := h.window hD hp
  have hl := h.len
  have hq : vl 1000000000 ((Rl.drop p).take (lb + 1)) / D < 1000000000 := by rw [Nat.div_lt_iff_lt_mul hD0]; exact hw
  have hdm := Nat.div_add_mod (vl 1000000000 ((Rl.drop p).take (lb + 1))) D
  have hm := Nat.mod_lt (vl 1000000000 ((Rl.drop p).take (lb + 1))) hD0
  have hs := h.sum
  have hv1 : vl 1000000000 Rl = vl 1000000000 (Rl.take p) + 1000000000 ^ p * vl 1000000000 ((Rl.drop p).take (lb + 1)) := by
    conv => lhs; rw [e1]
    rw [vl_append, vl_append, hz, l1]; simp
  have hv2 : vl 1000000000 (Rl.take p ++ R' ++ Rl.drop (p + lb + 1)) = vl 1000000000 (Rl.take p) + 1000000000 ^ p * vl 1000000000 R' := by
    rw [vl_append, vl_append, hz, l1]; simp
  have hd : (Rl.take p ++ R' ++ Rl.drop (p + lb + 1)).drop p = R' ++ Rl.drop (p + lb + 1) := by
    rw [List.append_assoc]
    exact List.drop_left' l1
  refine ⟨⟨by rw [List.length_append, List.length_append, l1, hR, List.length_drop]; omega, ?_, ?_, ?_, ?_⟩, hq⟩
  · intro x hx
    rcases List.mem_append.1 hx with hx | hx
    · rcases List.mem_append.1 hx with hx | hx
      · exact h.lt x (List.mem_of_mem_take hx)
      · exact hRl x hx
    · exact h.lt x (List.mem_of_mem_drop hx)
  · intro x hx
    rcases List.mem_cons.1 hx with rfl | hx
    · exact hq
    · exact h.qlt x hx
  · rw [hv2, hv]
    rw [hv1, Nat.pow_succ] at hs
    rw [vl]
    generalize vl 1000000000 ((Rl.drop p).take (lb + 1)) = W at *
    generalize W / D = q at *
    generalize W % D = r at *
    generalize vl 1000000000 Q = v at *
    generalize 1000000000 ^ p = X at *
    subst hdm
    rw [← hs]
    grind
  · rw [hd, vl_append, hz, hv]
    simpa using hm

theorem LongInv.done {a b sc la : Nat} {Rl Q : List Nat} (h : LongInv (a * sc) (b * sc) la 0 Rl Q) (hsc : 0 < sc) (hb : 0 < b) : vl 1000000000 Q = a / b ∧ vl 1000000000 Rl / sc = a % b := by
  have h1 := h.sum
  have h2 := h.small
  rw [List.drop_zero] at h2
  rw [Nat.pow_zero, Nat.one_mul] at h1
  have hpos : 0 < b * sc := Nat.mul_pos hb hsc
  have e1 : (a * sc) / (b * sc) = vl 1000000000 Q := by
    rw [← h1, Nat.add_mul_div_right _ _ hpos, Nat.div_eq_of_lt h2, Nat.zero_add]
  have e2 : (a * sc) % (b * sc) = vl 1000000000 Rl := by
    rw [← h1, Nat.add_mul_mod_self_right, Nat.mod_eq_of_lt h2]
  rw [Nat.mul_div_mul_right _ _ hsc] at e1
  rw [Nat.mul_mod_mul_right] at e2
  exact ⟨e1.symm, by rw [← e2, Nat.mul_div_cancel _ hsc]⟩

end Go.Proofs.YtdkpcjfadabkbaaDoor
