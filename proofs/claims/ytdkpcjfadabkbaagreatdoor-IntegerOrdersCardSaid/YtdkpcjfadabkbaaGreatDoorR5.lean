/- The mathematics of the reference's Mul. -/
import Derived.Test.YtdkpcjfadabkbaaGreatDoorR1
set_option linter.unusedVariables false
set_option linter.unusedSimpArgs false
namespace Go.Proofs.YtdkpcjfadabkbaaGreatDoor
open Go.RowKit _root_.Go.Proofs.YtdkpcjfadabkbaaGreatDoor.Nm

theorem dval_append (xs ys : List Nat) : dval (xs ++ ys) = dval ys + 10 ^ ys.length * dval xs := by
  unfold dval; rw [List.reverse_append, vl_append, List.length_reverse]

theorem dval_lt (xs : List Nat) (h : ∀ x ∈ xs, x < 10) : dval xs < 10 ^ xs.length := by
  have := vl_lt 10 xs.reverse (fun x hx => h x (List.mem_reverse.1 hx))
  rwa [List.length_reverse] at this

theorem dval_zeros (n : Nat) : dval (List.replicate n 0) = 0 := by unfold dval; rw [List.reverse_replicate, vl_zeros]

theorem dval_set (os : List Nat) (p v : Nat) (h : p < os.length) : dval (os.set p v) + os[p] * 10 ^ (os.length - 1 - p) = dval os + v * 10 ^ (os.length - 1 - p) := by
  have e1 : os = os.take p ++ (os[p] :: os.drop (p + 1)) := by rw [List.getElem_cons_drop, List.take_append_drop]
  have e2 : os.set p v = os.take p ++ (v :: os.drop (p + 1)) := by
    conv => lhs; rw [e1]
    rw [List.set_append_right _ _ (by rw [List.length_take]; omega), List.length_take, Nat.min_eq_left (by omega), Nat.sub_self]
    rfl
  have e3 : (os.drop (p + 1)).length = os.length - 1 - p := by rw [List.length_drop]; omega
  have v1 : dval os = dval (os.drop (p + 1)) + 10 ^ (os.length - 1 - p) * os[p] + 10 ^ (os.length - 1 - p + 1) * dval (os.take p) := by
    conv => lhs; rw [e1]
    rw [dval_append, dval_cons, List.length_cons, e3]
  have v2 : dval (os.set p v) = dval (os.drop (p + 1)) + 10 ^ (os.length - 1 - p) * v + 10 ^ (os.length - 1 - p + 1) * dval (os.take p) := by
    rw [e2, dval_append, dval_cons, List.length_cons, e3]
  rw [v1, v2, Nat.mul_comm os[p], Nat.mul_comm v]
  omega

theorem set_lt (os : List Nat) (p v : Nat) (h : ∀ x ∈ os, x < 10) (hv : v < 10) : ∀ x ∈ os.set p v, x < 10 := by
  intro x hx
  rcases List.mem_or_eq_of_mem_set hx with h1 | h1
  · exact h x h1
  · omega

/-- The state of the carrying: T is what the row has to become. -/
structure Cy (L T : Nat) (os : List Nat) (p x : Nat) : Prop where
  len : os.length = L
  lt : ∀ y ∈ os, y < 10
  at' : p < L
  x9 : x ≤ 9
  val : dval os + x * (10 * 10 ^ (L - 1 - p)) = T
  top : T < 10 ^ L

theorem Cy.start {L V p x : Nat} {os : List Nat} (hl : os.length = L) (hlt : ∀ y ∈ os, y < 10) (hp : p < L) (hx : x ≤ 99) (o : Nat) (ho : os[p]? = some o) (hxo : o ≤ x) (hT : V + x * 10 ^ (L - 1 - p) = dval os + x * 10 ^ (L - 1 - p)) (htop : dval os + (x - o) * 10 ^ (L - 1 - p) < 10 ^ L) :
    Cy L (dval os + (x - o) * 10 ^ (L - 1 - p)) (os.set p (x % 10)) p (x / 10) := by
  have hpo : p < os.length := by omega
  have ho' : os[p] = o := by rw [List.getElem?_eq_getElem hpo] at ho; exact Option.some.inj ho
  refine ⟨by simp [hl], set_lt _ _ _ hlt (Nat.mod_lt _ (by omega)), hp, by omega, ?_, htop⟩
  have h1 := dval_set os p (x % 10) hpo
  rw [ho', hl] at h1
  generalize 10 ^ (L - 1 - p) = P at *
  have e1 : x / 10 * (10 * P) = (10 * (x / 10)) * P := by rw [← Nat.mul_assoc, Nat.mul_comm (x / 10) 10]
  have e2 : (x % 10 + 10 * (x / 10)) * P = x * P := by rw [Nat.mod_add_div]
  rw [Nat.add_mul] at e2
  rw [e1, Nat.sub_mul]
  have e3 : o * P ≤ x * P := Nat.mul_le_mul_right _ hxo
  omega

/-- There is a place for what is carried. -/
theorem Cy.room {L T p x : Nat} {os : List Nat} (h : Cy L T os p x) (hx : 0 < x) : 0 < p := by
  rcases Nat.eq_zero_or_pos p with h0 | h0
  · exfalso
    obtain ⟨h1, h2, h3, h4, h5, h6⟩ := h
    subst h0
    have e : 10 * 10 ^ (L - 1 - 0) = 10 ^ L := by
      rw [Nat.mul_comm, ← Nat.pow_succ]
      congr 1
      omega
    rw [e] at h5
    have : 1 * 10 ^ L ≤ x * 10 ^ L := Nat.mul_le_mul_right _ hx
    omega
  · exact h0

theorem Cy.next {L T p x o : Nat} {os : List Nat} (h : Cy L T os (p + 1) x) (ho : os[p]? = some o) : Cy L T (os.set p ((x + o) % 10)) p ((x + o) / 10) ∧ o < 10 := by
  obtain ⟨h1, h2, h3, h4, h5, h6⟩ := h
  have hpo : p < os.length := by omega
  have ho' : os[p] = o := by rw [List.getElem?_eq_getElem hpo] at ho; exact Option.some.inj ho
  have ho10 : o < 10 := by rw [← ho']; exact h2 _ (List.getElem_mem hpo)
  refine ⟨⟨by simp [h1], set_lt _ _ _ h2 (Nat.mod_lt _ (by omega)), by omega, by omega, ?_, h6⟩, ho10⟩
  have e0 : 10 * 10 ^ (L - 1 - (p + 1)) = 10 ^ (L - 1 - p) := by
    rw [Nat.mul_comm, ← Nat.pow_succ]
    congr 1
    omega
  rw [e0] at h5
  have h7 := dval_set os p ((x + o) % 10) hpo
  rw [ho', h1] at h7
  generalize 10 ^ (L - 1 - p) = P at *
  have e1 : (x + o) / 10 * (10 * P) = (10 * ((x + o) / 10)) * P := by rw [← Nat.mul_assoc, Nat.mul_comm ((x + o) / 10) 10]
  have e2 : ((x + o) % 10 + 10 * ((x + o) / 10)) * P = (x + o) * P := by rw [Nat.mod_add_div]
  rw [Nat.add_mul, Nat.add_mul] at e2
  rw [e1]
  omega

theorem Cy.done {L T p : Nat} {os : List Nat} (h : Cy L T os p 0) : dval os = T := by have := h.val; omega

/-- What a row of digits has become when i and k are next. -/
def mulVal (xs ys : List Nat) (i k : Nat) : Nat := dval (xs.drop (i + 1)) * dval ys + (xs[i]?).getD 0 * 10 ^ (xs.length - 1 - i) * dval (ys.drop k)

theorem mulVal_start (xs ys : List Nat) (i : Nat) : mulVal xs ys i ys.length = dval (xs.drop (i + 1)) * dval ys := by
  unfold mulVal; rw [List.drop_of_length_le (Nat.le_refl _)]; simp [dval_nil]

theorem mulVal_step (xs ys : List Nat) (i k : Nat) (hi : i < xs.length) (hk : k < ys.length) :
    mulVal xs ys i k = mulVal xs ys i (k + 1) + xs[i] * ys[k] * 10 ^ (xs.length + ys.length - 1 - (i + k + 1)) := by
  unfold mulVal
  rw [List.drop_eq_getElem_cons hk, dval_cons, List.length_drop, List.getElem?_eq_getElem hi]
  have e : 10 ^ (xs.length + ys.length - 1 - (i + k + 1)) = 10 ^ (xs.length - 1 - i) * 10 ^ (ys.length - (k + 1)) := by
    rw [← Nat.pow_add]
    congr 1
    omega
  rw [e]
  simp only [Option.getD_some]
  generalize 10 ^ (xs.length - 1 - i) = P
  generalize 10 ^ (ys.length - (k + 1)) = Q
  grind

theorem mulVal_end (xs ys : List Nat) (i : Nat) (hi : i < xs.length) : mulVal xs ys i 0 = dval (xs.drop i) * dval ys := by
  unfold mulVal
  rw [List.drop_zero, List.drop_eq_getElem_cons hi, dval_cons, List.length_drop, List.getElem?_eq_getElem hi, show xs.length - 1 - i = xs.length - (i + 1) from by omega]
  simp only [Option.getD_some]
  generalize 10 ^ (xs.length - (i + 1)) = P
  grind

theorem mulVal_lt (xs ys : List Nat) (hx : ∀ x ∈ xs, x < 10) (hy : ∀ y ∈ ys, y < 10) (i k : Nat) (hi : i < xs.length) (hk : k ≤ ys.length) : mulVal xs ys i k < 10 ^ (xs.length + ys.length) := by
  have h1 : mulVal xs ys i k ≤ mulVal xs ys i 0 := by
    unfold mulVal
    refine Nat.add_le_add_left (Nat.mul_le_mul_left _ ?_) _
    have := dval_append (ys.take k) (ys.drop k)
    rw [List.take_append_drop] at this
    rw [List.drop_zero]
    omega
  rw [mulVal_end xs ys i hi] at h1
  have h2 := dval_lt ys hy
  have h3 := dval_lt (xs.drop i) (fun x h => hx x (List.mem_of_mem_drop h))
  have h4 : 10 ^ (xs.drop i).length ≤ 10 ^ xs.length := Nat.pow_le_pow_right (by omega) (by rw [List.length_drop]; omega)
  rw [Nat.pow_add]
  have h5 : dval (xs.drop i) * dval ys < 10 ^ xs.length * 10 ^ ys.length := Nat.mul_lt_mul'' (by omega) h2
  omega

end Go.Proofs.YtdkpcjfadabkbaaGreatDoor
