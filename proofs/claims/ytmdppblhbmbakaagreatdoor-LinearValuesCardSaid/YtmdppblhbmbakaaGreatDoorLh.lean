/- The mathematics of Lehmer's steps: what the leading digits say of the numbers. Nothing of the program. -/
import Derived.Lib.ItoaNum
namespace Go.Proofs.YtmdppblhbmbakaaGreatDoor.Nm

theorem lead_pos (y T u v c al be : Int) (hT : 0 ≤ T) (hu : 0 ≤ u) (hv : 0 ≤ v) (hvc : v ≤ c) (hcy : c ≤ y) (hbe : 0 ≤ be) (hal : al ≤ T) : 0 ≤ y * T + u * be - v * al := by
  have h1 : 0 ≤ u * be := Int.mul_nonneg hu hbe
  have h2 : v * al ≤ v * T := Int.mul_le_mul_of_nonneg_left hal hv
  have h3 : v * T ≤ y * T := Int.mul_le_mul_of_nonneg_right (Int.le_trans hvc hcy) hT
  omega

/-- The cofactors of two remainders in a row of Euclid's algorithm for X and Y, with their signs: s p, - s q, and - s p', s q'. -/
structure Cof (X Y x y s p q p' q' : Int) : Prop where
  sign : s = 1 ∨ s = -1
  det : p * q' - q * p' = s
  hx : x = s * (p * X - q * Y)
  hy : y = s * (q' * Y - p' * X)
  p0 : 0 ≤ p
  q0 : 0 ≤ q
  p0' : 0 ≤ p'
  q1' : 1 ≤ q'
  pq' : p' ≤ q'
  qq : q ≤ q'
  pq : p ≤ q'
  pp : p + p' ≤ q + q'
  one : 1 ≤ p + p'
  later : q = 0 ∨ (1 ≤ p' ∧ p ≤ q)
  whole : q' * x + q * y = X
  y0 : 0 ≤ y
  xy : y ≤ x

theorem Cof.start (X Y : Int) (h0 : 0 ≤ Y) (h : Y ≤ X) : Cof X Y X Y 1 1 0 0 1 :=
  ⟨.inl rfl, by omega, by omega, by omega, by omega, by omega, by omega, by omega, by omega, by omega, by omega, by omega, by omega, .inl rfl, by omega, h0, h⟩

theorem Cof.bounds {X Y x y s p q p' q' : Int} (h : Cof X Y x y s p q p' q') (hy : 0 < y) : q' ≤ X ∧ p' ≤ X ∧ q ≤ X ∧ p ≤ X := by
  have h1 : q' * 1 ≤ q' * x := Int.mul_le_mul_of_nonneg_left (by have := h.xy; omega) (by have := h.q1'; omega)
  have h2 : 0 ≤ q * y := Int.mul_nonneg h.q0 h.y0
  have := h.whole; have := h.pq'; have := h.qq; have := h.pq
  omega

/-- One step of Euclid's algorithm. -/
theorem Cof.step {X Y x y s p q p' q' : Int} (h : Cof X Y x y s p q p' q') (hy : 0 < y) :
    Cof X Y y (x % y) (-s) p' q' (p + (x / y) * p') (q + (x / y) * q') ∧ 0 ≤ (x / y) * q' ∧ (x / y) * q' ≤ X ∧ 0 ≤ (x / y) * p' ∧ (x / y) * p' ≤ X ∧ q + (x / y) * q' ≤ X ∧ p + (x / y) * p' ≤ X ∧ 1 ≤ x / y := by
  have hQ : 1 ≤ x / y := (Int.le_ediv_iff_mul_le hy).2 (by have := h.xy; omega)
  have hm : x % y = x - y * (x / y) := by have := Int.mul_ediv_add_emod x y; omega
  have hm0 := Int.emod_nonneg x (b := y) (by omega)
  have hm1 := Int.emod_lt_of_pos x hy
  generalize x / y = Q at *
  generalize x % y = r at *
  obtain ⟨h1, h2, h3, h4, h5, h6, h7, h8, h9, h10, h11, h12, h13, h14, h15, h16, h17⟩ := h
  have a1 : 1 * q' ≤ Q * q' := Int.mul_le_mul_of_nonneg_right hQ (by omega)
  have a2 : 1 * p' ≤ Q * p' := Int.mul_le_mul_of_nonneg_right hQ (by omega)
  have a3 : (Q - 1) * p' ≤ (Q - 1) * q' := Int.mul_le_mul_of_nonneg_left h9 (by omega)
  have e1 : (Q - 1) * p' = Q * p' - p' := by grind
  have e2 : (Q - 1) * q' = Q * q' - q' := by grind
  have w : (q + Q * q') * y + q' * r = X := by grind
  have b1 : (q + Q * q') * 1 ≤ (q + Q * q') * y := Int.mul_le_mul_of_nonneg_left (by omega) (by omega)
  have b2 : 0 ≤ q' * r := Int.mul_nonneg (by omega) hm0
  refine ⟨⟨by omega, by grind, by grind, ?_, h7, by omega, by omega, by omega, by omega, by omega, by omega, by omega, by omega, .inr ⟨by omega, h9⟩, w, hm0, by omega⟩, by omega, by omega, by omega, by omega, by omega, by omega, hQ⟩
  subst h4 h3
  rcases h1 with rfl | rfl <;> grind

/-- What the condition of Collins gives: the cofactors are short, and with the whole numbers, too, they yield two remainders with the same common divisors. -/
theorem Cof.short {X Y x y s p q p' q' : Int} (h : Cof X Y x y s p q p' q') (c1 : q' ≤ y) (c2 : q + q' ≤ x - y) (hX : X < 1000000000000000000) : q' < 1000000000 ∧ p' < 1000000000 ∧ q < 1000000000 ∧ p < 1000000000 := by
  obtain ⟨h1, h2, h3, h4, h5, h6, h7, h8, h9, h10, h11, h12, h13, h14, h15, h16, h17⟩ := h
  have a1 : q' * (2 * q') ≤ q' * x := Int.mul_le_mul_of_nonneg_left (by omega) (by omega)
  have a2 : 0 ≤ q * y := Int.mul_nonneg h6 h16
  have a3 : q' < 1000000000 := by
    rcases Int.lt_or_le q' 1000000000 with h | h
    · exact h
    · have : 1000000000 * (2 * 1000000000) ≤ q' * (2 * q') := Int.mul_le_mul h (by omega) (by omega) (by omega)
      omega
  omega

theorem Cof.lehmer {X Y x y s p q p' q' : Int} (h : Cof X Y x y s p q p' q') (c1 : q' ≤ y) (c2 : q + q' ≤ x - y) (hq : q ≠ 0) (T al be a b : Int) (hT : 0 < T) (ha0 : 0 ≤ al) (ha1 : al < T) (hb0 : 0 ≤ be) (hb1 : be < T)
    (ha : a = X * T + al) (hb : b = Y * T + be) (hb2 : 0 < b) :
    ∃ R R' : Int, R = s * p * a + -(s * q) * b ∧ R' = -(s * p') * a + s * q' * b ∧ 0 ≤ R' ∧ R' ≤ R ∧ R ≤ a ∧ R + R' < a + b ∧ a = q' * R + q * R' ∧ b = p' * R + p * R' := by
  obtain ⟨h1, h2, h3, h4, h5, h6, h7, h8, h9, h10, h11, h12, h13, h14, h15, h16, h17⟩ := h
  have hq1 : 1 ≤ p' := by omega
  refine ⟨_, _, rfl, rfl, ?_⟩
  have k1 : 0 ≤ -(s * p') * a + s * q' * b := by
    rcases h1 with rfl | rfl
    · have := lead_pos y T q' p' q' al be (by omega) (by omega) h7 h9 c1 hb0 (by omega)
      have e : -(1 * p') * a + 1 * q' * b = y * T + q' * be - p' * al := by grind
      omega
    · have := lead_pos y T p' q' q' be al (by omega) h7 (by omega) (by omega) c1 ha0 (by omega)
      have e : -(-1 * p') * a + -1 * q' * b = y * T + p' * al - q' * be := by grind
      omega
  have k2 : -(s * p') * a + s * q' * b ≤ s * p * a + -(s * q) * b := by
    rcases h1 with rfl | rfl
    · have := lead_pos (x - y) T (p + p') (q + q') (q + q') be al (by omega) (by omega) (by omega) (by omega) c2 ha0 (by omega)
      have e : 1 * p * a + -(1 * q) * b - (-(1 * p') * a + 1 * q' * b) = (x - y) * T + (p + p') * al - (q + q') * be := by grind
      omega
    · have := lead_pos (x - y) T (q + q') (p + p') (q + q') al be (by omega) (by omega) (by omega) (by omega) c2 hb0 (by omega)
      have e : -1 * p * a + -(-1 * q) * b - (-(-1 * p') * a + -1 * q' * b) = (x - y) * T + (q + q') * be - (p + p') * al := by grind
      omega
  have k3 : a = q' * (s * p * a + -(s * q) * b) + q * (-(s * p') * a + s * q' * b) := by rcases h1 with rfl | rfl <;> grind
  have k4 : b = p' * (s * p * a + -(s * q) * b) + p * (-(s * p') * a + s * q' * b) := by rcases h1 with rfl | rfl <;> grind
  generalize s * p * a + -(s * q) * b = R at *
  generalize -(s * p') * a + s * q' * b = R' at *
  have m1 : 1 * R ≤ q' * R := Int.mul_le_mul_of_nonneg_right h8 (by omega)
  have m2 : 1 * R' ≤ q * R' := Int.mul_le_mul_of_nonneg_right (by omega) k1
  have m3 : 1 * R ≤ p' * R := Int.mul_le_mul_of_nonneg_right hq1 (by omega)
  have m4 : 0 ≤ p * R' := Int.mul_nonneg h5 k1
  refine ⟨k1, k2, by omega, ?_, k3, k4⟩
  by_cases hR : R = 0
  · subst hR
    have : R' = 0 := by omega
    subst this
    simp at k4
    omega
  · omega

theorem gcd_of (a b R R' u v u' v' c d c' d' : Int) (h1 : R = u * a + v * b) (h2 : R' = u' * a + v' * b) (h3 : a = c * R + d * R') (h4 : b = c' * R + d' * R') : Int.gcd R R' = Int.gcd a b := by
  apply Nat.dvd_antisymm
  · refine Int.dvd_gcd ?_ ?_
    · rw [h3]; exact Int.dvd_add (Int.dvd_mul_of_dvd_right (Int.gcd_dvd_left R R')) (Int.dvd_mul_of_dvd_right (Int.gcd_dvd_right R R'))
    · rw [h4]; exact Int.dvd_add (Int.dvd_mul_of_dvd_right (Int.gcd_dvd_left R R')) (Int.dvd_mul_of_dvd_right (Int.gcd_dvd_right R R'))
  · refine Int.dvd_gcd ?_ ?_
    · rw [h1]; exact Int.dvd_add (Int.dvd_mul_of_dvd_right (Int.gcd_dvd_left a b)) (Int.dvd_mul_of_dvd_right (Int.gcd_dvd_right a b))
    · rw [h2]; exact Int.dvd_add (Int.dvd_mul_of_dvd_right (Int.gcd_dvd_left a b)) (Int.dvd_mul_of_dvd_right (Int.gcd_dvd_right a b))

end Go.Proofs.YtmdppblhbmbakaaGreatDoor.Nm
