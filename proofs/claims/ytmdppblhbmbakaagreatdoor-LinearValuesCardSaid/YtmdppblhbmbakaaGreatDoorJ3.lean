/- What DivMod and Gcd do, given what divide and CommonDivisor do. -/
import Derived.Test.YtmdppblhbmbakaaGreatDoorJ2
set_option linter.unusedVariables false
set_option linter.unusedSimpArgs false
namespace Go.Proofs.YtmdppblhbmbakaaGreatDoor
open Go.RowKit _root_.Go.Proofs.YtmdppblhbmbakaaGreatDoor.Nm

theorem Ten.le {K : Nat} {a b : Int} (h : Ten K a) (hb : b.natAbs ≤ a.natAbs) : Ten K b := by
  obtain ⟨k, h1, h2⟩ := h
  exact ⟨k, h1, Nat.lt_of_le_of_lt hb h2⟩

theorem Dv.qsize {a b q r : Int} (h : Dv a b q r) : q.natAbs ≤ a.natAbs := by
  obtain ⟨h1, h2, h3⟩ := h
  rcases Nat.eq_zero_or_pos q.natAbs with hq | hq
  · omega
  · have h4 : b.natAbs * q.natAbs = (b * q).natAbs := (Int.natAbs_mul b q).symm
    have h5 : q.natAbs + b.natAbs ≤ b.natAbs * q.natAbs + 1 := by
      obtain ⟨x, hx⟩ : ∃ x, b.natAbs = x + 1 := ⟨b.natAbs - 1, by omega⟩
      obtain ⟨y, hy⟩ : ∃ y, q.natAbs = y + 1 := ⟨q.natAbs - 1, by omega⟩
      rw [hx, hy, Nat.add_mul, Nat.mul_add]
      omega
    have h6 : b * q = a - r := by omega
    rw [h6] at h4
    generalize b.natAbs * q.natAbs = M at *
    omega

/-- divide, at two integers. -/
def DivIs (a b : Int) : Prop := ∀ (P : Nat → Prop) (x y : Value) (w : World), (∀ k, w.heap.size ≤ k → P k) → IsInt P w x a → IsInt P w y b → Calls Tryz.prog 201 #[x, y] w (DivPost P (a.tdiv b) (a.tmod b) w)

theorem divIs_short (a b : Int) (ha : a.natAbs < 1000000000000000000) (hb : b.natAbs < 1000000000000000000) (hb0 : b ≠ 0) : DivIs a b := by
  intro P x y w hP hx hy
  rcases hx with ⟨_, rfl⟩ | ⟨h, _⟩
  · rcases hy with ⟨_, rfl⟩ | ⟨h, _⟩
    · exact divide_short P a b ha hb hb0 w
    · omega
  · omega

/-- CommonDivisor, at two integers. -/
def GcdIs (a b : Int) : Prop := ∀ (P : Nat → Prop) (x y : Value) (w : World), (∀ k, w.heap.size ≤ k → P k) → IsInt P w x a → IsInt P w y b → Calls Tryz.prog 125 #[x, y] w (IntPost P (Int.gcd a b) w)

theorem gcdIs_short (a b : Int) (ha : a.natAbs < 1000000000000000000) (hb : b.natAbs < 1000000000000000000) : GcdIs a b := by
  intro P x y w hP hx hy
  rcases hx with ⟨_, rfl⟩ | ⟨h, _⟩
  · rcases hy with ⟨_, rfl⟩ | ⟨h, _⟩
    · exact CommonDivisor_short P a b ha hb w
    · omega
  · omega

theorem gcd_ten (a b : Int) (ha : Ten 400 a) (hb : Ten 400 b) : Ten 400 (Int.gcd a b : Int) := by
  by_cases h : a = 0
  · subst h
    rw [Int.gcd_zero_left]
    exact hb.le (by simp)
  · exact ha.le (by rw [Int.natAbs_natCast]; exact Nat.le_of_dvd (by omega) (Nat.gcd_dvd_left _ _))

end Go.Proofs.YtmdppblhbmbakaaGreatDoor
