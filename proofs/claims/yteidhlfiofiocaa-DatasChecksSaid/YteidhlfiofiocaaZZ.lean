/- The reference's IsName. -/
import Derived.Test.YteidhlfiofiocaaZX
set_option linter.unusedVariables false
set_option linter.unusedSimpArgs false
namespace Go.Proofs.Yteidhlfiofiocaa
open Go.RowKit Go.Shelf

namespace Dt
def goodAt (i x : Nat) : Bool := isUp x || (decide (i ≠ 0) && !notW x)
theorem upper_iff (s : ByteArray) : upper s = (decide (1 ≤ s.size) && decide (s.size ≤ 32) && decide (∀ j (h : j < s.data.toList.length), goodAt j (s.data.toList[j]'h).toNat = true)) := by
  have hup : ∀ x, isUp x = true → notW x = false := by intro x h; simp [notW, h]
  unfold upper word
  rw [Bool.eq_iff_iff]
  simp only [Bool.and_eq_true, Bool.not_eq_true', decide_eq_true_eq, List.any_eq_false]
  have hsz : s.data.toList.length = s.size := by simp
  constructor
  · rintro ⟨⟨⟨h1, h2⟩, h3⟩, h4⟩
    refine ⟨⟨h1, h2⟩, fun j hj => ?_⟩
    unfold goodAt
    by_cases h0 : j = 0
    · subst h0
      have e : s.data.toList.head? = some (s.data.toList[0]'hj) := by rw [List.head?_eq_getElem?, List.getElem?_eq_getElem hj]
      rw [e] at h4
      have h5 : isUp (s.data.toList[0]'hj).toNat = true := h4
      rw [h5]; rfl
    · have h5 := h3 _ (List.getElem_mem hj)
      rw [Bool.not_eq_true] at h5
      rw [h5, Bool.or_eq_true]
      exact .inr (by simp [h0])
  · rintro ⟨⟨h1, h2⟩, h3⟩
    have hj : 0 < s.data.toList.length := by omega
    refine ⟨⟨⟨h1, h2⟩, fun x hx => ?_⟩, ?_⟩
    · obtain ⟨j, hj, rfl⟩ := List.getElem_of_mem hx
      have h4 := h3 j hj
      unfold goodAt at h4
      rw [Bool.or_eq_true] at h4
      rcases h4 with h4 | h4
      · rw [hup _ h4]; simp
      · rw [Bool.and_eq_true] at h4
        simpa using h4.2
    · have h4 := h3 0 hj
      have e : s.data.toList.head? = some (s.data.toList[0]'hj) := by rw [List.head?_eq_getElem?, List.getElem?_eq_getElem hj]
      rw [e]
      unfold goodAt at h4
      rw [Bool.or_eq_true] at h4
      rcases h4 with h4 | h4
      · exact h4
      · simp at h4
end Dt

set_option maxRecDepth 100000 in
set_option maxHeartbeats 6400000 in
theorem rIsName_any (s : ByteArray) (r : Bool) (w : World) (hsm : s.size ≤ 100000) (hr : Hid (Dt.upper s = r)) :
    Calls Try.prog 94 #[.string s] w fun e w' => e = .returned (.bool r) ∧ w' = w := by
  obtain ⟨n, hn⟩ : ∃ n, s.size = n := ⟨_, rfl⟩
  have HN := Lib.hid hn
  have HL : Hid (s.data.toList.length = n) := Lib.hid (by rw [← hn]; simp)
  have HR := Lib.hid ((Dt.upper_iff s).symm.trans hr.out)
  clear hr
  go_enter Try.func94, Try.ntmps94
  go_wp2
  go_loop [3] (fun i => ∃ k : Nat, k ≤ n ∧ i = .int .i64 k ∧ Hid (∀ j (h : j < k) (h2 : j < s.data.toList.length), Dt.goodAt j (s.data.toList[j]'h2).toNat = true)) (fun i => n - (intOf i).toNat)
  case atStart => exact ⟨0, Nat.zero_le _, rfl, Lib.hid (fun j h => absurd h (Nat.not_lt_zero _))⟩
  case round =>
    obtain ⟨k, hk, rfl, A⟩ := hrel
    by_cases hlt : k < n
    · have hltz : (k : Int) < (n : Int) := by omega
      have hks : k < s.size := by omega
      have hkz : (k : Int) < (s.size : Int) := by omega
      have hx255 : (s[k]'hks).toNat < 256 := UInt8.toNat_lt _
      have HGX : Hid (∀ b, Dt.goodAt k (s[k]'hks).toNat = b → (∀ h2 : k < s.data.toList.length, Dt.goodAt k (s.data.toList[k]'h2).toNat = b)) := Lib.hid (fun b h h2 => h)
      have HBAD : Hid (Dt.goodAt k (s[k]'hks).toNat = false → r = false) := Lib.hid (fun h => by
        rw [← HR.out]
        have h2 : k < s.data.toList.length := by rw [HL.out]; exact hlt
        have h3 : ¬ ∀ j (h : j < s.data.toList.length), Dt.goodAt j (s.data.toList[j]'h).toNat = true := fun hh => by
          have := hh k h2
          rw [HGX.out false h h2] at this; cases this
        rw [decide_eq_false h3]; simp)
      by_cases k0 : k = 0
      · subst k0
        rcases (show (0 ≤ (s[0]'hks).toNat ∧ (s[0]'hks).toNat ≤ 64) ∨ (65 ≤ (s[0]'hks).toNat ∧ (s[0]'hks).toNat ≤ 90) ∨ (91 ≤ (s[0]'hks).toNat ∧ (s[0]'hks).toNat ≤ 255) by omega) with ⟨g1, g2⟩ | ⟨g1, g2⟩ | ⟨g1, g2⟩
        · have hk00 : True := trivial
          have f0 : ¬ ((65 : Int) ≤ ((s[0]'hks).toNat : Int)) := by omega
          have HBD : Hid (r = false) := Lib.hid (HBAD.out (by simp [Dt.goodAt, Dt.isUp, Dt.isLo, Dt.notW]; omega))
          clear g1 g2 hx255
          go_wp2
          go_ret
          exact ⟨by rw [HBD.out] <;> rfl, rfl⟩
        · have hk00 : True := trivial
          have f0 : (65 : Int) ≤ ((s[0]'hks).toNat : Int) := by omega
          have f1 : ((s[0]'hks).toNat : Int) ≤ 90 := by omega
          have HGD : Hid (Dt.goodAt 0 (s[0]'hks).toNat = true) := Lib.hid (by simp [Dt.goodAt, Dt.isUp, Dt.isLo, Dt.notW]; omega)
          clear g1 g2 hx255
          go_wp2
          go_round
          case rel =>
            refine ⟨0 + 1, by omega, by go_num, Lib.hid (fun j h h2 => ?_)⟩
            by_cases e : j = 0
            · subst e; exact HGX.out true HGD.out h2
            · exact A.out j (by omega) h2
          case measure => simp [intOf]; omega
        · have hk00 : True := trivial
          have f0 : (65 : Int) ≤ ((s[0]'hks).toNat : Int) := by omega
          have f1 : ¬ (((s[0]'hks).toNat : Int) ≤ 90) := by omega
          have HBD : Hid (r = false) := Lib.hid (HBAD.out (by simp [Dt.goodAt, Dt.isUp, Dt.isLo, Dt.notW]; omega))
          clear g1 g2 hx255
          go_wp2
          go_ret
          exact ⟨by rw [HBD.out] <;> rfl, rfl⟩
      · have k1 : ((k : Int) == 0) = false := by simp; omega
        rcases (show (0 ≤ (s[k]'hks).toNat ∧ (s[k]'hks).toNat ≤ 47) ∨ (48 ≤ (s[k]'hks).toNat ∧ (s[k]'hks).toNat ≤ 57) ∨ (58 ≤ (s[k]'hks).toNat ∧ (s[k]'hks).toNat ≤ 64) ∨ (65 ≤ (s[k]'hks).toNat ∧ (s[k]'hks).toNat ≤ 90) ∨ (91 ≤ (s[k]'hks).toNat ∧ (s[k]'hks).toNat ≤ 94) ∨ (95 ≤ (s[k]'hks).toNat ∧ (s[k]'hks).toNat ≤ 95) ∨ (96 ≤ (s[k]'hks).toNat ∧ (s[k]'hks).toNat ≤ 96) ∨ (97 ≤ (s[k]'hks).toNat ∧ (s[k]'hks).toNat ≤ 122) ∨ (123 ≤ (s[k]'hks).toNat ∧ (s[k]'hks).toNat ≤ 255) by omega) with ⟨g1, g2⟩ | ⟨g1, g2⟩ | ⟨g1, g2⟩ | ⟨g1, g2⟩ | ⟨g1, g2⟩ | ⟨g1, g2⟩ | ⟨g1, g2⟩ | ⟨g1, g2⟩ | ⟨g1, g2⟩
        · have hk00 : True := trivial
          have f0 : ¬ ((65 : Int) ≤ ((s[k]'hks).toNat : Int)) := by omega
          have f1 : ((s[k]'hks).toNat : Int) ≤ 90 := by omega
          have f2 : ¬ ((97 : Int) ≤ ((s[k]'hks).toNat : Int)) := by omega
          have f3 : ((s[k]'hks).toNat : Int) ≤ 122 := by omega
          have f4 : ¬ ((48 : Int) ≤ ((s[k]'hks).toNat : Int)) := by omega
          have f5 : ((s[k]'hks).toNat : Int) ≤ 57 := by omega
          have f9 : (((s[k]'hks).toNat : Int) == 95) = false := by simp; omega
          have HBD : Hid (r = false) := Lib.hid (HBAD.out (by simp [Dt.goodAt, Dt.isUp, Dt.isLo, Dt.notW]; omega))
          clear g1 g2 hx255
          go_wp2
          go_ret
          exact ⟨by rw [HBD.out] <;> rfl, rfl⟩
        · have hk00 : True := trivial
          have f0 : ¬ ((65 : Int) ≤ ((s[k]'hks).toNat : Int)) := by omega
          have f1 : ((s[k]'hks).toNat : Int) ≤ 90 := by omega
          have f2 : ¬ ((97 : Int) ≤ ((s[k]'hks).toNat : Int)) := by omega
          have f3 : ((s[k]'hks).toNat : Int) ≤ 122 := by omega
          have f4 : (48 : Int) ≤ ((s[k]'hks).toNat : Int) := by omega
          have f5 : ((s[k]'hks).toNat : Int) ≤ 57 := by omega
          have f9 : (((s[k]'hks).toNat : Int) == 95) = false := by simp; omega
          have HGD : Hid (Dt.goodAt k (s[k]'hks).toNat = true) := Lib.hid (by simp [Dt.goodAt, Dt.isUp, Dt.isLo, Dt.notW]; omega)
          clear g1 g2 hx255
          go_wp2
          go_round
          case rel =>
            refine ⟨k + 1, by omega, by go_num, Lib.hid (fun j h h2 => ?_)⟩
            by_cases e : j = k
            · subst e; exact HGX.out true HGD.out h2
            · exact A.out j (by omega) h2
          case measure => simp [intOf]; omega
        · have hk00 : True := trivial
          have f0 : ¬ ((65 : Int) ≤ ((s[k]'hks).toNat : Int)) := by omega
          have f1 : ((s[k]'hks).toNat : Int) ≤ 90 := by omega
          have f2 : ¬ ((97 : Int) ≤ ((s[k]'hks).toNat : Int)) := by omega
          have f3 : ((s[k]'hks).toNat : Int) ≤ 122 := by omega
          have f4 : (48 : Int) ≤ ((s[k]'hks).toNat : Int) := by omega
          have f5 : ¬ (((s[k]'hks).toNat : Int) ≤ 57) := by omega
          have f9 : (((s[k]'hks).toNat : Int) == 95) = false := by simp; omega
          have HBD : Hid (r = false) := Lib.hid (HBAD.out (by simp [Dt.goodAt, Dt.isUp, Dt.isLo, Dt.notW]; omega))
          clear g1 g2 hx255
          go_wp2
          go_ret
          exact ⟨by rw [HBD.out] <;> rfl, rfl⟩
        · have hk00 : True := trivial
          have f0 : (65 : Int) ≤ ((s[k]'hks).toNat : Int) := by omega
          have f1 : ((s[k]'hks).toNat : Int) ≤ 90 := by omega
          have f2 : ¬ ((97 : Int) ≤ ((s[k]'hks).toNat : Int)) := by omega
          have f3 : ((s[k]'hks).toNat : Int) ≤ 122 := by omega
          have f4 : (48 : Int) ≤ ((s[k]'hks).toNat : Int) := by omega
          have f5 : ¬ (((s[k]'hks).toNat : Int) ≤ 57) := by omega
          have f9 : (((s[k]'hks).toNat : Int) == 95) = false := by simp; omega
          have HGD : Hid (Dt.goodAt k (s[k]'hks).toNat = true) := Lib.hid (by simp [Dt.goodAt, Dt.isUp, Dt.isLo, Dt.notW]; omega)
          clear g1 g2 hx255
          go_wp2
          go_round
          case rel =>
            refine ⟨k + 1, by omega, by go_num, Lib.hid (fun j h h2 => ?_)⟩
            by_cases e : j = k
            · subst e; exact HGX.out true HGD.out h2
            · exact A.out j (by omega) h2
          case measure => simp [intOf]; omega
        · have hk00 : True := trivial
          have f0 : (65 : Int) ≤ ((s[k]'hks).toNat : Int) := by omega
          have f1 : ¬ (((s[k]'hks).toNat : Int) ≤ 90) := by omega
          have f2 : ¬ ((97 : Int) ≤ ((s[k]'hks).toNat : Int)) := by omega
          have f3 : ((s[k]'hks).toNat : Int) ≤ 122 := by omega
          have f4 : (48 : Int) ≤ ((s[k]'hks).toNat : Int) := by omega
          have f5 : ¬ (((s[k]'hks).toNat : Int) ≤ 57) := by omega
          have f9 : (((s[k]'hks).toNat : Int) == 95) = false := by simp; omega
          have HBD : Hid (r = false) := Lib.hid (HBAD.out (by simp [Dt.goodAt, Dt.isUp, Dt.isLo, Dt.notW]; omega))
          clear g1 g2 hx255
          go_wp2
          go_ret
          exact ⟨by rw [HBD.out] <;> rfl, rfl⟩
        · have hk00 : True := trivial
          have f0 : (65 : Int) ≤ ((s[k]'hks).toNat : Int) := by omega
          have f1 : ¬ (((s[k]'hks).toNat : Int) ≤ 90) := by omega
          have f2 : ¬ ((97 : Int) ≤ ((s[k]'hks).toNat : Int)) := by omega
          have f3 : ((s[k]'hks).toNat : Int) ≤ 122 := by omega
          have f4 : (48 : Int) ≤ ((s[k]'hks).toNat : Int) := by omega
          have f5 : ¬ (((s[k]'hks).toNat : Int) ≤ 57) := by omega
          have f9 : (((s[k]'hks).toNat : Int) == 95) = true := by simp; omega
          have HGD : Hid (Dt.goodAt k (s[k]'hks).toNat = true) := Lib.hid (by simp [Dt.goodAt, Dt.isUp, Dt.isLo, Dt.notW]; omega)
          clear g1 g2 hx255
          go_wp2
          go_round
          case rel =>
            refine ⟨k + 1, by omega, by go_num, Lib.hid (fun j h h2 => ?_)⟩
            by_cases e : j = k
            · subst e; exact HGX.out true HGD.out h2
            · exact A.out j (by omega) h2
          case measure => simp [intOf]; omega
        · have hk00 : True := trivial
          have f0 : (65 : Int) ≤ ((s[k]'hks).toNat : Int) := by omega
          have f1 : ¬ (((s[k]'hks).toNat : Int) ≤ 90) := by omega
          have f2 : ¬ ((97 : Int) ≤ ((s[k]'hks).toNat : Int)) := by omega
          have f3 : ((s[k]'hks).toNat : Int) ≤ 122 := by omega
          have f4 : (48 : Int) ≤ ((s[k]'hks).toNat : Int) := by omega
          have f5 : ¬ (((s[k]'hks).toNat : Int) ≤ 57) := by omega
          have f9 : (((s[k]'hks).toNat : Int) == 95) = false := by simp; omega
          have HBD : Hid (r = false) := Lib.hid (HBAD.out (by simp [Dt.goodAt, Dt.isUp, Dt.isLo, Dt.notW]; omega))
          clear g1 g2 hx255
          go_wp2
          go_ret
          exact ⟨by rw [HBD.out] <;> rfl, rfl⟩
        · have hk00 : True := trivial
          have f0 : (65 : Int) ≤ ((s[k]'hks).toNat : Int) := by omega
          have f1 : ¬ (((s[k]'hks).toNat : Int) ≤ 90) := by omega
          have f2 : (97 : Int) ≤ ((s[k]'hks).toNat : Int) := by omega
          have f3 : ((s[k]'hks).toNat : Int) ≤ 122 := by omega
          have f4 : (48 : Int) ≤ ((s[k]'hks).toNat : Int) := by omega
          have f5 : ¬ (((s[k]'hks).toNat : Int) ≤ 57) := by omega
          have f9 : (((s[k]'hks).toNat : Int) == 95) = false := by simp; omega
          have HGD : Hid (Dt.goodAt k (s[k]'hks).toNat = true) := Lib.hid (by simp [Dt.goodAt, Dt.isUp, Dt.isLo, Dt.notW]; omega)
          clear g1 g2 hx255
          go_wp2
          go_round
          case rel =>
            refine ⟨k + 1, by omega, by go_num, Lib.hid (fun j h h2 => ?_)⟩
            by_cases e : j = k
            · subst e; exact HGX.out true HGD.out h2
            · exact A.out j (by omega) h2
          case measure => simp [intOf]; omega
        · have hk00 : True := trivial
          have f0 : (65 : Int) ≤ ((s[k]'hks).toNat : Int) := by omega
          have f1 : ¬ (((s[k]'hks).toNat : Int) ≤ 90) := by omega
          have f2 : (97 : Int) ≤ ((s[k]'hks).toNat : Int) := by omega
          have f3 : ¬ (((s[k]'hks).toNat : Int) ≤ 122) := by omega
          have f4 : (48 : Int) ≤ ((s[k]'hks).toNat : Int) := by omega
          have f5 : ¬ (((s[k]'hks).toNat : Int) ≤ 57) := by omega
          have f9 : (((s[k]'hks).toNat : Int) == 95) = false := by simp; omega
          have HBD : Hid (r = false) := Lib.hid (HBAD.out (by simp [Dt.goodAt, Dt.isUp, Dt.isLo, Dt.notW]; omega))
          clear g1 g2 hx255
          go_wp2
          go_ret
          exact ⟨by rw [HBD.out] <;> rfl, rfl⟩
    · obtain rfl : n = k := by omega
      have hnn : ¬ (n : Int) < n := by omega
      have hnn2 : ¬ (n : Int) < (s.size : Int) := by omega
      have HRE : Hid ((decide (1 ≤ s.size) && decide (s.size ≤ 32)) = r) := Lib.hid (by
        rw [← HR.out, decide_eq_true (p := ∀ j (h : j < s.data.toList.length), Dt.goodAt j (s.data.toList[j]'h).toNat = true) (fun j h => A.out j (by rw [← HL.out]; exact h) h), Bool.and_true])
      by_cases p1 : 1 ≤ s.size
      · have p2 : (1 : Int) ≤ s.size := by omega
        have HRF : Hid (r = decide ((n : Int) ≤ 32)) := Lib.hid (by
          rw [← HRE.out, decide_eq_true p1, Bool.true_and]
          exact decide_eq_decide.2 (by omega))
        go_wp2
        go_ret
        exact ⟨by rw [HRF.out] <;> rfl, rfl⟩
      · have p2 : ¬ (1 : Int) ≤ s.size := by omega
        have HRF : Hid (r = false) := Lib.hid (by rw [← HRE.out]; simp [p1])
        go_wp2
        go_ret
        exact ⟨by rw [HRF.out] <;> rfl, rfl⟩

end Go.Proofs.Yteidhlfiofiocaa
