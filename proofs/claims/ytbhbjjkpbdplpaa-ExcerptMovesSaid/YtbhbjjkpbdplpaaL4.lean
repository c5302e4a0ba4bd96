/- The walk of the law ExcerptMoves. -/
import Derived.Test.YtbhbjjkpbdplpaaL2
import Derived.Test.YtbhbjjkpbdplpaaW4
set_option linter.unusedVariables false
set_option linter.unusedSimpArgs false
namespace Go.Proofs.Ytbhbjjkpbdplpaa
open Go.RowKit

theorem excerpt_inner (B L R : List UInt8) (hL : ∀ i : Nat, i < L.length → L[i]? ≠ some 10) (a b : Nat) (hab : a ≤ b) (hb : b ≤ L.length) :
    Ex.excerpt (B ++ [10] ++ L ++ [10] ++ R) (B.length + 1 + a) (B.length + 1 + b) = Ex.excerpt L a b := by
  have hg : ∀ i, i ≤ L.length → (B ++ [10] ++ L ++ [10] ++ R)[B.length + 1 + i]? = if i < L.length then L[i]? else some 10 := by
    intro i hi
    have e : B ++ [10] ++ L ++ [10] ++ R = (B ++ [10]) ++ (L ++ [10] ++ R) := by simp
    rw [e, List.getElem?_append_right (by rw [List.length_append]; simp)]
    have e2 : B.length + 1 + i - (B ++ [10]).length = i := by simp
    rw [e2]
    by_cases h : i < L.length
    · rw [if_pos h, List.append_assoc, List.getElem?_append_left h]
    · rw [if_neg h, List.append_assoc, List.getElem?_append_right (by omega), show i - L.length = 0 from by omega]; rfl
  have s1 : Ex.lineStart (B ++ [10] ++ L ++ [10] ++ R) (B.length + 1 + a) = B.length + 1 := by
    refine Ex.lineStart_eq _ _ _ (by omega) ?_ (.inr ⟨by omega, ?_⟩)
    · intro i h1 h2
      have h3 := hg (i - (B.length + 1)) (by omega)
      rw [show B.length + 1 + (i - (B.length + 1)) = i from by omega, if_pos (by omega)] at h3
      rw [h3]
      exact hL _ (by omega)
    · rw [show B.length + 1 - 1 = B.length from by omega]
      simp
  have s2 : Ex.lineStart L a = 0 := Ex.lineStart_eq _ _ _ (by omega) (fun i _ h => hL i (by omega)) (.inl rfl)
  have l2 : Ex.lineLen L = L.length := by
    have h1 := Ex.lineLen_le L
    by_cases h : Ex.lineLen L < L.length
    · exact absurd (Ex.lineLen_at L h) (hL _ h)
    · omega
  have l1 : Ex.line (B ++ [10] ++ L ++ [10] ++ R) (B.length + 1) = L := by
    have e : (B ++ [10] ++ L ++ [10] ++ R).drop (B.length + 1) = L ++ ([10] ++ R) := by
      have : B ++ [10] ++ L ++ [10] ++ R = (B ++ [10]) ++ (L ++ ([10] ++ R)) := by simp
      rw [this]
      exact List.drop_left' (by simp)
    unfold Ex.line
    rw [e]
    have hlen : Ex.lineLen (L ++ ([10] ++ R)) = L.length := by
      have := Ex.lineEnd_eq (L ++ ([10] ++ R)) 0 L.length (by omega) (by simp) (fun i _ h => by rw [List.getElem?_append_left h]; exact hL i h) (fun _ => by rw [List.getElem?_append_right (by omega)]; simp)
      simpa [Ex.lineEnd] using this
    rw [hlen, List.take_left']
    rfl
  have l0 : Ex.line L 0 = L := by
    unfold Ex.line
    rw [List.drop_zero, l2, List.take_length]
  simp only [Ex.excerpt]
  rw [s1, s2, l1, l0]
  have e1 : B.length + 1 + a - (B.length + 1) = a - 0 := by omega
  have e2 : B.length + 1 + b - (B.length + 1 + a) = b - a := by omega
  rw [e1, e2]

set_option maxRecDepth 100000 in
set_option maxHeartbeats 3200000 in
theorem law_ExcerptMoves (a0 a1 a2 : ByteArray) (w0 : a0.size ≤ maxLen) (w1 : a1.size ≤ maxLen) (w2 : a2.size ≤ maxLen) (w : World) :
    Calls Try.prog 8 #[.string a0, .string a1, .string a2] w fun e w' => e = .returned (.bool true) ∧ Below w.heap.size w w' := by
  unfold maxLen at w0 w1 w2
  by_cases h0 : 300 < a0.size
  · have d0 : decide ((300 : Int) < a0.size) = true := by simp; omega
    go_enter Try.func8, Try.ntmps8
    go_wp2_with fail
    refine (awake_any _).mono ?_
    rintro e wa ⟨rfl, hb⟩
    have HB := Lib.hid hb
    clear hb
    go_wp2
    go_ret
    exact ⟨rfl, HB.out⟩
  have d0 : decide ((300 : Int) < a0.size) = false := by simp; omega
  by_cases h1 : 300 < a1.size
  · have d1 : decide ((300 : Int) < a1.size) = true := by simp; omega
    go_enter Try.func8, Try.ntmps8
    go_wp2_with fail
    refine (awake_any _).mono ?_
    rintro e wa ⟨rfl, hb⟩
    have HB := Lib.hid hb
    clear hb
    go_wp2
    go_ret
    exact ⟨rfl, HB.out⟩
  have d1 : decide ((300 : Int) < a1.size) = false := by simp; omega
  by_cases h2 : 300 < a2.size
  · have d2 : decide ((300 : Int) < a2.size) = true := by simp; omega
    go_enter Try.func8, Try.ntmps8
    go_wp2_with fail
    refine (awake_any _).mono ?_
    rintro e wa ⟨rfl, hb⟩
    have HB := Lib.hid hb
    clear hb
    go_wp2
    go_ret
    exact ⟨rfl, HB.out⟩
  have d2 : decide ((300 : Int) < a2.size) = false := by simp; omega
  have z0 : a0.size ≤ 300 := by omega
  have z1 : a1.size ≤ 300 := by omega
  have z2 : a2.size ≤ 300 := by omega
  clear h0 h1 h2 w0 w1 w2
  go_enter Try.func8, Try.ntmps8
  go_wp2_with fail
  refine (awake_any _).mono ?_
  rintro e wa ⟨rfl, hb⟩
  have HB := Lib.hid hb
  clear hb
  go_wp2
  go_loop [7] (fun i => ∃ k : Nat, k ≤ a1.size ∧ i = .int .i64 k ∧ Hid (∀ j, j < k → a1.data.toList[j]? ≠ some 10)) (fun i => a1.size - (intOf i).toNat)
  case atStart => exact ⟨0, by omega, rfl, Lib.hid (fun j h => by omega)⟩
  case round =>
    obtain ⟨k, hk, rfl, HN⟩ := hrel
    by_cases hlt : k < a1.size
    · have hlt' : (k : Int) < a1.size := by omega
      by_cases h10 : a1.data.toList[k]? = some 10
      · have hb := is10 a1 k hlt h10
        clear h10
        go_wp2
        go_ret
        exact ⟨rfl, HB.out⟩
      · have hb := no10 a1 k hlt h10
        have HN' : Hid (∀ j, j < k + 1 → a1.data.toList[j]? ≠ some 10) := Lib.hid (fun j hj => by
          by_cases e : j = k
          · subst e; exact h10
          · exact HN.out j (by omega))
        clear h10
        go_wp2
        go_round
        case rel => exact ⟨k + 1, by omega, by go_num, HN'⟩
        case measure => simp [intOf]; omega
    · have hke : k = a1.size := by omega
      have HN' : Hid (∀ i : Nat, i < a1.data.toList.length → a1.data.toList[i]? ≠ some 10) := Lib.hid (fun i hi => HN.out i (by rw [Ex.size_len] at hi; omega))
      clear hke
      go_wp2_with fail
      obtain ⟨f, hf⟩ : ∃ f : Nat, f = a1.size / 3 := ⟨_, rfl⟩
      obtain ⟨t, ht⟩ : ∃ t : Nat, t = a1.size - a1.size / 4 := ⟨_, rfl⟩
      rw [show ((a1.size : Int) - (a1.size : Int) / 4) = (t : Int) from by omega, show ((a1.size : Int) / 3) = (f : Int) from by omega]
      have hft : f ≤ t := by omega
      have hts : t ≤ a1.size := by omega
      clear hf ht
      refine (Excerpt_in _ _ _ hft hts (by omega) _).mono ?_
      rintro e wb ⟨rfl, hbb⟩
      have HB2 := Lib.hid (HB.out.trans (hbb.mono (by have := HB.out.size; omega)))
      clear hbb
      go_wp2_with fail
      rw [show ((a0.size : Int) + 1 + (f : Int)) = ((a0.size + 1 + f : Nat) : Int) from by omega, show ((a0.size : Int) + 1 + (t : Int)) = ((a0.size + 1 + t : Nat) : Int) from by omega]
      have HZ : Hid ((a0 ++ ⟨#[10]⟩ ++ a1 ++ ⟨#[10]⟩ ++ a2 : ByteArray).size = a0.size + 1 + a1.size + 1 + a2.size) := Lib.hid (by simp [ByteArray.size_append]; rfl)
      have HE : Hid (Ex.excerpt (a0 ++ ⟨#[10]⟩ ++ a1 ++ ⟨#[10]⟩ ++ a2 : ByteArray).data.toList (a0.size + 1 + f) (a0.size + 1 + t) = Ex.excerpt a1.data.toList f t) := Lib.hid (by
        have h := excerpt_inner a0.data.toList a1.data.toList a2.data.toList HN'.out f t hft (by rw [Ex.size_len]; exact hts)
        rw [Ex.size_len] at h
        rw [← h]
        simp)
      refine (Excerpt_in _ _ _ (by omega) (by rw [HZ.out]; omega) (by rw [HZ.out]; omega) _).mono ?_
      rintro e wc ⟨rfl, hbb⟩
      rw [HE.out]
      have HB3 := Lib.hid (HB2.out.trans (hbb.mono (by have := HB2.out.size; omega)))
      clear hbb HE
      generalize (⟨(Ex.excerpt a1.data.toList f t).toArray⟩ : ByteArray) = X
      go_wp2
      go_ret
      exact ⟨rfl, HB3.out⟩

end Go.Proofs.Ytbhbjjkpbdplpaa
