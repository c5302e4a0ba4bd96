/- The law TokenNumbers: the decimal text. -/
import Derived.Test.YtpoddcegfhgdeaaDoorYK
import Derived.Test.YtpoddcegfhgdeaaDoorYF
import Derived.Laws.Concat
import Derived.Lib.SlBytesRow
set_option linter.unusedVariables false
set_option linter.unusedSimpArgs false
namespace Go.Proofs.YtpoddcegfhgdeaaDoor
open Go.RowKit

theorem itoa_nat (n : Nat) : Lib.itoa (n : Int) = Lib.decDigits n := by unfold Lib.itoa; rw [if_neg (by omega)]; simp
theorem cat_texts (a b : List UInt8) : (⟨a.toArray⟩ : ByteArray) ++ ⟨b.toArray⟩ = ⟨(a ++ b).toArray⟩ := by
  apply ByteArray.ext
  rw [ByteArray.data_append]
  apply Array.toList_inj.1
  rw [Array.toList_append]

theorem digit_text (u : Nat) (h : u < 10) : (⟨#[UInt8.ofNat (48 + u)]⟩ : ByteArray) = ⟨(Lib.decDigits u).toArray⟩ := by
  rw [Lib.decDigits_one h]

set_option maxRecDepth 100000 in
set_option maxHeartbeats 6400000 in
theorem decimal_digit (u : Nat) (h : u < 10) (w : World) : Calls Tryd.prog 18 #[.int .i64 u] w fun e w' => e = .returned (.string ⟨(Lib.decDigits u).toArray⟩) ∧ Below w.heap.size w w' := by
  have h1 : (0 : Int) ≤ u := by omega
  have h2 : (u : Int) < 10 := by omega
  have h3 : ¬ (u : Int) < 0 := by omega
  have h4 : ¬ (9 : Int) < u := by omega
  go_enter Tryd.func18, Tryd.ntmps18
  have hbv : (UInt8.ofNat (48 + u)).toNat = 48 + u := by rw [UInt8.toNat_ofNat']; omega
  have HB := Lib.hid ((Below.refl w.heap.size w).alloc (Nat.le_refl _) (.cells #[.int .u8 (48 + (u : Int))] 5))
  have HCV : Hid ((convert 62 9 (.slice (some ⟨w.heap.size, 0, none⟩) 1 1)).run Tryd.prog (w.alloc (.cells #[.int .u8 (48 + (u : Int))] 5)) = .ok (.string ⟨(Lib.decDigits u).toArray⟩) (w.alloc (.cells #[.int .u8 (48 + (u : Int))] 5))) := Lib.hid (by
    rw [← digit_text u h]
    have hc : Lib.Bytes (w.alloc (.cells #[.int .u8 (48 + (u : Int))] 5)) w.heap.size 0 ⟨#[UInt8.ofNat (48 + u)]⟩ := by
      intro i hi
      have hi0 : i = 0 := by have : (⟨#[UInt8.ofNat (48 + u)]⟩ : ByteArray).size = 1 := rfl; omega
      subst hi0
      rw [cell_of_row _ _ _ _ _ _ (heap_alloc_new w _)]
      show some (Value.int .u8 (48 + (u : Int))) = some (.int .u8 ((UInt8.ofNat (48 + u)).toNat : Int))
      rw [hbv]; simp
    exact Lib.run_convert_whole _ 62 5 9 Tryd.underlying62 Tryd.underlying5 Tryd.underlying9 w.heap.size 0 _ hc 1)
  clear hbv
  go_wp2
  rw [HCV.out]
  simp only [Result.andThen]
  rw [Oper.upon_value]
  go_wp2
  go_ret
  exact ⟨rfl, HB.out⟩

set_option maxRecDepth 100000 in
set_option maxHeartbeats 6400000 in
theorem decimal_pos (u : Nat) : u ≤ 9223372036854775807 → ∀ w : World, Calls Tryd.prog 18 #[.int .i64 u] w fun e w' => e = .returned (.string ⟨(Lib.decDigits u).toArray⟩) ∧ Below w.heap.size w w' := by
  induction u using Nat.strongRecOn with
  | _ u ih =>
    intro hu w
    by_cases h : u < 10
    · exact decimal_digit u h w
    · have h1 : (0 : Int) ≤ u := by omega
      have h2 : (9 : Int) < u := by omega
      have h3 : ¬ (u : Int) < 0 := by omega
      have h5 : (u : Int) ≤ 9223372036854775807 := by omega
      have e10 : ((u / 10 : Nat) : Int) = (u : Int) / 10 := by omega
      have e11 : ((u % 10 : Nat) : Int) = (u : Int) % 10 := by omega
      have IH : Hid (∀ w : World, Calls Tryd.prog 18 #[.int .i64 ((u : Int) / 10)] w fun e w' => e = .returned (.string ⟨(Lib.decDigits (u / 10)).toArray⟩) ∧ Below w.heap.size w w') := Lib.hid (fun w => by have h := ih (u / 10) (by omega) (by omega) w; rw [e10] at h; exact h)
      have ID : Hid (∀ w : World, Calls Tryd.prog 18 #[.int .i64 ((u : Int) % 10)] w fun e w' => e = .returned (.string ⟨(Lib.decDigits (u % 10)).toArray⟩) ∧ Below w.heap.size w w') := Lib.hid (fun w => by have h := decimal_digit (u % 10) (by omega) w; rw [e11] at h; exact h)
      obtain ⟨A, hA⟩ : ∃ A : ByteArray, A = ⟨(Lib.decDigits (u / 10)).toArray⟩ := ⟨_, rfl⟩
      obtain ⟨B, hB⟩ : ∃ B : ByteArray, B = ⟨(Lib.decDigits (u % 10)).toArray⟩ := ⟨_, rfl⟩
      rw [← hA] at IH
      rw [← hB] at ID
      have hlen := Tk.num_of (u : Int) (by omega) (by omega)
      have hl1 := Tk.num_of ((u / 10 : Nat) : Int) (by omega) (by omega)
      have hAs : A.size ≤ 30 := by
        have := hl1.len
        rw [itoa_nat] at this
        rw [hA, Lib.size_eq]; exact this
      have hBs : B.size ≤ 30 := by
        rw [hB, Lib.decDigits_one (i := u % 10) (by omega)]
        show 1 ≤ 30
        omega
      have HAB : Hid (A ++ B = ⟨(Lib.decDigits u).toArray⟩) := Lib.hid (by
        have e : Lib.decDigits u = Lib.decDigits (u / 10) ++ [UInt8.ofNat (48 + u % 10)] := by conv => lhs; rw [Lib.decDigits]; rw [dif_neg h]
        rw [hA, hB, e, Lib.decDigits_one (i := u % 10) (by omega), cat_texts])
      have hcat : ∀ W : World, (Op.stringOp .add A B).run Tryd.prog W = .ok (.string (A ++ B)) W := fun W => run_string_add W _ _ (by omega) (by omega)
      clear ih e10 e11 hA hB hlen hl1
      go_enter Tryd.func18, Tryd.ntmps18
      go_wp2_with fail
      refine (IH.out _).mono ?_
      rintro e w1 ⟨rfl, hb⟩
      have HB1 := Lib.hid hb
      clear hb
      go_wp2_with fail
      refine (ID.out _).mono ?_
      rintro e w2 ⟨rfl, hb⟩
      have HB2 := Lib.hid (HB1.out.trans (hb.mono HB1.out.size))
      clear hb
      rw [HAB.out] at hcat
      go_wp2
      go_ret
      exact ⟨rfl, HB2.out⟩

theorem tdiv_neg (u : Nat) : (-(u : Int)).tdiv 10 = -((u / 10 : Nat) : Int) := by
  rw [Int.neg_tdiv, Int.tdiv_eq_ediv_of_nonneg (by omega)]
  omega
theorem tmod_neg (u : Nat) : -((-(u : Int)).tmod 10) = ((u % 10 : Nat) : Int) := by
  rw [Int.neg_tmod, Int.tmod_eq_emod_of_nonneg (by omega)]
  omega

set_option maxRecDepth 100000 in
set_option maxHeartbeats 6400000 in
theorem decimal_neg (u : Nat) : 1 ≤ u → u ≤ 9223372036854775808 → ∀ (n : Int), n = -(u : Int) → ∀ w : World, Calls Tryd.prog 18 #[.int .i64 n] w fun e w' => e = .returned (.string ⟨(45 :: Lib.decDigits u).toArray⟩) ∧ Below w.heap.size w w' := by
  induction u using Nat.strongRecOn with
  | _ u ih =>
    intro h1u hu n hn w
    have h1 : n < 0 := by omega
    have h2 : -9223372036854775808 ≤ n := by omega
    have ed : n.tdiv 10 = -((u / 10 : Nat) : Int) := by rw [hn]; exact tdiv_neg u
    have em : -(n.tmod 10) = ((u % 10 : Nat) : Int) := by rw [hn]; exact tmod_neg u
    by_cases h : u < 10
    · have hq : (n.tdiv 10 == 0) = true := by rw [ed]; simp; omega
      have h3 : -10 < n := by omega
      obtain ⟨B, hB⟩ : ∃ B : ByteArray, B = ⟨(Lib.decDigits u).toArray⟩ := ⟨_, rfl⟩
      have ID : Hid (∀ w : World, Calls Tryd.prog 18 #[.int .i64 (-n)] w fun e w' => e = .returned (.string B) ∧ Below w.heap.size w w') := Lib.hid (fun w => by have h := decimal_digit u h w; rw [show (u : Int) = -n by omega, ← hB] at h; exact h)
      have hBs : B.size ≤ 30 := by
        rw [hB, Lib.decDigits_one (i := u) (by omega)]
        show 1 ≤ 30
        omega
      have HAB : Hid ((⟨#[45]⟩ : ByteArray) ++ B = ⟨(45 :: Lib.decDigits u).toArray⟩) := Lib.hid (by rw [hB]; exact cat_texts [45] _)
      have hcat : ∀ W : World, (Op.stringOp .add ⟨#[45]⟩ B).run Tryd.prog W = .ok (.string ((⟨#[45]⟩ : ByteArray) ++ B)) W := fun W => run_string_add W _ _ (by decide) (by omega)
      rw [HAB.out] at hcat
      clear ih hn ed em hB
      go_enter Tryd.func18, Tryd.ntmps18
      go_wp2_with fail
      refine (ID.out _).mono ?_
      rintro e w1 ⟨rfl, hb⟩
      have HB1 := Lib.hid hb
      clear hb
      go_wp2
      go_ret
      exact ⟨rfl, HB1.out⟩
    · have hq : (n.tdiv 10 == 0) = false := by rw [ed]; simp; omega
      obtain ⟨A, hA⟩ : ∃ A : ByteArray, A = ⟨(45 :: Lib.decDigits (u / 10)).toArray⟩ := ⟨_, rfl⟩
      obtain ⟨B, hB⟩ : ∃ B : ByteArray, B = ⟨(Lib.decDigits (u % 10)).toArray⟩ := ⟨_, rfl⟩
      have IH : Hid (∀ w : World, Calls Tryd.prog 18 #[.int .i64 (n.tdiv 10)] w fun e w' => e = .returned (.string A) ∧ Below w.heap.size w w') := Lib.hid (fun w => by have h := ih (u / 10) (by omega) (by omega) (by omega) (n.tdiv 10) ed w; rw [← hA] at h; exact h)
      have ID : Hid (∀ w : World, Calls Tryd.prog 18 #[.int .i64 (-(n.tmod 10))] w fun e w' => e = .returned (.string B) ∧ Below w.heap.size w w') := Lib.hid (fun w => by have h := decimal_digit (u % 10) (by omega) w; rw [← em, ← hB] at h; exact h)
      have hAs : A.size ≤ 40 := by
        have := (Tk.num_of (-((u / 10 : Nat) : Int)) (by omega) (by omega)).len
        rw [Lib.itoa] at this
        rw [if_pos (by omega)] at this
        have e : (-((u / 10 : Nat) : Int)).natAbs = u / 10 := by omega
        rw [e] at this
        rw [hA, Lib.size_eq]
        exact Nat.le_trans this (by omega)
      have hBs : B.size ≤ 30 := by
        rw [hB, Lib.decDigits_one (i := u % 10) (by omega)]
        show 1 ≤ 30
        omega
      have HAB : Hid (A ++ B = ⟨(45 :: Lib.decDigits u).toArray⟩) := Lib.hid (by
        have e : Lib.decDigits u = Lib.decDigits (u / 10) ++ [UInt8.ofNat (48 + u % 10)] := by conv => lhs; rw [Lib.decDigits]; rw [dif_neg h]
        rw [hA, hB, e, Lib.decDigits_one (i := u % 10) (by omega), cat_texts]
        rfl)
      have hcat : ∀ W : World, (Op.stringOp .add A B).run Tryd.prog W = .ok (.string (A ++ B)) W := fun W => run_string_add W _ _ (by omega) (by omega)
      rw [HAB.out] at hcat
      have hm1 : -10 < n.tmod 10 := by omega
      have hm2 : n.tmod 10 ≤ 0 := by omega
      clear ih hn ed em hA hB
      go_enter Tryd.func18, Tryd.ntmps18
      go_wp2_with fail
      refine (IH.out _).mono ?_
      rintro e w1 ⟨rfl, hb⟩
      have HB1 := Lib.hid hb
      clear hb
      go_wp2_with fail
      refine (ID.out _).mono ?_
      rintro e w2 ⟨rfl, hb⟩
      have HB2 := Lib.hid (HB1.out.trans (hb.mono HB1.out.size))
      clear hb
      go_wp2
      go_ret
      exact ⟨rfl, HB2.out⟩

theorem decimal_any (n : Int) (S : ByteArray) (w : World) (h0 : -9223372036854775808 ≤ n) (h1 : n ≤ 9223372036854775807) (hS : Hid (S = ⟨(Lib.itoa n).toArray⟩)) : Calls Tryd.prog 18 #[.int .i64 n] w fun e w' => e = .returned (.string S) ∧ Below w.heap.size w w' := by
  rw [hS.out]
  by_cases h : n < 0
  · have h2 := decimal_neg n.natAbs (by omega) (by omega) n (by omega) w
    have e : Lib.itoa n = 45 :: Lib.decDigits n.natAbs := by unfold Lib.itoa; rw [if_pos h]
    rw [e]; exact h2
  · obtain ⟨u, rfl⟩ : ∃ u : Nat, n = u := ⟨n.toNat, by omega⟩
    rw [itoa_nat]
    exact decimal_pos u (by omega) w

end Go.Proofs.YtpoddcegfhgdeaaDoor
