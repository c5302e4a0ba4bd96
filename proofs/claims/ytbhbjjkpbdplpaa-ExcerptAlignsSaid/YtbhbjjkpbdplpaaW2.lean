/- What the functions of the reference of layer 1 do: LineCol, begin, Line, Offset. -/
import Derived.Test.YtbhbjjkpbdplpaaW1
set_option linter.unusedVariables false
set_option linter.unusedSimpArgs false
namespace Go.Proofs.Ytbhbjjkpbdplpaa
open Go.RowKit

theorem get_at (s : ByteArray) (k : Nat) (h : k < s.size) : s.data.toList[k]? = some s[k] := by
  have h' : k < s.data.size := h
  have : s[k] = s.data[k] := rfl
  rw [this]
  simp

theorem is10 (s : ByteArray) (k : Nat) (h : k < s.size) (h10 : s.data.toList[k]? = some 10) : (((s[k]).toNat : Int) == 10) = true := by
  rw [get_at s k h] at h10
  rw [Option.some.inj h10]; rfl

theorem no10 (s : ByteArray) (k : Nat) (h : k < s.size) (h10 : s.data.toList[k]? ≠ some 10) : (((s[k]).toNat : Int) == 10) = false := by
  rw [get_at s k h] at h10
  rw [beq_eq_false_iff_ne]
  intro e
  exact h10 (congrArg some ((Ex.byte_eq _).1 e))

theorem RefLineCol_out (s : ByteArray) (o : Int) (ho : o < 0 ∨ (s.size : Int) < o) (hs : s.size ≤ 4000) (w : World) :
    Calls Try.prog 12 #[.string s, .int .i64 o] w fun e w' => e = .returned (.tuple #[.int .i64 0, .int .i64 0, .int .i64 2]) ∧ w = w' := by
  by_cases h : o < 0
  · have hd : decide (o < 0) = true := by simpa using h
    go_enter Try.func12, Try.ntmps12
    go_wp2
    go_ret3
    exact ⟨rfl, rfl⟩
  · have h2 : (s.size : Int) < o := by omega
    have hd : decide (o < 0) = false := by simpa using h
    go_enter Try.func12, Try.ntmps12
    go_wp2
    go_ret3
    exact ⟨rfl, rfl⟩

set_option maxHeartbeats 800000 in
theorem RefLineCol_in (s : ByteArray) (o : Nat) (ho : o ≤ s.size) (hs : s.size ≤ 4000) (w : World) :
    Calls Try.prog 12 #[.string s, .int .i64 o] w fun e w' => e = .returned (lineColOf s o) ∧ w = w' := by
  have h3 : (o : Int) ≤ s.size := by omega
  have hd : decide ((o : Int) < 0) = false := by simp
  have hd2 : decide ((s.size : Int) < (o : Int)) = false := by simp; omega
  go_enter Try.func12, Try.ntmps12
  go_wp2
  go_loop [7, 8, 9] (fun n c i => ∃ k n' c' : Nat, k ≤ o ∧ i = .int .i64 k ∧ n = .int .i64 n' ∧ c = .int .i64 c' ∧ n' ≤ k ∧ c' ≤ k ∧ Hid (n' = Ex.cnt s.data.toList k) ∧ Hid (c' + Ex.lineStart s.data.toList k = k)) (fun _ _ i => o - (intOf i).toNat)
  case atStart => exact ⟨0, 0, 0, by omega, rfl, rfl, rfl, by omega, by omega, Lib.hid rfl, Lib.hid rfl⟩
  case round =>
    obtain ⟨k, n', c', hk, rfl, rfl, rfl, hn', hc', HN, HC⟩ := hrel
    by_cases hlt : k < o
    · have hks : k < s.size := by omega
      have hks' : (k : Int) < s.size := by omega
      have HC1 := Lib.hid (Ex.cnt_succ s.data.toList k)
      by_cases h10 : s.data.toList[k]? = some 10
      · have hb := is10 s k hks h10
        have HN' : Hid (n' + 1 = Ex.cnt s.data.toList (k + 1)) := Lib.hid (by rw [HC1.out, if_pos h10, HN.out])
        have HC' : Hid (0 + Ex.lineStart s.data.toList (k + 1) = k + 1) := Lib.hid (by rw [show Ex.lineStart s.data.toList (k + 1) = k + 1 from if_pos h10]; omega)
        clear h10
        go_wp2
        go_round
        case rel => exact ⟨k + 1, n' + 1, 0, by omega, by go_num, by go_num, rfl, by omega, by omega, HN', HC'⟩
        case measure => simp [intOf]; omega
      · have hb := no10 s k hks h10
        have HN' : Hid (n' = Ex.cnt s.data.toList (k + 1)) := Lib.hid (by rw [HC1.out, if_neg h10, HN.out]; rfl)
        have HC' : Hid (c' + 1 + Ex.lineStart s.data.toList (k + 1) = k + 1) := Lib.hid (by rw [show Ex.lineStart s.data.toList (k + 1) = Ex.lineStart s.data.toList k from if_neg h10]; have := HC.out; omega)
        clear h10
        go_wp2
        go_round
        case rel => exact ⟨k + 1, n', c' + 1, by omega, by go_num, rfl, by go_num, by omega, by omega, HN', HC'⟩
        case measure => simp [intOf]; omega
    · have hko : k = o := by omega
      have HF : Hid (Value.tuple #[.int .i64 n', .int .i64 c', .int .i64 0] = lineColOf s o) := Lib.hid (by
        subst hko
        unfold lineColOf
        rw [← HN.out, show ((k : Int) - Ex.lineStart s.data.toList k) = c' from by have := HC.out; omega])
      clear hko
      go_wp2
      go_ret3
      exact ⟨congrArg Ending.returned HF.out, rfl⟩

/-- What begin returns. -/
def beginOf (s : ByteArray) (n : Nat) : Int := match Ex.starts s.data.toList n with
  | none => -1
  | some f => f

theorem beginOf_some {s : ByteArray} {n f : Nat} (h : Ex.starts s.data.toList n = some f) : beginOf s n = f := by simp [beginOf, h]
theorem beginOf_none {s : ByteArray} {n : Nat} (h : Ex.starts s.data.toList n = none) : beginOf s n = -1 := by simp [beginOf, h]

theorem begin_neg (s : ByteArray) (n : Int) (hn : n < 0) (w : World) :
    Calls Try.prog 22 #[.string s, .int .i64 n] w fun e w' => e = .returned (.int .i64 (-1)) ∧ w = w' := by
  go_enter Try.func22, Try.ntmps22
  go_wp2
  go_ret
  exact ⟨rfl, rfl⟩

set_option maxHeartbeats 800000 in
theorem begin_any (s : ByteArray) (n : Nat) (hs : s.size ≤ 4000) (w : World) :
    Calls Try.prog 22 #[.string s, .int .i64 n] w fun e w' => e = .returned (.int .i64 (beginOf s n)) ∧ w = w' := by
  have hd : decide ((n : Int) < 0) = false := by simp
  go_enter Try.func22, Try.ntmps22
  go_wp2
  go_loop [5, 6] (fun c i => ∃ k c' : Nat, k ≤ s.size + 1 ∧ i = .int .i64 k ∧ c = .int .i64 c' ∧ c' ≤ k ∧ Hid (k ≤ s.size → c' = Ex.cnt s.data.toList k) ∧ Hid (∀ j, j < k → Ex.cnt s.data.toList j ≠ n)) (fun _ i => s.size + 1 - (intOf i).toNat)
  case atStart => exact ⟨0, 0, by omega, rfl, rfl, by omega, Lib.hid (fun _ => rfl), Lib.hid (fun j h => by omega)⟩
  case round =>
    obtain ⟨k, c', hk, rfl, rfl, hc', HC, HN⟩ := hrel
    by_cases hlt : k ≤ s.size
    · have hlt' : (k : Int) ≤ s.size := by omega
      by_cases he : c' = n
      · have hb : ((c' : Int) == (n : Int)) = true := by simp [he]
        have HF := Lib.hid (beginOf_some (Ex.starts_of_first s.data.toList n k (by rw [Ex.size_len]; exact hlt) (by rw [← HC.out hlt]; exact he) HN.out))
        clear he
        go_wp2
        go_ret
        exact ⟨ret_int HF.out.symm, rfl⟩
      · have hb : ((c' : Int) == (n : Int)) = false := by simp; omega
        have HN' : Hid (∀ j, j < k + 1 → Ex.cnt s.data.toList j ≠ n) := Lib.hid (fun j hj => by
          by_cases e : j = k
          · subst e; rw [← HC.out hlt]; exact he
          · exact HN.out j (by omega))
        by_cases hlt2 : k < s.size
        · have hlt2' : (k : Int) < s.size := by omega
          have hdt : decide ((k : Int) < (s.size : Int)) = true := by simp; omega
          have HC1 := Lib.hid (Ex.cnt_succ s.data.toList k)
          by_cases h10 : s.data.toList[k]? = some 10
          · have hb10 := is10 s k hlt2 h10
            have HC' : Hid (k + 1 ≤ s.size → c' + 1 = Ex.cnt s.data.toList (k + 1)) := Lib.hid (fun _ => by rw [HC1.out, if_pos h10, HC.out hlt])
            clear h10
            go_wp2
            go_round
            case rel => exact ⟨k + 1, c' + 1, by omega, by go_num, by go_num, by omega, HC', HN'⟩
            case measure => simp [intOf]; omega
          · have hb10 := no10 s k hlt2 h10
            have HC' : Hid (k + 1 ≤ s.size → c' = Ex.cnt s.data.toList (k + 1)) := Lib.hid (fun _ => by rw [HC1.out, if_neg h10, HC.out hlt]; rfl)
            clear h10
            go_wp2
            go_round
            case rel => exact ⟨k + 1, c', by omega, by go_num, rfl, by omega, HC', HN'⟩
            case measure => simp [intOf]; omega
        · have hdf : decide ((k : Int) < (s.size : Int)) = false := by simp; omega
          go_wp2
          go_round
          case rel => exact ⟨k + 1, c', by omega, by go_num, rfl, by omega, Lib.hid (fun h => by omega), HN'⟩
          case measure => simp [intOf]; omega
    · have HF := Lib.hid (beginOf_none (Ex.starts_of_none s.data.toList n (fun j hj => HN.out j (by rw [Ex.size_len] at hj; omega))))
      have hgt : (s.size : Int) < k := by omega
      go_wp2
      go_ret
      exact ⟨ret_int HF.out.symm, rfl⟩

theorem RefLine_neg (s : ByteArray) (n : Int) (hn : n < 0) (w : World) :
    Calls Try.prog 16 #[.string s, .int .i64 n] w fun e w' => e = .returned (.tuple #[.string ⟨#[]⟩, .int .i64 9]) ∧ w = w' := by
  go_enter Try.func16, Try.ntmps16
  go_wp2_with (go_at_call 22; refine (begin_neg _ _ hn _).mono ?_; rintro e w' ⟨rfl, rfl⟩)
  go_ret2
  exact ⟨rfl, rfl⟩

theorem RefLine_none (s : ByteArray) (n : Nat) (hs : s.size ≤ 4000) (h : Ex.starts s.data.toList n = none) (w : World) :
    Calls Try.prog 16 #[.string s, .int .i64 n] w fun e w' => e = .returned (.tuple #[.string ⟨#[]⟩, .int .i64 9]) ∧ w = w' := by
  have H := Lib.hid (beginOf_none h); clear h
  go_enter Try.func16, Try.ntmps16
  go_wp2_with (go_at_call 22; refine (begin_any _ _ hs _).mono ?_; rintro e w' ⟨rfl, rfl⟩; rw [H.out])
  go_ret2
  exact ⟨rfl, rfl⟩

set_option maxHeartbeats 800000 in
theorem RefLine_some (s : ByteArray) (n f : Nat) (hs : s.size ≤ 4000) (h : Ex.starts s.data.toList n = some f) (w : World) :
    Calls Try.prog 16 #[.string s, .int .i64 n] w fun e w' => e = .returned (.tuple #[.string ⟨(Ex.line s.data.toList f).toArray⟩, .int .i64 0]) ∧ w = w' := by
  have H := Lib.hid (beginOf_some h)
  have g0 := Ex.starts_le _ _ _ h
  have g1 := Ex.lineEnd_ge s.data.toList f
  have g2 := Ex.lineEnd_le s.data.toList f g0
  rw [Ex.size_len] at g2
  have HL := Lib.hid (Ex.extract_line s f)
  clear h g0
  have hd : decide ((f : Int) < 0) = false := by simp
  go_enter Try.func16, Try.ntmps16
  go_wp2_with (go_at_call 22; refine (begin_any _ _ hs _).mono ?_; rintro e w' ⟨rfl, rfl⟩; rw [H.out])
  go_loop [7] (fun i => ∃ k : Nat, f ≤ k ∧ k ≤ Ex.lineEnd s.data.toList f ∧ i = .int .i64 k) (fun i => Ex.lineEnd s.data.toList f - (intOf i).toNat)
  case atStart => exact ⟨f, by omega, g1, rfl⟩
  case round =>
    obtain ⟨k, hk1, hk2, rfl⟩ := hrel
    have hfk : (f : Int) ≤ k := by omega
    by_cases hlt : k < Ex.lineEnd s.data.toList f
    · have hlt2 : k < s.size := by omega
      have hdt : decide ((k : Int) < (s.size : Int)) = true := by simp; omega
      have hb := no10 s k hlt2 (Ex.lineEnd_none _ _ _ hk1 hlt)
      have hb2 : (((s[k]).toNat : Int) != 10) = true := by rw [bne, hb]; rfl
      go_wp2
      go_round
      case rel => exact ⟨k + 1, by omega, by omega, by go_num⟩
      case measure => simp [intOf]; omega
    · have hke : k = Ex.lineEnd s.data.toList f := by omega
      have HX : Hid (s.extract f k = ⟨(Ex.line s.data.toList f).toArray⟩) := Lib.hid (by rw [hke]; exact HL.out)
      have hks : (k : Int) ≤ s.size := by omega
      by_cases hlt2 : k < s.size
      · have hdt : decide ((k : Int) < (s.size : Int)) = true := by simp; omega
        have hb := is10 s k hlt2 (by rw [hke]; exact Ex.lineEnd_at _ _ (by rw [Ex.size_len]; omega))
        have hb2 : (((s[k]).toNat : Int) != 10) = false := by rw [bne, hb]; rfl
        clear hke
        go_wp2
        go_ret2
        exact ⟨by rw [← HX.out]; rfl, rfl⟩
      · have hdf : decide ((k : Int) < (s.size : Int)) = false := by simp; omega
        clear hke
        go_wp2
        go_ret2
        exact ⟨by rw [← HX.out]; rfl, rfl⟩

theorem RefOffset_neg (s : ByteArray) (n c : Int) (hn : n < 0) (w : World) :
    Calls Try.prog 14 #[.string s, .int .i64 n, .int .i64 c] w fun e w' => e = .returned (.tuple #[.int .i64 0, .int .i64 9]) ∧ w = w' := by
  go_enter Try.func14, Try.ntmps14
  go_wp2_with (go_at_call 16; refine (RefLine_neg _ _ hn _).mono ?_; rintro e w' ⟨rfl, rfl⟩)
  go_ret2
  exact ⟨rfl, rfl⟩

theorem RefOffset_none (s : ByteArray) (n : Nat) (c : Int) (hs : s.size ≤ 4000) (h : Ex.starts s.data.toList n = none) (w : World) :
    Calls Try.prog 14 #[.string s, .int .i64 n, .int .i64 c] w fun e w' => e = .returned (.tuple #[.int .i64 0, .int .i64 9]) ∧ w = w' := by
  have H := Lib.hid h; clear h
  go_enter Try.func14, Try.ntmps14
  go_wp2_with (go_at_call 16; refine (RefLine_none _ _ hs H.out _).mono ?_; rintro e w' ⟨rfl, rfl⟩)
  go_ret2
  exact ⟨rfl, rfl⟩

theorem line_size (s : ByteArray) (f : Nat) : ((⟨(Ex.line s.data.toList f).toArray⟩ : ByteArray).size : Int) = (Ex.lineEnd s.data.toList f : Int) - f := by
  rw [size_mk, Ex.line_length]; unfold Ex.lineEnd; omega

set_option maxHeartbeats 400000 in
theorem RefOffset_out (s : ByteArray) (n f : Nat) (c : Int) (hs : s.size ≤ 4000) (h : Ex.starts s.data.toList n = some f) (hc : c < 0 ∨ (Ex.lineEnd s.data.toList f : Int) - f < c) (w : World) :
    Calls Try.prog 14 #[.string s, .int .i64 n, .int .i64 c] w fun e w' => e = .returned (.tuple #[.int .i64 0, .int .i64 2]) ∧ w = w' := by
  have H := Lib.hid h
  have hz := line_size s f
  obtain ⟨t, ht⟩ : ∃ t : ByteArray, t = ⟨(Ex.line s.data.toList f).toArray⟩ := ⟨_, rfl⟩
  rw [← ht] at hz
  have HT := Lib.hid ht
  clear h ht
  by_cases h0 : c < 0
  · have hd : decide (c < 0) = true := by simpa using h0
    clear hc hz
    go_enter Try.func14, Try.ntmps14
    go_wp2_with (go_at_call 16; refine (RefLine_some _ _ _ hs H.out _).mono ?_; rintro e w' ⟨rfl, rfl⟩; rw [← HT.out])
    go_ret2
    exact ⟨rfl, rfl⟩
  · have hd : decide (c < 0) = false := by simpa using h0
    have h2 : (t.size : Int) < c := by omega
    clear hc hz
    go_enter Try.func14, Try.ntmps14
    go_wp2_with (go_at_call 16; refine (RefLine_some _ _ _ hs H.out _).mono ?_; rintro e w' ⟨rfl, rfl⟩; rw [← HT.out])
    go_ret2
    exact ⟨rfl, rfl⟩

set_option maxHeartbeats 400000 in
theorem RefOffset_in (s : ByteArray) (n f : Nat) (c : Nat) (hs : s.size ≤ 4000) (h : Ex.starts s.data.toList n = some f) (hc : (c : Int) ≤ (Ex.lineEnd s.data.toList f : Int) - f) (w : World) :
    Calls Try.prog 14 #[.string s, .int .i64 n, .int .i64 c] w fun e w' => e = .returned (.tuple #[.int .i64 ((f : Int) + c), .int .i64 0]) ∧ w = w' := by
  have H := Lib.hid h
  have HB := Lib.hid (beginOf_some h)
  have hz := line_size s f
  obtain ⟨t, ht⟩ : ∃ t : ByteArray, t = ⟨(Ex.line s.data.toList f).toArray⟩ := ⟨_, rfl⟩
  rw [← ht] at hz
  have HT := Lib.hid ht
  have g0 := Ex.starts_le _ _ _ h
  have g2 := Ex.lineEnd_le s.data.toList f g0
  rw [Ex.size_len] at g2 g0
  clear h ht
  have h2 : (c : Int) ≤ t.size := by omega
  have h3 : (f : Int) + c ≤ 4000 := by omega
  have hd : decide ((c : Int) < 0) = false := by simp
  clear hz
  go_enter Try.func14, Try.ntmps14
  go_wp2_with (first | (go_at_call 16; refine (RefLine_some _ _ _ hs H.out _).mono ?_; rintro e w' ⟨rfl, rfl⟩; rw [← HT.out]) | (go_at_call 22; refine (begin_any _ _ hs _).mono ?_; rintro e w' ⟨rfl, rfl⟩; rw [HB.out]))
  go_ret2
  exact ⟨rfl, rfl⟩

end Go.Proofs.Ytbhbjjkpbdplpaa
