/- What the functions of package excerpt that only read do: lineStart, lineEnd, lineBounds, LineCol, Offset. -/
import Derived.Test.YtbhbjjkpbdplpaaBridge
import Derived.Test.YtbhbjjkpbdplpaaShelf
import Derived.WalkKit
import Derived.WalkSpells
import Derived.WalkLawsBesides
import Derived.IntWalk
import Derived.LoopTactic
import Derived.Deep.QuietTactic
import Derived.BigQuiet
import Derived.Lib.Hide
set_option linter.unusedVariables false
set_option linter.unusedSimpArgs false
namespace Go.Proofs.Ytbhbjjkpbdplpaa
open Go.RowKit

theorem ret_int {k : IntKind} {a b : Int} (h : a = b) : Ending.returned (.int k a) = .returned (.int k b) := by rw [h]

theorem size_extract (s : ByteArray) (a b : Nat) (h : b ≤ s.size) (h2 : a ≤ b) : (s.extract a b).size = b - a := by
  rw [← Ex.size_len, Lib.extract_data, List.length_take, List.length_drop, Ex.size_len]; omega

theorem size_mk (l : List UInt8) : (⟨l.toArray⟩ : ByteArray).size = l.length := by rw [← Ex.size_len]

set_option maxHeartbeats 400000 in
theorem lineStart_any (s : ByteArray) (o : Nat) (ho : o ≤ s.size) (hs : s.size ≤ 4000) (w : World) :
    Calls Try.prog 20 #[.string s, .int .i64 o] w fun e w' => e = .returned (.int .i64 (Ex.lineStart s.data.toList o)) ∧ w = w' := by
  have H := Lib.hid (Ex.lastIndex_lineStart s o ho)
  have h1 : Lib.lastIndexByte (s.extract 0 o) 10 + 1 ≤ 4000 := by have := Ex.lineStart_le s.data.toList o; have := H.out; omega
  have h2 : 0 ≤ Lib.lastIndexByte (s.extract 0 o) 10 + 1 := by have := H.out; omega
  have h3 : (o : Int) ≤ s.size := by omega
  have H4 := Lib.hid (size_extract s 0 o ho (by omega))
  go_enter Try.func20, Try.ntmps20
  go_wp2_with (go_at_call 35; refine (Try.strings_LastIndexByte _ 10 ?_ _).mono ?_)
  · rw [H4.out]; omega
  · rintro e w' ⟨rfl, rfl⟩
    go_wp2
    go_ret
    exact ⟨ret_int H.out, rfl⟩

set_option maxHeartbeats 400000 in
theorem lineEnd_any (s : ByteArray) (o : Nat) (ho : o ≤ s.size) (hs : s.size ≤ 4000) (w : World) :
    Calls Try.prog 24 #[.string s, .int .i64 o] w fun e w' => e = .returned (.int .i64 (Ex.lineEnd s.data.toList o)) ∧ w = w' := by
  have H := Lib.hid (Ex.index_lineEnd s o ho)
  have h3 : (o : Int) ≤ s.size := by omega
  have g1 := Ex.lineEnd_ge s.data.toList o
  have g2 := Ex.lineEnd_le s.data.toList o (by rw [Ex.size_len]; exact ho)
  rw [Ex.size_len] at g2
  by_cases hlt : Ex.lineEnd s.data.toList o < s.size
  · have e1 : Lib.indexByte (s.extract o s.size).data.toList 10 = (Ex.lineEnd s.data.toList o : Int) - o := by rw [H.out, if_pos hlt]
    have E1 := Lib.hid e1
    clear e1 H
    go_enter Try.func24, Try.ntmps24
    go_wp2_with (go_at_call 37; refine (Try.strings_IndexByte _ 10 _).mono ?_; rintro e w' ⟨rfl, rfl⟩; rw [show (10 : Int).toNat.toUInt8 = 10 from rfl, E1.out])
    go_ret
    exact ⟨ret_int (by omega), rfl⟩
  · have e1 : Lib.indexByte (s.extract o s.size).data.toList 10 = -1 := by rw [H.out, if_neg hlt]
    have E1 := Lib.hid e1
    clear e1 H
    go_enter Try.func24, Try.ntmps24
    go_wp2_with (go_at_call 37; refine (Try.strings_IndexByte _ 10 _).mono ?_; rintro e w' ⟨rfl, rfl⟩; rw [show (10 : Int).toNat.toUInt8 = 10 from rfl, E1.out])
    go_ret
    exact ⟨ret_int (by omega), rfl⟩

/-- What lineBounds returns. -/
def boundsOf (s : ByteArray) (n : Nat) : Value := match Ex.starts s.data.toList n with
  | none => .tuple #[.int .i64 0, .int .i64 0, .bool false]
  | some f => .tuple #[.int .i64 f, .int .i64 (Ex.lineEnd s.data.toList f), .bool true]

theorem boundsOf_some {s : ByteArray} {n f : Nat} (h : Ex.starts s.data.toList n = some f) : boundsOf s n = .tuple #[.int .i64 f, .int .i64 (Ex.lineEnd s.data.toList f), .bool true] := by simp [boundsOf, h]
theorem boundsOf_none {s : ByteArray} {n : Nat} (h : Ex.starts s.data.toList n = none) : boundsOf s n = .tuple #[.int .i64 0, .int .i64 0, .bool false] := by simp [boundsOf, h]

theorem starts_none_mono (l : List UInt8) (a b : Nat) (h : a ≤ b) (hn : Ex.starts l a = none) : Ex.starts l b = none := by
  induction b with
  | zero => have : a = 0 := by omega
            subst this; exact hn
  | succ b ih =>
    by_cases e : a = b + 1
    · subst e; exact hn
    · unfold Ex.starts; rw [ih (by omega)]; rfl

theorem starts_step_none (l : List UInt8) (k f : Nat) (h : Ex.starts l k = some f) (he : Ex.lineEnd l f = l.length) : Ex.starts l (k + 1) = none := by
  unfold Ex.starts; rw [h]; simp [he]

theorem starts_step_some (l : List UInt8) (k f : Nat) (h : Ex.starts l k = some f) (he : Ex.lineEnd l f ≠ l.length) : Ex.starts l (k + 1) = some (Ex.lineEnd l f + 1) := by
  conv => lhs; unfold Ex.starts
  rw [h]; simp [he]

theorem lineBounds_neg (s : ByteArray) (n : Int) (hn : n < 0) (w : World) :
    Calls Try.prog 21 #[.string s, .int .i64 n] w fun e w' => e = .returned (.tuple #[.int .i64 0, .int .i64 0, .bool false]) ∧ w = w' := by
  go_enter Try.func21, Try.ntmps21
  go_wp2
  go_ret3
  exact ⟨rfl, rfl⟩

set_option maxHeartbeats 800000 in
theorem lineBounds_any (s : ByteArray) (n : Nat) (hb : (n : Int) ≤ 9223372036854775807) (hs : s.size ≤ 4000) (w : World) :
    Calls Try.prog 21 #[.string s, .int .i64 n] w fun e w' => e = .returned (boundsOf s n) ∧ w = w' := by
  have hn0 : (0 : Int) ≤ n := by omega
  go_enter Try.func21, Try.ntmps21
  go_wp2
  go_loop [7, 8, 12] (fun f e i => ∃ k g : Nat, k ≤ n ∧ i = .int .i64 k ∧ f = .int .i64 g ∧ g ≤ s.size ∧ Hid (Ex.starts s.data.toList k = some g)) (fun _ _ i => n - (intOf i).toNat)
  case atStart => exact ⟨0, 0, by omega, rfl, rfl, by omega, Lib.hid rfl⟩
  case round =>
    obtain ⟨k, g, hk, rfl, rfl, hg, HS⟩ := hrel
    have g1 := Ex.lineEnd_ge s.data.toList g
    have g2 := Ex.lineEnd_le s.data.toList g (by rw [Ex.size_len]; exact hg)
    rw [Ex.size_len] at g2
    by_cases hlt : k < n
    · by_cases he : Ex.lineEnd s.data.toList g = s.size
      · have HF := Lib.hid (boundsOf_none (starts_none_mono _ _ _ (by omega) (starts_step_none _ k g HS.out (by rw [Ex.size_len]; exact he))) : boundsOf s n = _)
        have hB : ((Ex.lineEnd s.data.toList g : Int) == s.size) = true := by simp [he]
        clear he
        go_wp2_with (go_at_call 24; refine (lineEnd_any _ _ hg hs _).mono ?_; rintro e w' ⟨rfl, rfl⟩)
        go_ret3
        exact ⟨(congrArg Ending.returned HF.out).symm, rfl⟩
      · have HF := Lib.hid (starts_step_some _ k g HS.out (by rw [Ex.size_len]; exact he))
        have hB : ((Ex.lineEnd s.data.toList g : Int) == s.size) = false := by simp; omega
        go_wp2_with (go_at_call 24; refine (lineEnd_any _ _ hg hs _).mono ?_; rintro e w' ⟨rfl, rfl⟩)
        go_round
        case rel => exact ⟨k + 1, Ex.lineEnd s.data.toList g + 1, by omega, by go_num, by go_num, by omega, HF⟩
        case measure => simp [intOf]; omega
    · obtain rfl : k = n := by omega
      go_wp2_with (go_at_call 24; refine (lineEnd_any _ _ hg hs _).mono ?_; rintro e w' ⟨rfl, rfl⟩)
      go_ret3
      exact ⟨(congrArg Ending.returned (boundsOf_some HS.out)).symm, rfl⟩

/-- What LineCol returns. -/
def lineColOf (s : ByteArray) (o : Nat) : Value := .tuple #[.int .i64 (Ex.cnt s.data.toList o), .int .i64 ((o : Int) - Ex.lineStart s.data.toList o), .int .i64 0]

theorem LineCol_out (s : ByteArray) (o : Int) (ho : o < 0 ∨ (s.size : Int) < o) (hs : s.size ≤ 4000) (w : World) :
    Calls Try.prog 11 #[.string s, .int .i64 o] w fun e w' => e = .returned (.tuple #[.int .i64 0, .int .i64 0, .int .i64 2]) ∧ w = w' := by
  by_cases h : o < 0
  · have hd : decide (o < 0) = true := by simpa using h
    go_enter Try.func11, Try.ntmps11
    go_wp2
    go_ret3
    exact ⟨rfl, rfl⟩
  · have h2 : (s.size : Int) < o := by omega
    have hd : decide (o < 0) = false := by simpa using h
    go_enter Try.func11, Try.ntmps11
    go_wp2
    go_ret3
    exact ⟨rfl, rfl⟩

set_option maxHeartbeats 400000 in
theorem LineCol_in (s : ByteArray) (o : Nat) (ho : o ≤ s.size) (hs : s.size ≤ 4000) (w : World) :
    Calls Try.prog 11 #[.string s, .int .i64 o] w fun e w' => e = .returned (lineColOf s o) ∧ w = w' := by
  have H := Lib.hid (Ex.count_cnt s o)
  have h3 : (o : Int) ≤ s.size := by omega
  have g1 := Ex.lineStart_le s.data.toList o
  have hd : decide ((o : Int) < 0) = false := by simp
  go_enter Try.func11, Try.ntmps11
  go_wp2_with (first | (go_at_call 19; refine (Try.strings_Count_one _ 10 _).mono ?_; rintro e w' ⟨rfl, rfl⟩; rw [H.out]) | (go_at_call 20; refine (lineStart_any _ _ ho hs _).mono ?_; rintro e w' ⟨rfl, rfl⟩))
  go_ret3
  exact ⟨rfl, rfl⟩

/-- What Offset returns. -/
def offsetOf (s : ByteArray) (n c : Int) : Value :=
  if n < 0 then .tuple #[.int .i64 0, .int .i64 9] else
  match Ex.starts s.data.toList n.toNat with
  | none => .tuple #[.int .i64 0, .int .i64 9]
  | some f => if c < 0 ∨ (Ex.lineEnd s.data.toList f : Int) - f < c then .tuple #[.int .i64 0, .int .i64 2] else .tuple #[.int .i64 (f + c), .int .i64 0]

set_option maxHeartbeats 400000 in
theorem Offset_neg (s : ByteArray) (n c : Int) (hn : n < 0) (w : World) :
    Calls Try.prog 13 #[.string s, .int .i64 n, .int .i64 c] w fun e w' => e = .returned (.tuple #[.int .i64 0, .int .i64 9]) ∧ w = w' := by
  go_enter Try.func13, Try.ntmps13
  go_wp2_with (go_at_call 21; refine (lineBounds_neg _ _ hn _).mono ?_; rintro e w' ⟨rfl, rfl⟩)
  go_ret2
  exact ⟨rfl, rfl⟩

set_option maxHeartbeats 400000 in
theorem Offset_none (s : ByteArray) (n : Nat) (c : Int) (hb : (n : Int) ≤ 9223372036854775807) (hs : s.size ≤ 4000) (h : Ex.starts s.data.toList n = none) (w : World) :
    Calls Try.prog 13 #[.string s, .int .i64 n, .int .i64 c] w fun e w' => e = .returned (.tuple #[.int .i64 0, .int .i64 9]) ∧ w = w' := by
  have H := Lib.hid (boundsOf_none h); clear h
  go_enter Try.func13, Try.ntmps13
  go_wp2_with (go_at_call 21; refine (lineBounds_any _ _ hb hs _).mono ?_; rintro e w' ⟨rfl, rfl⟩; rw [H.out])
  go_ret2
  exact ⟨rfl, rfl⟩

set_option maxHeartbeats 400000 in
theorem Offset_out (s : ByteArray) (n f : Nat) (c : Int) (hb : (n : Int) ≤ 9223372036854775807) (hs : s.size ≤ 4000) (h : Ex.starts s.data.toList n = some f) (hc : c < 0 ∨ (Ex.lineEnd s.data.toList f : Int) - f < c) (w : World) :
    Calls Try.prog 13 #[.string s, .int .i64 n, .int .i64 c] w fun e w' => e = .returned (.tuple #[.int .i64 0, .int .i64 2]) ∧ w = w' := by
  have H := Lib.hid (boundsOf_some h)
  have g0 := Ex.starts_le _ _ _ h
  have g1 := Ex.lineEnd_ge s.data.toList f
  have g2 := Ex.lineEnd_le s.data.toList f g0
  rw [Ex.size_len] at g2
  clear h g0
  by_cases h0 : c < 0
  · have hd : decide (c < 0) = true := by simpa using h0
    clear hc
    go_enter Try.func13, Try.ntmps13
    go_wp2_with (go_at_call 21; refine (lineBounds_any _ _ hb hs _).mono ?_; rintro e w' ⟨rfl, rfl⟩; rw [H.out])
    go_ret2
    exact ⟨rfl, rfl⟩
  · have hd : decide (c < 0) = false := by simpa using h0
    have h2 : (Ex.lineEnd s.data.toList f : Int) - f < c := by omega
    clear hc
    go_enter Try.func13, Try.ntmps13
    go_wp2_with (go_at_call 21; refine (lineBounds_any _ _ hb hs _).mono ?_; rintro e w' ⟨rfl, rfl⟩; rw [H.out])
    go_ret2
    exact ⟨rfl, rfl⟩

set_option maxHeartbeats 400000 in
theorem Offset_in (s : ByteArray) (n f : Nat) (c : Nat) (hb : (n : Int) ≤ 9223372036854775807) (hs : s.size ≤ 4000) (h : Ex.starts s.data.toList n = some f) (hc : (c : Int) ≤ (Ex.lineEnd s.data.toList f : Int) - f) (w : World) :
    Calls Try.prog 13 #[.string s, .int .i64 n, .int .i64 c] w fun e w' => e = .returned (.tuple #[.int .i64 ((f : Int) + c), .int .i64 0]) ∧ w = w' := by
  have H := Lib.hid (boundsOf_some h)
  have g0 := Ex.starts_le _ _ _ h
  have g1 := Ex.lineEnd_ge s.data.toList f
  have g2 := Ex.lineEnd_le s.data.toList f g0
  rw [Ex.size_len] at g2
  clear h g0
  have hd : decide ((c : Int) < 0) = false := by simp
  go_enter Try.func13, Try.ntmps13
  go_wp2_with (go_at_call 21; refine (lineBounds_any _ _ hb hs _).mono ?_; rintro e w' ⟨rfl, rfl⟩; rw [H.out])
  go_ret2
  exact ⟨rfl, rfl⟩

set_option maxHeartbeats 400000 in
theorem Clone_any (s : ByteArray) (hs : s.size ≤ 4000) (w : World) :
    Calls Try.prog 23 #[.string s] w fun e w' => e = .returned (.string s) ∧ Below w.heap.size w w' := by
  go_enter Try.func23, Try.ntmps23
  go_wp2_with (go_at_call 36; refine (Try.stringslite_Clone _ _ (by omega)).mono ?_; rintro e w' ⟨rfl, hb⟩)
  go_ret
  exact ⟨rfl, hb⟩

theorem Line_neg (s : ByteArray) (n : Int) (hn : n < 0) (w : World) :
    Calls Try.prog 15 #[.string s, .int .i64 n] w fun e w' => e = .returned (.tuple #[.string ⟨#[]⟩, .int .i64 9]) ∧ Below w.heap.size w w' := by
  go_enter Try.func15, Try.ntmps15
  go_wp2_with (go_at_call 21; refine (lineBounds_neg _ _ hn _).mono ?_; rintro e w' ⟨rfl, rfl⟩)
  go_ret2
  exact ⟨rfl, Below.refl _ _⟩

set_option maxHeartbeats 400000 in
theorem Line_none (s : ByteArray) (n : Nat) (hb : (n : Int) ≤ 9223372036854775807) (hs : s.size ≤ 4000) (h : Ex.starts s.data.toList n = none) (w : World) :
    Calls Try.prog 15 #[.string s, .int .i64 n] w fun e w' => e = .returned (.tuple #[.string ⟨#[]⟩, .int .i64 9]) ∧ Below w.heap.size w w' := by
  have H := Lib.hid (boundsOf_none h); clear h
  go_enter Try.func15, Try.ntmps15
  go_wp2_with (go_at_call 21; refine (lineBounds_any _ _ hb hs _).mono ?_; rintro e w' ⟨rfl, rfl⟩; rw [H.out])
  go_ret2
  exact ⟨rfl, Below.refl _ _⟩

set_option maxHeartbeats 400000 in
theorem Line_some (s : ByteArray) (n f : Nat) (hb : (n : Int) ≤ 9223372036854775807) (hs : s.size ≤ 4000) (h : Ex.starts s.data.toList n = some f) (w : World) :
    Calls Try.prog 15 #[.string s, .int .i64 n] w fun e w' => e = .returned (.tuple #[.string ⟨(Ex.line s.data.toList f).toArray⟩, .int .i64 0]) ∧ Below w.heap.size w w' := by
  have H := Lib.hid (boundsOf_some h)
  have g0 := Ex.starts_le _ _ _ h
  have g1 := Ex.lineEnd_ge s.data.toList f
  have g2 := Ex.lineEnd_le s.data.toList f g0
  rw [Ex.size_len] at g2
  have HL := Lib.hid (Ex.extract_line s f)
  have hz := size_extract s f (Ex.lineEnd s.data.toList f) g2 g1
  have hz2 : (s.extract f (Ex.lineEnd s.data.toList f)).size ≤ 4000 := by omega
  clear h g0 hz
  go_enter Try.func15, Try.ntmps15
  go_wp2_with (first | (go_at_call 21; refine (lineBounds_any _ _ hb hs _).mono ?_; rintro e w' ⟨rfl, rfl⟩; rw [H.out]) | (go_at_call 23; refine (Clone_any _ hz2 _).mono ?_; rintro e w' ⟨rfl, hbel⟩; rw [HL.out]))
  go_ret2
  exact ⟨rfl, by assumption⟩

end Go.Proofs.Ytbhbjjkpbdplpaa
