/- What package names does: which texts are Names. -/
import Derived.Test.YtpeihgbkolihgaaDoorZ1
import Derived.Test.YtpeihgbkolihgaaDoorShelf
import Derived.Shelf.Strings.FuncGrows
import Derived.Lib.TrimUEq
import Derived.Shelf.Abstract
set_option linter.unusedVariables false
set_option linter.unusedSimpArgs false
namespace Go.Proofs.YtpeihgbkolihgaaDoor
open Go.RowKit Go.Shelf

theorem eWord1 : ∀ args w, (callFunc 82 args).run Tryd.prog w = .ok (.enter 82 args) w := enters_of Tryd.func82 (by kernel_rfl) rfl

namespace Dt
def isUp (x : Nat) : Bool := decide (65 ≤ x) && decide (x ≤ 90)
def isLo (x : Nat) : Bool := decide (97 ≤ x) && decide (x ≤ 122)
def notW (x : Nat) : Bool := !isLo x && !isUp x && (decide (x < 48) || decide (57 < x)) && x != 95
def word (s : ByteArray) : Bool := decide (0 < s.size) && decide (s.size ≤ 32) && !s.data.toList.any (fun b => notW b.toNat)
def wordL (s : ByteArray) : Bool := decide (0 < s.size) && !s.data.toList.any (fun b => notW b.toNat)
def longUp (s : ByteArray) : Bool := wordL s && isUp ((s.data.toList.head?.map UInt8.toNat).getD 0)
def upper (s : ByteArray) : Bool := word s && isUp ((s.data.toList.head?.map UInt8.toNat).getD 0)
theorem upper_long (s : ByteArray) : upper s = (decide (s.size ≤ 32) && longUp s) := by
  unfold upper longUp word wordL
  cases decide (s.size ≤ 32) <;> simp
end Dt

set_option maxRecDepth 100000 in
set_option maxHeartbeats 1600000 in
theorem isUpper_any (x : Nat) (r : Bool) (w : World) (hr : Hid (Dt.isUp x = r)) : Calls Tryd.prog 83 #[.int .i32 x] w fun e w' => e = .returned (.bool r) ∧ w' = w := by
  have h := hr.out
  unfold Dt.isUp at h
  clear hr
  by_cases h1 : 65 ≤ x
  · by_cases h2 : x ≤ 90
    · obtain rfl : r = true := by rw [← h]; simp [h1, h2]
      clear h
      have g1 : (65 : Int) ≤ x := by omega
      have g2 : (x : Int) ≤ 90 := by omega
      go_enter Tryd.func83, Tryd.ntmps83
      go_wp2
      go_ret
      exact ⟨rfl, rfl⟩
    · obtain rfl : r = false := by rw [← h]; simp [h1, h2]
      clear h
      have g1 : (65 : Int) ≤ x := by omega
      have g2 : ¬ (x : Int) ≤ 90 := by omega
      go_enter Tryd.func83, Tryd.ntmps83
      go_wp2
      go_ret
      exact ⟨rfl, rfl⟩
  · obtain rfl : r = false := by rw [← h]; simp [h1]
    clear h
    have g1 : ¬ (65 : Int) ≤ x := by omega
    go_enter Tryd.func83, Tryd.ntmps83
    go_wp2
    go_ret
    exact ⟨rfl, rfl⟩

set_option maxRecDepth 100000 in
set_option maxHeartbeats 1600000 in
theorem isLower_any (x : Nat) (r : Bool) (w : World) (hr : Hid (Dt.isLo x = r)) : Calls Tryd.prog 77 #[.int .i32 x] w fun e w' => e = .returned (.bool r) ∧ w' = w := by
  have h := hr.out
  unfold Dt.isLo at h
  clear hr
  by_cases h1 : 97 ≤ x
  · by_cases h2 : x ≤ 122
    · obtain rfl : r = true := by rw [← h]; simp [h1, h2]
      clear h
      have g1 : (97 : Int) ≤ x := by omega
      have g2 : (x : Int) ≤ 122 := by omega
      go_enter Tryd.func77, Tryd.ntmps77
      go_wp2
      go_ret
      exact ⟨rfl, rfl⟩
    · obtain rfl : r = false := by rw [← h]; simp [h1, h2]
      clear h
      have g1 : (97 : Int) ≤ x := by omega
      have g2 : ¬ (x : Int) ≤ 122 := by omega
      go_enter Tryd.func77, Tryd.ntmps77
      go_wp2
      go_ret
      exact ⟨rfl, rfl⟩
  · obtain rfl : r = false := by rw [← h]; simp [h1]
    clear h
    have g1 : ¬ (97 : Int) ≤ x := by omega
    go_enter Tryd.func77, Tryd.ntmps77
    go_wp2
    go_ret
    exact ⟨rfl, rfl⟩

set_option maxRecDepth 100000 in
set_option maxHeartbeats 3200000 in
theorem word1_any (x : Nat) (r : Bool) (w : World) (hr : Hid (Dt.notW x = r)) : Calls Tryd.prog 82 #[.int .i32 x] w fun e w' => e = .returned (.bool r) ∧ w' = w := by
  obtain ⟨lo, hlo⟩ : ∃ lo, Dt.isLo x = lo := ⟨_, rfl⟩
  obtain ⟨up, hup⟩ : ∃ up, Dt.isUp x = up := ⟨_, rfl⟩
  have h := hr.out
  unfold Dt.notW at h
  rw [hlo, hup] at h
  have HLO := Lib.hid hlo
  have HUP := Lib.hid hup
  clear hr hlo hup
  cases lo with
  | true =>
    obtain rfl : r = false := by rw [← h]; rfl
    clear h
    go_enter Tryd.func82, Tryd.ntmps82
    go_wp2_with fail
    refine (isLower_any x true w HLO).mono ?_
    rintro e w' ⟨rfl, rfl⟩
    go_wp2
    go_ret
    exact ⟨rfl, rfl⟩
  | false =>
    cases up with
    | true =>
      obtain rfl : r = false := by rw [← h]; rfl
      clear h
      go_enter Tryd.func82, Tryd.ntmps82
      go_wp2_with fail
      refine (isLower_any x false w HLO).mono ?_
      rintro e w' ⟨rfl, rfl⟩
      go_wp2_with fail
      refine (isUpper_any x true w' HUP).mono ?_
      rintro e w'' ⟨rfl, rfl⟩
      go_wp2
      go_ret
      exact ⟨rfl, rfl⟩
    | false =>
      go_enter Tryd.func82, Tryd.ntmps82
      go_wp2_with fail
      refine (isLower_any x false w HLO).mono ?_
      rintro e w' ⟨rfl, rfl⟩
      go_wp2_with fail
      refine (isUpper_any x false w' HUP).mono ?_
      rintro e w'' ⟨rfl, rfl⟩
      by_cases h1 : x < 48
      · have g1 : (x : Int) < 48 := by omega
        have g2 : ((x : Int) != 95) = true := by simp; omega
        obtain rfl : r = true := by rw [← h]; simp [h1]; omega
        clear h
        go_wp2
        go_ret
        exact ⟨rfl, rfl⟩
      · have g1 : ¬ (x : Int) < 48 := by omega
        by_cases h2 : 57 < x
        · have g2 : (57 : Int) < x := by omega
          by_cases h3 : x = 95
          · subst h3
            obtain rfl : r = false := by rw [← h]; rfl
            clear h
            go_wp2
            go_ret
            exact ⟨rfl, rfl⟩
          · have g3 : ((x : Int) != 95) = true := by simp; omega
            obtain rfl : r = true := by rw [← h]; simp [h2, h3]
            clear h
            go_wp2
            go_ret
            exact ⟨rfl, rfl⟩
        · have g2 : ¬ (57 : Int) < x := by omega
          obtain rfl : r = false := by rw [← h]; simp [h1, h2]
          clear h
          go_wp2
          go_ret
          exact ⟨rfl, rfl⟩

theorem decode_small (s : ByteArray) (pos : Nat) (h : pos < s.size) (hb : s[pos].toNat < 128) : Utf8.decode s pos = (s[pos].toNat, 1) := by
  have h0 : s.data.toList.getD pos 0 = s[pos] := by
    rw [List.getD_eq_getElem?_getD, List.getElem?_eq_getElem (by simpa using h), Option.getD_some]; rfl
  rw [Lib.decode_N, h0]
  unfold Lib.decodeN
  rw [if_pos hb]

theorem decode_large (s : ByteArray) (pos : Nat) (h : pos < s.size) (hb : 128 ≤ s[pos].toNat) : 128 ≤ (Utf8.decode s pos).1 := by
  have h0 : s.data.toList.getD pos 0 = s[pos] := by
    rw [List.getD_eq_getElem?_getD, List.getElem?_eq_getElem (by simpa using h), Option.getD_some]; rfl
  rw [Lib.decode_N, h0]
  generalize s[pos].toNat = b0 at hb
  unfold Lib.decodeN
  repeat' split
  all_goals (try simp only)
  all_goals omega

theorem notW_big (x : Nat) (h : 128 ≤ x) : Dt.notW x = true := by
  unfold Dt.notW Dt.isLo Dt.isUp
  have h1 : ¬ x ≤ 122 := by omega
  have h2 : ¬ x ≤ 90 := by omega
  have h3 : 57 < x := by omega
  have h4 : x ≠ 95 := by omega
  simp [h1, h2, h3, h4]

theorem idx_word (s : ByteArray) : ∀ (f pos : Nat), s.size ≤ pos + f → pos ≤ s.size → decide (0 ≤ Lib.idxFuncFrom Dt.notW true s f pos) = (s.data.toList.drop pos).any (fun b => Dt.notW b.toNat)
  | 0, pos, h1, h2 => by
    obtain rfl : pos = s.size := by omega
    rw [List.drop_eq_nil_of_le (by simp)]
    rfl
  | f + 1, pos, h1, h2 => by
    by_cases hp : pos < s.size
    · have hl : pos < s.data.toList.length := by simpa using hp
      rw [List.drop_eq_getElem_cons hl, List.any_cons]
      have hb0 : s.data.toList[pos] = s[pos] := rfl
      rw [hb0]
      simp only [Lib.idxFuncFrom, hp, if_true]
      by_cases hb : s[pos].toNat < 128
      · rw [decode_small s pos hp hb]
        cases hq : Dt.notW s[pos].toNat with
        | true => simp [hq]
        | false =>
          simp only [hq, Bool.false_or, Bool.false_eq_true, if_false]
          exact idx_word s f (pos + 1) (by omega) (by omega)
      · have h3 := decode_large s pos hp (by omega)
        rw [if_pos (notW_big _ h3), notW_big _ (by omega)]
        simp
    · obtain rfl : pos = s.size := by omega
      rw [Lib.idxFuncFrom_end _ _ _ _ _ hp, List.drop_eq_nil_of_le (by simp)]
      rfl

set_option maxRecDepth 100000 in
set_option maxHeartbeats 1600000 in
theorem isWord_any (s : ByteArray) (r : Bool) (w : World) (hr : Hid (Dt.wordL s = r)) : Calls Tryd.prog 76 #[.string s] w fun e w' => e = .returned (.bool r) ∧ Below w.heap.size w w' := by
  have h := hr.out
  unfold Dt.wordL at h
  clear hr
  by_cases h1 : 0 < s.size
  · have n0 : ¬ s.toList = [] := by
      rw [ByteArray.toList_eq]
      intro e
      have : s.data.toList.length = 0 := by rw [e]; rfl
      rw [Array.length_toList] at this
      have h2 : s.size = 0 := this
      omega
    have n1 : s.toList.isEmpty = false := by simpa using n0
    obtain ⟨q, hq⟩ : ∃ q, s.data.toList.any (fun b => Dt.notW b.toNat) = q := ⟨_, rfl⟩
    rw [hq] at h
    obtain rfl : r = !q := by rw [← h]; simp [h1]
    have HC := Lib.hid (Tryd.strings_ContainsFunc_grows 82 #[] eWord1 Dt.notW s w (fun W x hx _ => (word1_any x _ W (Lib.hid rfl)).mono fun e w' h => ⟨h.1, by rw [h.2]; exact Below.refl _ _⟩))
    have e2 : decide (0 ≤ Lib.idxFunc Dt.notW true s) = q := by rw [← hq]; exact idx_word s s.size 0 (by omega) (by omega)
    rw [e2] at HC
    clear h hq e2
    go_enter Tryd.func76, Tryd.ntmps76
    go_wp2_with fail
    refine HC.out.mono ?_
    rintro e w1 ⟨rfl, hb⟩
    have HB := Lib.hid hb
    clear hb
    go_wp2
    go_ret
    exact ⟨rfl, HB.out⟩
  · obtain rfl : r = false := by rw [← h]; simp [h1]
    have n0 : s.toList = [] := by
      rw [ByteArray.toList_eq]
      have : s.data.toList.length = 0 := by rw [Array.length_toList]; show s.size = 0; omega
      exact List.length_eq_zero_iff.1 this
    have n1 : s.toList.isEmpty = true := by rw [n0]; rfl
    clear h
    go_enter Tryd.func76, Tryd.ntmps76
    go_wp2
    go_ret
    exact ⟨rfl, Below.refl _ _⟩

set_option maxRecDepth 100000 in
set_option maxHeartbeats 1600000 in
theorem LongUpper_any (s : ByteArray) (r : Bool) (w : World) (hr : Hid (Dt.longUp s = r)) : Calls Tryd.prog 78 #[.string s] w fun e w' => e = .returned (.bool r) ∧ Below w.heap.size w w' := by
  have h := hr.out
  unfold Dt.longUp at h
  obtain ⟨q, hq⟩ : ∃ q, Dt.wordL s = q := ⟨_, rfl⟩
  rw [hq] at h
  have HQ := Lib.hid hq
  clear hr
  cases q with
  | false =>
    obtain rfl : r = false := by rw [← h]; rfl
    clear h hq
    go_enter Tryd.func78, Tryd.ntmps78
    go_wp2_with fail
    refine (isWord_any s false w HQ).mono ?_
    rintro e w1 ⟨rfl, hb⟩
    have HB := Lib.hid hb
    clear hb
    go_wp2
    go_ret
    exact ⟨rfl, HB.out⟩
  | true =>
    have h0 : 0 < s.size := by
      unfold Dt.wordL at hq
      simp at hq
      omega
    have h0i : (0 : Int) < s.size := by omega
    obtain ⟨c, hc⟩ : ∃ c, s[0].toNat = c := ⟨_, rfl⟩
    have e1 : (s.data.toList.head?.map UInt8.toNat).getD 0 = c := by
      have hl : 0 < s.data.toList.length := by simpa using h0
      rw [List.head?_eq_getElem?, List.getElem?_eq_getElem hl]
      exact hc
    rw [e1] at h
    have hcl : c < 256 := by rw [← hc]; exact s[0].toNat_lt
    have HR := Lib.hid (show Dt.isUp c = r from h)
    have hcv : IntKind.i32.wrap (c : Int) = c := IntWalk.i32_in _ (by omega)
    clear h hq e1
    go_enter Tryd.func78, Tryd.ntmps78
    go_wp2_with fail
    refine (isWord_any s true w HQ).mono ?_
    rintro e w1 ⟨rfl, hb⟩
    have HB := Lib.hid hb
    clear hb
    go_wp2_with fail
    refine (isUpper_any c r w1 HR).mono ?_
    rintro e w2 ⟨rfl, rfl⟩
    go_wp2
    go_ret
    exact ⟨rfl, HB.out⟩

set_option maxRecDepth 100000 in
set_option maxHeartbeats 1600000 in
theorem Upper_any (s : ByteArray) (r : Bool) (w : World) (hr : Hid (Dt.upper s = r)) : Calls Tryd.prog 69 #[.string s] w fun e w' => e = .returned (.bool r) ∧ Below w.heap.size w w' := by
  have h := hr.out
  rw [Dt.upper_long] at h
  clear hr
  by_cases h1 : s.size ≤ 32
  · have h2 : Dt.longUp s = r := by rw [← h]; simp [h1]
    have HQ := Lib.hid h2
    have g1 : (s.size : Int) ≤ 32 := by omega
    clear h h2
    go_enter Tryd.func69, Tryd.ntmps69
    go_wp2_with fail
    refine (LongUpper_any s r w HQ).mono ?_
    rintro e w1 ⟨rfl, hb⟩
    have HB := Lib.hid hb
    clear hb
    go_wp2
    go_ret
    exact ⟨rfl, HB.out⟩
  · obtain rfl : r = false := by rw [← h]; simp [h1]
    have g1 : ¬ (s.size : Int) ≤ 32 := by omega
    clear h
    go_enter Tryd.func69, Tryd.ntmps69
    go_wp2
    go_ret
    exact ⟨rfl, Below.refl _ _⟩

end Go.Proofs.YtpeihgbkolihgaaDoor
