/- What Valid does. -/
import Derived.Test.YtmdppblhbmbakaaGreatDoorShelf
import Derived.Test.YtmdppblhbmbakaaGreatDoorTxt
import Derived.Test.YtmdppblhbmbakaaGreatDoorN6
set_option linter.unusedVariables false
set_option linter.unusedSimpArgs false
namespace Go.Proofs.YtmdppblhbmbakaaGreatDoor
open Go.RowKit _root_.Go.Proofs.YtmdppblhbmbakaaGreatDoor.Nm

theorem byte_at (s : ByteArray) (k : Nat) (h : k < s.size) : s.data.toList[k]? = some s[k] := by
  have h' : k < s.data.size := h
  rw [Array.getElem?_toList, Array.getElem?_eq_getElem h']
  rfl

/-- The digits of a text: what stands behind its sign. -/
def digitsOf (s : ByteArray) : ByteArray := ⟨(Lib.trimPrefix s.data.toList [45]).toArray⟩

theorem len_size (s : ByteArray) : s.data.toList.length = s.size := (Lib.size_eq s).symm

set_option maxHeartbeats 800000 in
theorem Valid_empty (s : ByteArray) (h : digitsOf s = ⟨#[]⟩) (w : World) :
    Calls Tryz.prog 120 #[.string s] w fun e w' => e = .returned (.bool false) ∧ w = w' := by
  have H := Lib.hid h
  go_enter Tryz.func120, Tryz.ntmps120
  go_wp2_with (go_at_call 151; refine (Tryz.strings_TrimPrefix _ _ _).mono ?_; rintro e w' ⟨rfl, rfl⟩; rw [show (⟨(Lib.trimPrefix s.data.toList (ByteArray.mk #[45]).data.toList).toArray⟩ : ByteArray) = ⟨#[]⟩ from H.out])
  go_ret
  exact ⟨rfl, rfl⟩

theorem ne_empty (t : ByteArray) (h : 0 < t.size) : t.toList.isEmpty = false := by
  rw [List.isEmpty_eq_false_iff]
  intro h2
  rw [Lib.toList_data] at h2
  have := len_size t
  rw [h2] at this
  simp at this; omega

set_option maxHeartbeats 800000 in
theorem Valid_long (s t : ByteArray) (h : digitsOf s = t) (hl : 400 < t.size) (w : World) :
    Calls Tryz.prog 120 #[.string s] w fun e w' => e = .returned (.bool false) ∧ w = w' := by
  have H := Lib.hid h
  have hne := ne_empty t (by omega)
  have hd : decide ((400 : Int) < t.size) = true := by simp; omega
  clear h
  go_enter Tryz.func120, Tryz.ntmps120
  go_wp2_with (go_at_call 151; refine (Tryz.strings_TrimPrefix _ _ _).mono ?_; rintro e w' ⟨rfl, rfl⟩; rw [show (⟨(Lib.trimPrefix s.data.toList (ByteArray.mk #[45]).data.toList).toArray⟩ : ByteArray) = t from H.out])
  go_ret
  exact ⟨rfl, rfl⟩

/-- A byte that is no digit ends the search. -/
theorem bad_byte (c : UInt8) (h : isDig c = false) : decide ((c.toNat : Int) < 48) = true ∨ (decide ((c.toNat : Int) < 48) = false ∧ decide ((57 : Int) < c.toNat) = true) := by
  simp [isDig] at h
  by_cases h1 : c.toNat < 48
  · left; simp; omega
  · right; simp; omega

theorem good_byte (c : UInt8) (h : isDig c = true) : decide ((c.toNat : Int) < 48) = false ∧ decide ((57 : Int) < c.toNat) = false := by
  simp [isDig] at h; simp; omega

theorem digs_step (t : ByteArray) (k : Nat) (hk : k < t.size) (h : (t.data.toList.take k).all isDig = true) (hd : isDig t[k] = true) : (t.data.toList.take (k + 1)).all isDig = true := by
  rw [List.take_add_one, byte_at t k hk, List.all_append, h]
  simp [hd]

theorem digs_bad (t : ByteArray) (k : Nat) (hk : k < t.size) (hd : isDig t[k] = false) : t.data.toList.all isDig = false := by
  rw [← Bool.not_eq_true, List.all_eq_true]
  intro h
  have := h t[k] (List.mem_iff_getElem?.2 ⟨k, byte_at t k hk⟩)
  rw [hd] at this; cases this

set_option maxHeartbeats 1600000 in
theorem Valid_body (s t : ByteArray) (b : Bool) (h : digitsOf s = t) (h0 : 0 < t.size) (hl : t.size ≤ 400) (w : World) (hb : b = (t.data.toList.all isDig && ((t[0] != 48) || (s.toList == [48])))) :
    Calls Tryz.prog 120 #[.string s] w fun e w' => e = .returned (.bool b) ∧ w = w' := by
  have H := Lib.hid h
  have hne := ne_empty t (by omega)
  have hd : decide ((400 : Int) < t.size) = false := by simp; omega
  have HB := Lib.hid hb
  clear h hb
  go_enter Tryz.func120, Tryz.ntmps120
  go_wp2_with (go_at_call 151; refine (Tryz.strings_TrimPrefix _ _ _).mono ?_; rintro e w' ⟨rfl, rfl⟩; rw [show (⟨(Lib.trimPrefix s.data.toList (ByteArray.mk #[45]).data.toList).toArray⟩ : ByteArray) = t from H.out])
  go_loop [4, 16] (fun i j => ∃ k : Nat, k ≤ t.size ∧ j = .int .i64 k ∧ Hid ((t.data.toList.take k).all isDig = true)) (fun _ j => t.size - (intOf j).toNat)
  case atStart => exact ⟨0, by omega, rfl, Lib.hid rfl⟩
  case round =>
    obtain ⟨k, hk, rfl, HK⟩ := hrel
    by_cases hlt : k < t.size
    · cases hx : isDig t[k]
      · have HF : Hid (b = false) := Lib.hid (by rw [HB.out, digs_bad t k hlt hx]; rfl)
        rcases bad_byte _ hx with h1 | ⟨h1, h2⟩
        · clear hx
          go_wp2
          go_ret
          exact ⟨by rw [HF.out]; rfl, rfl⟩
        · clear hx
          go_wp2
          go_ret
          exact ⟨by rw [HF.out]; rfl, rfl⟩
      · obtain ⟨h1, h2⟩ := good_byte _ hx
        have HK2 := Lib.hid (digs_step t k hlt HK.out hx)
        clear hx
        go_wp2
        go_round
        case rel => exact ⟨k + 1, by omega, by go_num, HK2⟩
        case measure => simp [intOf]; omega
    · have hke : k = t.size := by omega
      have HA : Hid (t.data.toList.all isDig = true) := Lib.hid (by have := HK.out; rwa [hke, List.take_of_length_le (by rw [len_size]; exact Nat.le_refl _)] at this)
      have hz0 : (0 : Int) < t.size := by omega
      clear hke
      by_cases h48 : t[0] = 48
      · have hb1 : (((t[0]).toNat : Int) != 48) = false := by rw [h48]; rfl
        have HF : Hid (b = (s.toList == [48])) := Lib.hid (by rw [HB.out, HA.out, h48]; simp)
        clear h48
        go_wp2
        go_ret
        exact ⟨by rw [HF.out]; rfl, rfl⟩
      · have hb1 : (((t[0]).toNat : Int) != 48) = true := by
          rw [bne_iff_ne]; intro h; exact h48 (UInt8.toNat_inj.1 (by rw [show (48 : UInt8).toNat = 48 from rfl]; omega))
        have HF : Hid (b = true) := Lib.hid (by rw [HB.out, HA.out, show (t[0] != 48) = true from by simpa using h48]; rfl)
        clear h48
        go_wp2
        go_ret
        exact ⟨by rw [HF.out]; rfl, rfl⟩

theorem trim_neg (r : List UInt8) : Lib.trimPrefix (45 :: r) [45] = r := by
  simp [Lib.trimPrefix, Lib.hasPrefix]

theorem trim_pos (l : List UInt8) (h : l.head? ≠ some 45) : Lib.trimPrefix l [45] = l := by
  cases l with
  | nil => rfl
  | cons c r =>
    have : c ≠ 45 := by simpa using h
    simp [Lib.trimPrefix, Lib.hasPrefix]
    intro h2
    exact absurd h2 (by first | exact this | exact fun h => this h.symm)

theorem head_zero (t : ByteArray) (h0 : 0 < t.size) : t.data.toList.head? = some t[0] := by
  rw [List.head?_eq_getElem?]; exact byte_at t 0 h0

theorem Valid_any (s : ByteArray) (w : World) :
    Calls Tryz.prog 120 #[.string s] w fun e w' => e = .returned (.bool (canon s.data.toList)) ∧ w = w' := by
  obtain ⟨t, ht⟩ : ∃ t, digitsOf s = t := ⟨_, rfl⟩
  have hl : t.data.toList = Lib.trimPrefix s.data.toList [45] := by rw [← ht]; simp [digitsOf]
  have hz := len_size t
  by_cases h45 : s.data.toList.head? = some 45
  · obtain ⟨r, hr⟩ : ∃ r, s.data.toList = 45 :: r := by
      cases h : s.data.toList with
      | nil => rw [h] at h45; simp at h45
      | cons c r => rw [h] at h45; simp at h45; exact ⟨r, by rw [h45]⟩
    rw [hr, trim_neg] at hl
    rw [hl] at hz
    rw [hr, canon_neg]
    by_cases h0 : t.size = 0
    · have : r = [] := List.length_eq_zero_iff.1 (by omega)
      subst this
      exact Valid_empty s (by rw [ht]; apply ByteArray.ext; apply Array.toList_inj.1; rw [hl]) w
    · by_cases h4 : 400 < t.size
      · rw [show decide (r.length ≤ 400) = false by simp; omega, Bool.and_false]
        exact Valid_long s t ht h4 w
      · rw [show decide (r.length ≤ 400) = true by simp; omega, Bool.and_true]
        refine Valid_body s t _ ht (by omega) (by omega) w ?_
        have hh := head_zero t (by omega)
        rw [hl] at hh
        rw [Lib.toList_data, hr, hl, canonN, hh]
        have hne : r.isEmpty = false := by rw [List.isEmpty_eq_false_iff]; rintro rfl; simp at hz; omega
        rw [hne]
        have hsome : (some t[0] != some 48) = (t[0] != 48) := rfl
        rw [hsome]
        cases hx : r.all isDig <;> by_cases hy : t[0] = 48 <;> simp [hy]
  · rw [trim_pos _ h45] at hl
    rw [hl] at hz
    rw [canon_pos _ h45]
    by_cases h0 : t.size = 0
    · have : s.data.toList = [] := List.length_eq_zero_iff.1 (by omega)
      rw [this]
      exact Valid_empty s (by rw [ht]; apply ByteArray.ext; apply Array.toList_inj.1; rw [hl, this]) w
    · by_cases h4 : 400 < t.size
      · rw [show decide (s.data.toList.length ≤ 400) = false by simp only [decide_eq_false_iff_not]; omega, Bool.and_false]
        exact Valid_long s t ht h4 w
      · rw [show decide (s.data.toList.length ≤ 400) = true by simp only [decide_eq_true_eq]; omega, Bool.and_true]
        refine Valid_body s t _ ht (by omega) (by omega) w ?_
        have hh := head_zero t (by omega)
        rw [hl] at hh
        rw [Lib.toList_data, hl, canonN, hh]
        have hsome : (some t[0] != some 48) = (t[0] != 48) := rfl
        have hone : (s.data.toList.length == 1) = true → t[0] = 48 → s.data.toList = [48] := by
          intro h1 h2
          cases hL : s.data.toList with
          | nil => rw [hL] at h1; cases h1
          | cons c r =>
            rw [hL] at h1 hh
            simp at h1 hh
            rw [h1, hh, h2]
        have hne : s.data.toList.isEmpty = false := by rw [List.isEmpty_eq_false_iff]; intro h; rw [h] at hh; cases hh
        rw [hsome, hne]
        cases hx : s.data.toList.all isDig
        · rfl
        · by_cases hy : t[0] = 48
          · rw [show (t[0] != 48) = false from by simp [hy]]
            cases h1 : (s.data.toList.length == 1)
            · have : (s.data.toList == [48]) = false := by
                rw [beq_eq_false_iff_ne]; intro h; rw [h] at h1; cases h1
              rw [this]; rfl
            · rw [hone h1 hy]; rfl
          · rw [show (t[0] != 48) = true from by simp [hy]]; rfl

end Go.Proofs.YtmdppblhbmbakaaGreatDoor
