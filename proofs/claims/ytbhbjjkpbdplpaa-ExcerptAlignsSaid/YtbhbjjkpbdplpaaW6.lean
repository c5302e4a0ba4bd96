/- What Excerpt of the reference does. -/
import Derived.Test.YtbhbjjkpbdplpaaW2
import Derived.Test.YtbhbjjkpbdplpaaW4
set_option linter.unusedVariables false
set_option linter.unusedSimpArgs false
namespace Go.Proofs.Ytbhbjjkpbdplpaa
open Go.RowKit

theorem RefExcerpt_out (s : ByteArray) (a b : Int) (h : a < 0 ∨ b < a ∨ (s.size : Int) < b) (hs : s.size ≤ 4000) (w : World) :
    Calls Try.prog 18 #[.string s, .int .i64 a, .int .i64 b] w fun e w' => e = .returned (.tuple #[.string ⟨#[]⟩, .int .i64 2]) ∧ w = w' := by
  by_cases h1 : a < 0
  · have d1 : decide (a < 0) = true := by simpa using h1
    clear h
    go_enter Try.func18, Try.ntmps18
    go_wp2
    go_ret2
    exact ⟨rfl, rfl⟩
  · have d1 : decide (a < 0) = false := by simpa using h1
    by_cases h2 : b < a
    · have d2 : decide (b < a) = true := by simpa using h2
      clear h h1
      go_enter Try.func18, Try.ntmps18
      go_wp2
      go_ret2
      exact ⟨rfl, rfl⟩
    · have d2 : decide (b < a) = false := by simpa using h2
      have h3 : (s.size : Int) < b := by omega
      clear h h1 h2
      go_enter Try.func18, Try.ntmps18
      go_wp2
      go_ret2
      exact ⟨rfl, rfl⟩

theorem lineColOf_nat (s : ByteArray) (a : Nat) : lineColOf s a = .tuple #[.int .i64 (Ex.cnt s.data.toList a), .int .i64 ((a - Ex.lineStart s.data.toList a : Nat) : Int), .int .i64 0] := by
  have := Ex.lineStart_le s.data.toList a
  unfold lineColOf
  rw [show ((a : Int) - Ex.lineStart s.data.toList a) = ((a - Ex.lineStart s.data.toList a : Nat) : Int) from by omega]

theorem append_list (O : ByteArray) (c : UInt8) (L : List UInt8) (h : O.data.toList = L) : (O ++ (⟨#[c]⟩ : ByteArray)).data.toList = L ++ [c] := by
  simp [h]

/-- The round's end, whatever it does to the two texts. -/
def Texts (t : ByteArray) (pre : List UInt8) (c d k : Nat) (O C : ByteArray) : Prop :=
  O.data.toList = pre ++ marks Ex.sign (part t 0 (min k c)) ∧ C.data.toList = marks (fun _ => 94) (part t c (min (k - c) d))

theorem Texts.tab {t : ByteArray} {pre : List UInt8} {c d k : Nat} {O C : ByteArray} (h : Texts t pre c d k O C) (hk : k < t.size) (hc : k < c) (h9 : Ex.isCont t[k] = false) (x : UInt8) (hx : x = Ex.sign t[k]) : Texts t pre c d (k + 1) (O ++ (⟨#[x]⟩ : ByteArray)) C := by
  refine ⟨?_, ?_⟩
  · have e1 := part_succ t 0 k (by omega)
    simp only [Nat.zero_add] at e1
    rw [append_list O x _ h.1, Nat.min_eq_left (by omega), Nat.min_eq_left (by omega), e1, marks_snoc _ _ _ h9, hx, List.append_assoc]
  · rw [h.2, show k - c = 0 from by omega, show k + 1 - c = 0 from by omega]

theorem Texts.skip {t : ByteArray} {pre : List UInt8} {c d k : Nat} {O C : ByteArray} (h : Texts t pre c d k O C) (hk : k < t.size) (h9 : Ex.isCont t[k] = true) : Texts t pre c d (k + 1) O C := by
  by_cases hc : k < c
  · refine ⟨?_, ?_⟩
    · have e1 := part_succ t 0 k (by omega)
      simp only [Nat.zero_add] at e1
      rw [h.1, Nat.min_eq_left (by omega), Nat.min_eq_left (by omega), e1, marks_snoc_cont _ _ _ h9]
    · rw [h.2, show k - c = 0 from by omega, show k + 1 - c = 0 from by omega]
  · refine ⟨?_, ?_⟩
    · rw [h.1, Nat.min_eq_right (by omega), Nat.min_eq_right (by omega)]
    · rw [h.2]
      by_cases hd : k - c < d
      · rw [Nat.min_eq_left (by omega), Nat.min_eq_left (by omega), show k + 1 - c = (k - c) + 1 from by omega, part_succ t c (k - c) (by omega)]
        have e : c + (k - c) = k := by omega
        rw [marks_snoc_cont _ _ _ (by simpa [e] using h9)]
      · rw [Nat.min_eq_right (by omega), Nat.min_eq_right (by omega)]

theorem Texts.past {t : ByteArray} {pre : List UInt8} {c d k : Nat} {O C : ByteArray} (h : Texts t pre c d k O C) (hk : k < t.size) (hc : c ≤ k) (hd : d ≤ k - c) : Texts t pre c d (k + 1) O C := by
  refine ⟨?_, ?_⟩
  · rw [h.1, Nat.min_eq_right (by omega), Nat.min_eq_right (by omega)]
  · rw [h.2, Nat.min_eq_right (by omega), Nat.min_eq_right (by omega)]

theorem Texts.caret {t : ByteArray} {pre : List UInt8} {c d k : Nat} {O C : ByteArray} (h : Texts t pre c d k O C) (hk : k < t.size) (hc : c ≤ k) (hd : k - c < d) (h9 : Ex.isCont t[k] = false) : Texts t pre c d (k + 1) O (C ++ (⟨#[94]⟩ : ByteArray)) := by
  refine ⟨?_, ?_⟩
  · rw [h.1, Nat.min_eq_right (by omega), Nat.min_eq_right (by omega)]
  · rw [append_list C 94 _ h.2, Nat.min_eq_left (by omega), Nat.min_eq_left (by omega), show k + 1 - c = (k - c) + 1 from by omega, part_succ t c (k - c) (by omega)]
    have e : c + (k - c) = k := by omega
    rw [marks_snoc _ _ _ (by simpa [e] using h9)]

theorem size_snoc (O : ByteArray) (c : UInt8) : (O ++ (⟨#[c]⟩ : ByteArray)).size = O.size + 1 := by
  rw [← Ex.size_len, append_list O c _ rfl, List.length_append, Ex.size_len]; rfl

theorem part_all (t : ByteArray) (a k : Nat) : part t a (min (t.size - a) k) = (t.data.toList.drop a).take k := by
  unfold part
  rw [Nat.min_comm, ← List.take_take]
  congr 1
  exact List.take_of_length_le (by rw [List.length_drop, Ex.size_len]; omega)

theorem Texts.final {t : ByteArray} {T : List UInt8} {c d : Nat} {O C : ByteArray} (ht : t = ⟨T.toArray⟩) (h : Texts t (T ++ [10]) c d t.size O C) :
    O.data.toList = T ++ [10] ++ Ex.margin (T.take c) ∧ C.data.toList = Ex.carets ((T.drop c).take d) := by
  have hT : t.data.toList = T := by rw [ht]
  obtain ⟨h1, h2⟩ := h
  have e1 := part_all t 0 c
  rw [Nat.sub_zero, List.drop_zero, hT] at e1
  rw [e1] at h1
  rw [part_all t c d, hT] at h2
  exact ⟨h1, h2⟩

theorem empty_iff (C : ByteArray) : C.toList.isEmpty = C.data.toList.isEmpty := by rw [Lib.toList_data]

theorem bytes_eq (O X : ByteArray) (L : List UInt8) (h : O.data.toList ++ X.data.toList = L) : O ++ X = ⟨L.toArray⟩ := by
  have : (O ++ X).data.toList = L := by simpa using h
  rw [← this]

set_option maxRecDepth 100000 in
set_option maxHeartbeats 3200000 in
theorem RefExcerpt_in (s : ByteArray) (a b : Nat) (hab : a ≤ b) (hb : b ≤ s.size) (hs : s.size ≤ 4000) (w : World) :
    Calls Try.prog 18 #[.string s, .int .i64 a, .int .i64 b] w fun e w' => e = .returned (.tuple #[.string ⟨(Ex.excerpt s.data.toList a b).toArray⟩, .int .i64 0]) ∧ w = w' := by
  have d1 : decide ((a : Int) < 0) = false := by simp
  have d2 : decide ((b : Int) < a) = false := by simp; omega
  have d3 : decide ((s.size : Int) < b) = false := by simp; omega
  have ha : a ≤ s.size := by omega
  have HS := Lib.hid (Ex.starts_cnt s.data.toList a (by rw [Ex.size_len]; exact ha))
  have HC := Lib.hid (lineColOf_nat s a)
  obtain ⟨t, ht⟩ : ∃ t : ByteArray, t = ⟨(Ex.line s.data.toList (Ex.lineStart s.data.toList a)).toArray⟩ := ⟨_, rfl⟩
  have HT := Lib.hid ht
  obtain ⟨c, hc⟩ : ∃ c : Nat, c = a - Ex.lineStart s.data.toList a := ⟨_, rfl⟩
  rw [← hc] at HC
  have HCc := Lib.hid hc
  have hts : t.size ≤ 4000 := by
    rw [ht, size_mk, Ex.line_length]
    have h1 := Ex.lineLen_le (s.data.toList.drop (Ex.lineStart s.data.toList a))
    rw [List.length_drop, Ex.size_len] at h1
    omega
  have hca : c ≤ 4000 := by omega
  clear ht hc
  have hab' : (a : Int) ≤ b := by omega
  go_enter Try.func18, Try.ntmps18
  go_wp2_with (first | (go_at_call 12; refine (RefLineCol_in _ _ ha hs _).mono ?_; rintro e w' ⟨rfl, rfl⟩; rw [HC.out]) | (go_at_call 16; refine (RefLine_some _ _ _ hs HS.out _).mono ?_; rintro e w' ⟨rfl, rfl⟩; rw [← HT.out]))
  go_loop [13, 14, 15] (fun o cs i => ∃ (k : Nat) (O C : ByteArray), k ≤ t.size ∧ i = .int .i64 k ∧ o = .string O ∧ cs = .string C ∧ O.size ≤ 4001 + k ∧ C.size ≤ k ∧
      Hid (Texts t (Ex.line s.data.toList (Ex.lineStart s.data.toList a) ++ [10]) c (b - a) k O C)) (fun _ _ i => t.size - (intOf i).toNat)
  case atStart => exact ⟨0, t ++ ⟨#[10]⟩, ⟨#[]⟩, by omega, rfl, rfl, rfl, by rw [size_snoc]; omega, by decide, Lib.hid ⟨by rw [append_list t 10 _ rfl, HT.out]; simp [part, marks], by simp [part, marks]⟩⟩
  case round =>
    obtain ⟨k, O, C, hk, rfl, rfl, rfl, hO, hC, HX⟩ := hrel
    have hx0 : (0 : Int) ≤ b - a := by omega
    by_cases hlt : k < t.size
    · have hlt' : (k : Int) < t.size := by omega
      have hxb : ((t[k]).toNat : Int) < 256 := by have := (t[k]).toNat_lt; omega
      by_cases hx : 128 ≤ (t[k]).toNat ∧ (t[k]).toNat ≤ 191
      · have hx1 : (128 : Int) ≤ (t[k]).toNat := by omega
        have hx2 : ((t[k]).toNat : Int) < 192 := by omega
        have hd9 : (((t[k]).toNat : Int) == 9) = false := by rw [beq_eq_false_iff_ne]; omega
        have HX' := Lib.hid (HX.out.skip hlt (by simp [Ex.isCont, hx]))
        clear hx
        by_cases hc1 : k < c
        · have t1 : decide ((k : Int) < c) = true := by simp; omega
          have t2 : decide ((c : Int) ≤ k) = false := by simp; omega
          go_wp2
          go_round
          case rel => exact ⟨k + 1, O, C, by omega, by go_num, rfl, rfl, by omega, by omega, HX'⟩
          case measure => simp [intOf]; omega
        · have t1 : decide ((k : Int) < c) = false := by simp; omega
          have t2 : decide ((c : Int) ≤ k) = true := by simp; omega
          have hck : (c : Int) ≤ k := by omega
          by_cases hc2 : k - c < b - a
          · have t3 : decide ((k : Int) - c < b - a) = true := by simp; omega
            go_wp2
            go_round
            case rel => exact ⟨k + 1, O, C, by omega, by go_num, rfl, rfl, by omega, by omega, HX'⟩
            case measure => simp [intOf]; omega
          · have t3 : decide ((k : Int) - c < b - a) = false := by simp; omega
            go_wp2
            go_round
            case rel => exact ⟨k + 1, O, C, by omega, by go_num, rfl, rfl, by omega, by omega, HX'⟩
            case measure => simp [intOf]; omega
      · have HK : Hid (Ex.isCont t[k] = false) := Lib.hid (by simp [Ex.isCont]; omega)
        rcases (show (t[k]).toNat < 128 ∨ 191 < (t[k]).toNat by omega) with hy | hy
        · have hx1 : decide ((128 : Int) ≤ (t[k]).toNat) = false := by simp; omega
          by_cases hc1 : k < c
          · have t1 : decide ((k : Int) < c) = true := by simp; omega
            have t2 : decide ((c : Int) ≤ k) = false := by simp; omega
            by_cases h9 : t[k] = 9
            · have hd9 : (((t[k]).toNat : Int) == 9) = true := by rw [h9]; rfl
              have HX' := Lib.hid (HX.out.tab hlt hc1 HK.out 9 (by rw [h9]; rfl))
              clear h9
              go_wp2
              go_round
              case rel => exact ⟨k + 1, O ++ ⟨#[9]⟩, C, by omega, by go_num, rfl, rfl, by rw [size_snoc]; omega, by omega, HX'⟩
              case measure => simp [intOf]; omega
            · have hd9 : (((t[k]).toNat : Int) == 9) = false := by
                rw [beq_eq_false_iff_ne]
                intro e
                exact h9 (UInt8.toNat_inj.1 (by rw [show (9 : UInt8).toNat = 9 from rfl]; omega))
              have HX' := Lib.hid (HX.out.tab hlt hc1 HK.out 32 (by simp [Ex.sign, h9]))
              clear h9
              go_wp2
              go_round
              case rel => exact ⟨k + 1, O ++ ⟨#[32]⟩, C, by omega, by go_num, rfl, rfl, by rw [size_snoc]; omega, by omega, HX'⟩
              case measure => simp [intOf]; omega
          · have t1 : decide ((k : Int) < c) = false := by simp; omega
            have t2 : decide ((c : Int) ≤ k) = true := by simp; omega
            have hck : (c : Int) ≤ k := by omega
            by_cases hc2 : k - c < b - a
            · have t3 : decide ((k : Int) - c < b - a) = true := by simp; omega
              have HX' := Lib.hid (HX.out.caret hlt (by omega) hc2 HK.out)
              go_wp2
              go_round
              case rel => exact ⟨k + 1, O, C ++ ⟨#[94]⟩, by omega, by go_num, rfl, rfl, by omega, by rw [size_snoc]; omega, HX'⟩
              case measure => simp [intOf]; omega
            · have t3 : decide ((k : Int) - c < b - a) = false := by simp; omega
              have HX' := Lib.hid (HX.out.past hlt (by omega) (by omega))
              go_wp2
              go_round
              case rel => exact ⟨k + 1, O, C, by omega, by go_num, rfl, rfl, by omega, by omega, HX'⟩
              case measure => simp [intOf]; omega
        · have hx1 : (128 : Int) ≤ (t[k]).toNat := by omega
          have hx2 : decide (((t[k]).toNat : Int) < 192) = false := by simp; omega
          by_cases hc1 : k < c
          · have t1 : decide ((k : Int) < c) = true := by simp; omega
            have t2 : decide ((c : Int) ≤ k) = false := by simp; omega
            by_cases h9 : t[k] = 9
            · have hd9 : (((t[k]).toNat : Int) == 9) = true := by rw [h9]; rfl
              have HX' := Lib.hid (HX.out.tab hlt hc1 HK.out 9 (by rw [h9]; rfl))
              clear h9
              go_wp2
              go_round
              case rel => exact ⟨k + 1, O ++ ⟨#[9]⟩, C, by omega, by go_num, rfl, rfl, by rw [size_snoc]; omega, by omega, HX'⟩
              case measure => simp [intOf]; omega
            · have hd9 : (((t[k]).toNat : Int) == 9) = false := by
                rw [beq_eq_false_iff_ne]
                intro e
                exact h9 (UInt8.toNat_inj.1 (by rw [show (9 : UInt8).toNat = 9 from rfl]; omega))
              have HX' := Lib.hid (HX.out.tab hlt hc1 HK.out 32 (by simp [Ex.sign, h9]))
              clear h9
              go_wp2
              go_round
              case rel => exact ⟨k + 1, O ++ ⟨#[32]⟩, C, by omega, by go_num, rfl, rfl, by rw [size_snoc]; omega, by omega, HX'⟩
              case measure => simp [intOf]; omega
          · have t1 : decide ((k : Int) < c) = false := by simp; omega
            have t2 : decide ((c : Int) ≤ k) = true := by simp; omega
            have hck : (c : Int) ≤ k := by omega
            by_cases hc2 : k - c < b - a
            · have t3 : decide ((k : Int) - c < b - a) = true := by simp; omega
              have HX' := Lib.hid (HX.out.caret hlt (by omega) hc2 HK.out)
              go_wp2
              go_round
              case rel => exact ⟨k + 1, O, C ++ ⟨#[94]⟩, by omega, by go_num, rfl, rfl, by omega, by rw [size_snoc]; omega, HX'⟩
              case measure => simp [intOf]; omega
            · have t3 : decide ((k : Int) - c < b - a) = false := by simp; omega
              have HX' := Lib.hid (HX.out.past hlt (by omega) (by omega))
              go_wp2
              go_round
              case rel => exact ⟨k + 1, O, C, by omega, by go_num, rfl, rfl, by omega, by omega, HX'⟩
              case measure => simp [intOf]; omega
    · have hke : k = t.size := by omega
      have HF := Lib.hid (Texts.final HT.out (hke ▸ HX.out))
      have HR : Hid (∀ X : ByteArray, X.data.toList = Ex.carets1 (((Ex.line s.data.toList (Ex.lineStart s.data.toList a)).drop c).take (b - a)) → O ++ X = ⟨(Ex.excerpt s.data.toList a b).toArray⟩) := Lib.hid (by
        intro X hX
        refine bytes_eq O X _ ?_
        rw [HF.out.1, hX]
        simp only [Ex.excerpt]
        rw [HCc.out])
      clear hke
      by_cases he : C.data.toList = []
      · have t1 : C.toList.isEmpty = true := by rw [empty_iff, he]; rfl
        have t2 : (C.toList == []) = true := by rw [Lib.toList_data, he]; rfl
        have HR' := Lib.hid (HR.out ⟨#[94]⟩ (by rw [Ex.carets1, ← HF.out.2, if_pos he]))
        clear he
        go_wp2
        go_ret2
        exact ⟨by rw [← HR'.out]; rfl, rfl⟩
      · have t1 : C.toList.isEmpty = false := by rw [empty_iff]; simpa using he
        have t2 : (C.toList == []) = false := by rw [Lib.toList_data]; simpa using he
        have HR' := Lib.hid (HR.out C (by rw [Ex.carets1, ← HF.out.2, if_neg he]))
        clear he
        go_wp2
        go_ret2
        exact ⟨by rw [← HR'.out]; rfl, rfl⟩

end Go.Proofs.Ytbhbjjkpbdplpaa
