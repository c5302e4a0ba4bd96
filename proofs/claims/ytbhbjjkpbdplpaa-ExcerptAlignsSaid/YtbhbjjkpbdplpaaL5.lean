/- The walk of the law ExcerptJoins. -/
import Derived.Test.YtbhbjjkpbdplpaaL2
import Derived.Test.YtbhbjjkpbdplpaaW4
set_option linter.unusedVariables false
set_option linter.unusedSimpArgs false
namespace Go.Proofs.Ytbhbjjkpbdplpaa
open Go.RowKit

/-- What has been joined before line k. -/
def Joined (l : List UInt8) (k : Nat) (S : List UInt8) : Prop := (k = 0 ∧ S = []) ∨ (0 < k ∧ ∃ f, Ex.starts l (k - 1) = some f ∧ S = l.take (Ex.lineEnd l f))

theorem Joined.none {l : List UInt8} {k : Nat} {S : List UInt8} (h : Joined l k S) (hn : Ex.starts l k = none) : 0 < k ∧ S = l := by
  rcases h with ⟨rfl, _⟩ | ⟨hk, f, hf, rfl⟩
  · simp [Ex.starts] at hn
  · refine ⟨hk, ?_⟩
    by_cases he : Ex.lineEnd l f = l.length
    · rw [he, List.take_length]
    · have := starts_step_some l (k - 1) f hf he
      rw [show k - 1 + 1 = k from by omega, hn] at this
      simp at this

theorem line_take (l : List UInt8) (g : Nat) : l.take g ++ Ex.line l g = l.take (Ex.lineEnd l g) := by
  unfold Ex.line Ex.lineEnd
  rw [List.take_add]

theorem Joined.first {l : List UInt8} {S : List UInt8} (h : Joined l 0 S) (g : Nat) (hg : Ex.starts l 0 = some g) : Joined l 1 (S ++ Ex.line l g) := by
  rcases h with ⟨_, rfl⟩ | ⟨hk, _⟩
  · refine .inr ⟨by omega, g, hg, ?_⟩
    simp [Ex.starts] at hg
    subst hg
    have := line_take l 0
    simpa using this
  · omega

theorem Joined.more {l : List UInt8} {k : Nat} {S : List UInt8} (h : Joined l k S) (hk : 0 < k) (g : Nat) (hg : Ex.starts l k = some g) : Joined l (k + 1) (S ++ [10] ++ Ex.line l g) := by
  rcases h with ⟨rfl, _⟩ | ⟨_, f, hf, rfl⟩
  · omega
  · refine .inr ⟨by omega, g, by simpa using hg, ?_⟩
    by_cases he : Ex.lineEnd l f = l.length
    · have := starts_step_none l (k - 1) f hf he
      rw [show k - 1 + 1 = k from by omega, hg] at this
      simp at this
    · have h2 := starts_step_some l (k - 1) f hf he
      rw [show k - 1 + 1 = k from by omega, hg] at h2
      have h3 : g = Ex.lineEnd l f + 1 := by simpa using h2
      have h4 := Ex.lineEnd_le l f (Ex.starts_le _ _ _ hf)
      have h5 := Ex.lineEnd_at l f (by omega)
      rw [← line_take l g, h3, List.take_add_one, h5]
      rfl

theorem Joined.length {l : List UInt8} {k : Nat} {S : List UInt8} (h : Joined l k S) : S.length ≤ l.length := by
  rcases h with ⟨_, rfl⟩ | ⟨_, f, _, rfl⟩
  · simp
  · rw [List.length_take]; omega

theorem append_any (S T : ByteArray) : (S ++ T).data.toList = S.data.toList ++ T.data.toList := by simp

theorem bytes_ext (S T : ByteArray) (h : S.data.toList = T.data.toList) : S = T := by
  obtain ⟨⟨a⟩⟩ := S
  obtain ⟨⟨b⟩⟩ := T
  simp at h
  rw [h]

set_option maxHeartbeats 3200000 in
theorem law_ExcerptJoins (a0 : ByteArray) (w0 : a0.size ≤ maxLen) (w : World) :
    Calls Try.prog 7 #[.string a0] w fun e w' => e = .returned (.bool true) ∧ Below w.heap.size w w' := by
  unfold maxLen at w0
  by_cases hbig : 300 < a0.size
  · have hbig' : (300 : Int) < a0.size := by omega
    go_enter Try.func7, Try.ntmps7
    go_wp2_with fail
    refine (awake_any _).mono ?_
    rintro e wa ⟨rfl, hb⟩
    have HB := Lib.hid hb
    clear hb
    go_wp2
    go_ret
    exact ⟨rfl, HB.out⟩
  · have hs : a0.size ≤ 4000 := by omega
    have hs3 : a0.size ≤ 300 := by omega
    have hsm : (a0.size : Int) ≤ 300 := by omega
    clear w0 hbig
    go_enter Try.func7, Try.ntmps7
    go_wp2_with fail
    refine (awake_any _).mono ?_
    rintro e wa ⟨rfl, hb⟩
    have HB := Lib.hid hb
    clear hb
    go_wp2
    go_loopw [3, 4] (fun s i wr => ∃ (k : Nat) (S : ByteArray), k ≤ a0.size + 1 ∧ i = .int .i64 k ∧ s = .string S ∧ S.size ≤ 300 ∧ Hid (Joined a0.data.toList k S.data.toList) ∧ Hid (Below w.heap.size w wr)) (fun _ i _ => a0.size + 2 - (intOf i).toNat)
    case atStart => exact ⟨0, ⟨#[]⟩, by omega, rfl, rfl, by decide, Lib.hid (.inl ⟨rfl, rfl⟩), HB⟩
    case round =>
      obtain ⟨k, S, hk, rfl, rfl, hS, HJ, HW⟩ := hrel
      have hkb : (k : Int) ≤ 9223372036854775807 := by omega
      have hkt : (k : Int) ≤ a0.size + 1 := by omega
      cases hst : Ex.starts a0.data.toList k with
      | none =>
        have HST := Lib.hid hst
        clear hst
        obtain ⟨hk0, hSa⟩ := HJ.out.none HST.out
        have hSe := bytes_ext _ _ hSa
        clear hSa HJ hS
        subst hSe
        have hk0' : decide ((0 : Int) < k) = true := by simp; omega
        go_wp2_with fail
        refine (Line_none _ _ hkb hs HST.out _).mono ?_
        rintro e wb ⟨rfl, hbb⟩
        have HB2 := Lib.hid (HW.out.trans (hbb.mono (by have := HW.out.size; omega)))
        clear hbb
        go_wp2
        go_ret
        exact ⟨rfl, HB2.out⟩
      | some g =>
        have HST := Lib.hid hst
        have hkc : k ≤ a0.size := by
          obtain ⟨h1, h2, _⟩ := Ex.starts_some _ _ _ hst
          have := Ex.cnt_le a0.data.toList g
          rw [Ex.size_len] at h1
          omega
        clear hst
        obtain ⟨T, hT⟩ : ∃ T : ByteArray, T = ⟨(Ex.line a0.data.toList g).toArray⟩ := ⟨_, rfl⟩
        have hTd : T.data.toList = Ex.line a0.data.toList g := by rw [hT]
        have hTz : T.size ≤ 300 := by
          rw [hT, size_mk, Ex.line_length]
          have h1 := Ex.lineLen_le (a0.data.toList.drop g)
          rw [List.length_drop, Ex.size_len] at h1
          omega
        have HT := Lib.hid hT
        have HTd := Lib.hid hTd
        clear hT hTd
        by_cases hk0 : k = 0
        · have hk0' : ¬ (0 : Int) < k := by omega
          have hk0n : ¬ 0 < k := by omega
          have HJ2 : Hid (Joined a0.data.toList (k + 1) (S ++ T).data.toList) := Lib.hid (by
            rw [append_any, HTd.out]
            rw [hk0] at HJ HST ⊢
            exact HJ.out.first g HST.out)
          have hz : (S ++ T).size ≤ 300 := by
            have := HJ2.out.length
            rw [Ex.size_len, Ex.size_len] at this
            omega
          clear hk0
          go_wp2_with fail
          refine (Line_some _ _ _ hkb hs HST.out _).mono ?_
          rintro e wb ⟨rfl, hbb⟩
          rw [← HT.out]
          have HB2 := Lib.hid (HW.out.trans (hbb.mono (by have := HW.out.size; omega)))
          clear hbb
          go_wp2
          go_roundw
          case rel => exact ⟨k + 1, S ++ T, by omega, by go_num, rfl, hz, HJ2, HB2⟩
          case measure => simp [intOf]; omega
        · have hk0' : (0 : Int) < k := by omega
          have hk0n : 0 < k := by omega
          have HJ2 : Hid (Joined a0.data.toList (k + 1) (S ++ (⟨#[10]⟩ : ByteArray) ++ T).data.toList) := Lib.hid (by
            rw [append_any, append_any, HTd.out]
            exact HJ.out.more (by omega) g HST.out)
          have hz : (S ++ (⟨#[10]⟩ : ByteArray) ++ T).size ≤ 300 := by
            have := HJ2.out.length
            rw [Ex.size_len, Ex.size_len] at this
            omega
          clear hk0
          go_wp2_with fail
          refine (Line_some _ _ _ hkb hs HST.out _).mono ?_
          rintro e wb ⟨rfl, hbb⟩
          rw [← HT.out]
          have HB2 := Lib.hid (HW.out.trans (hbb.mono (by have := HW.out.size; omega)))
          clear hbb
          go_wp2
          go_roundw
          case rel => exact ⟨k + 1, S ++ (⟨#[10]⟩ : ByteArray) ++ T, by omega, by go_num, rfl, hz, HJ2, HB2⟩
          case measure => simp [intOf]; omega

end Go.Proofs.Ytbhbjjkpbdplpaa
