/- Which texts a leaf may have. -/
import Derived.Test.YtpeihgbkolihgaaDoorU7
import Derived.Test.YtpeihgbkolihgaaDoorZ5
set_option linter.unusedVariables false
set_option linter.unusedSimpArgs false
namespace Go.Proofs.YtpeihgbkolihgaaDoor
open Go.RowKit

namespace Tk
def keywords : List (List UInt8) := [[109, 111, 100, 117, 108, 101], [105, 109, 112, 111, 114, 116], [100, 97, 116, 97], [102, 117, 110], [114, 101, 97, 100], [108, 101, 116], [105, 110], [105, 102], [116, 104, 101, 110], [101, 108, 115, 101], [109, 97, 116, 99, 104], [118, 105, 101, 119], [119, 105, 116, 104], [101, 110, 100], [99, 111, 112, 121]]
def kw (x : List UInt8) : Bool := keywords.contains x
end Tk

theorem of_list {s : ByteArray} {l : List UInt8} (h : s.data.toList = l) : s = ⟨l.toArray⟩ := by
  cases s with
  | mk d => cases d with
    | mk x => simp at h; rw [h]

set_option maxRecDepth 100000 in
set_option maxHeartbeats 3200000 in
theorem keyword_no (s : ByteArray) (w : World) (h : Hid (Tk.kw s.data.toList = false)) : Calls Tryd.prog 68 #[.string s] w fun e w' => e = .returned (.bool false) ∧ w = w' := by
  have h0 : ∀ l ∈ Tk.keywords, (s.toList == l) = false := by
    intro l hl
    have h1 := h.out
    unfold Tk.kw at h1
    rw [Lib.toList_data]
    rw [beq_eq_false_iff_ne]
    rintro e
    rw [List.contains_eq_any_beq, List.any_eq_false] at h1
    exact h1 l hl (by rw [e]; simp)
  have k0 : (s.toList == [109, 111, 100, 117, 108, 101]) = false := h0 _ (by simp [Tk.keywords])
  have k1 : (s.toList == [105, 109, 112, 111, 114, 116]) = false := h0 _ (by simp [Tk.keywords])
  have k2 : (s.toList == [100, 97, 116, 97]) = false := h0 _ (by simp [Tk.keywords])
  have k3 : (s.toList == [102, 117, 110]) = false := h0 _ (by simp [Tk.keywords])
  have k4 : (s.toList == [114, 101, 97, 100]) = false := h0 _ (by simp [Tk.keywords])
  have k5 : (s.toList == [108, 101, 116]) = false := h0 _ (by simp [Tk.keywords])
  have k6 : (s.toList == [105, 110]) = false := h0 _ (by simp [Tk.keywords])
  have k7 : (s.toList == [105, 102]) = false := h0 _ (by simp [Tk.keywords])
  have k8 : (s.toList == [116, 104, 101, 110]) = false := h0 _ (by simp [Tk.keywords])
  have k9 : (s.toList == [101, 108, 115, 101]) = false := h0 _ (by simp [Tk.keywords])
  have k10 : (s.toList == [109, 97, 116, 99, 104]) = false := h0 _ (by simp [Tk.keywords])
  have k11 : (s.toList == [118, 105, 101, 119]) = false := h0 _ (by simp [Tk.keywords])
  have k12 : (s.toList == [119, 105, 116, 104]) = false := h0 _ (by simp [Tk.keywords])
  have k13 : (s.toList == [101, 110, 100]) = false := h0 _ (by simp [Tk.keywords])
  have k14 : (s.toList == [99, 111, 112, 121]) = false := h0 _ (by simp [Tk.keywords])
  clear h0 h
  go_enter Tryd.func68, Tryd.ntmps68
  go_wp2
  go_ret
  exact ⟨rfl, rfl⟩

set_option maxRecDepth 100000 in
set_option maxHeartbeats 3200000 in
theorem keyword_yes (s : ByteArray) (w : World) (h : Hid (Tk.kw s.data.toList = true)) : Calls Tryd.prog 68 #[.string s] w fun e w' => e = .returned (.bool true) ∧ w = w' := by
  have h1 := h.out
  unfold Tk.kw at h1
  rw [List.contains_iff_mem] at h1
  clear h
  unfold Tk.keywords at h1
  simp only [List.mem_cons, List.not_mem_nil, or_false] at h1
  rcases h1 with h1 | h1 | h1 | h1 | h1 | h1 | h1 | h1 | h1 | h1 | h1 | h1 | h1 | h1 | h1
  all_goals
    obtain rfl := of_list h1
    clear h1
    go_enter Tryd.func68, Tryd.ntmps68
    go_wp2
    go_ret
    exact ⟨rfl, rfl⟩

theorem keyword_any (s : ByteArray) (b : Bool) (w : World) (h : Hid (Tk.kw s.data.toList = b)) : Calls Tryd.prog 68 #[.string s] w fun e w' => e = .returned (.bool b) ∧ w = w' := by
  cases b
  · exact keyword_no s w h
  · exact keyword_yes s w h

namespace Dt
def low (s : ByteArray) : Bool := wordL s && isLo ((s.data.toList.head?.map UInt8.toNat).getD 0)
end Dt

set_option maxRecDepth 100000 in
set_option maxHeartbeats 1600000 in
theorem Lower_any (s : ByteArray) (r : Bool) (w : World) (hr : Hid ((decide (s.size ≤ 32) && Dt.low s) = r)) : Calls Tryd.prog 67 #[.string s] w fun e w' => e = .returned (.bool r) ∧ Below w.heap.size w w' := by
  have h := hr.out
  unfold Dt.low at h
  clear hr
  by_cases h1 : s.size ≤ 32
  · have g1 : (s.size : Int) ≤ 32 := by omega
    have hd : decide (s.size ≤ 32) = true := decide_eq_true h1
    rw [hd, Bool.true_and] at h
    clear hd
    obtain ⟨q, hq⟩ : ∃ q, Dt.wordL s = q := ⟨_, rfl⟩
    rw [hq] at h
    have HQ := Lib.hid hq
    cases q with
    | false =>
      obtain rfl : r = false := by rw [← h]; rfl
      clear h hq
      go_enter Tryd.func67, Tryd.ntmps67
      go_wp2_with fail
      refine (isWord_any s false w HQ).mono ?_
      rintro e w1 ⟨rfl, hb⟩
      have HB := Lib.hid hb
      clear hb
      go_wp2
      go_ret
      exact ⟨rfl, HB.out⟩
    | true =>
      have h0 : 0 < s.size := by
        unfold Dt.wordL at hq
        simp at hq
        omega
      have h0i : (0 : Int) < s.size := by omega
      obtain ⟨c, hc⟩ : ∃ c, s[0].toNat = c := ⟨_, rfl⟩
      have e1 : (s.data.toList.head?.map UInt8.toNat).getD 0 = c := by
        have hl : 0 < s.data.toList.length := by simpa using h0
        rw [List.head?_eq_getElem?, List.getElem?_eq_getElem hl]
        exact hc
      rw [e1] at h
      have hcl : c < 256 := by rw [← hc]; exact s[0].toNat_lt
      have HR := Lib.hid (show Dt.isLo c = r from h)
      have hcv : IntKind.i32.wrap (c : Int) = c := IntWalk.i32_in _ (by omega)
      clear h hq e1
      go_enter Tryd.func67, Tryd.ntmps67
      go_wp2_with fail
      refine (isWord_any s true w HQ).mono ?_
      rintro e w1 ⟨rfl, hb⟩
      have HB := Lib.hid hb
      clear hb
      go_wp2_with fail
      refine (isLower_any c r w1 HR).mono ?_
      rintro e w2 ⟨rfl, rfl⟩
      go_wp2
      go_ret
      exact ⟨rfl, HB.out⟩
  · obtain rfl : r = false := by rw [← h]; simp [h1]
    have g1 : ¬ (s.size : Int) ≤ 32 := by omega
    clear h
    go_enter Tryd.func67, Tryd.ntmps67
    go_wp2
    go_ret
    exact ⟨rfl, Below.refl _ _⟩

namespace Sx
/-- Is a text what a kind asks for? -/
def name (s : ByteArray) : Bool := (decide (s.size ≤ 32) && Dt.low s) && !Tk.kw s.data.toList
def fitsText (wanted : Int) (s : ByteArray) : Bool := if wanted = 1 then name s else if wanted = 2 then Dt.upper s else decide (s.size = 0)
end Sx

set_option maxRecDepth 100000 in
set_option maxHeartbeats 1600000 in
theorem fitsText_any (k : Int) (s : ByteArray) (r : Bool) (w : World) (hr : Hid (Sx.fitsText k s = r)) : Calls Tryd.prog 57 #[.int .i64 k, .string s] w fun e w' => e = .returned (.bool r) ∧ Below w.heap.size w w' := by
  have h := hr.out
  unfold Sx.fitsText at h
  clear hr
  by_cases h1 : k = 1
  · subst h1
    rw [if_pos rfl] at h
    unfold Sx.name at h
    obtain ⟨q, hq⟩ : ∃ q, (decide (s.size ≤ 32) && Dt.low s) = q := ⟨_, rfl⟩
    rw [hq] at h
    have HQ := Lib.hid hq
    cases q with
    | false =>
      obtain rfl : r = false := by rw [← h]; rfl
      clear h hq
      go_enter Tryd.func57, Tryd.ntmps57
      go_wp2_with fail
      refine (Lower_any s false w HQ).mono ?_
      rintro e w1 ⟨rfl, hb⟩
      have HB := Lib.hid hb
      clear hb
      go_wp2
      go_ret
      exact ⟨rfl, HB.out⟩
    | true =>
      obtain ⟨p, hp⟩ : ∃ p, Tk.kw s.data.toList = p := ⟨_, rfl⟩
      rw [hp] at h
      have HP := Lib.hid hp
      have HR : Hid ((!p) = r) := Lib.hid (by rw [← h]; rfl)
      clear h hq hp
      go_enter Tryd.func57, Tryd.ntmps57
      go_wp2_with fail
      refine (Lower_any s true w HQ).mono ?_
      rintro e w1 ⟨rfl, hb⟩
      have HB := Lib.hid hb
      clear hb
      go_wp2_with fail
      refine (keyword_any s p w1 HP).mono ?_
      rintro e w2 ⟨rfl, rfl⟩
      go_wp2
      go_ret
      exact ⟨by rw [← HR.out] <;> rfl, HB.out⟩
  · rw [if_neg h1] at h
    by_cases h2 : k = 2
    · subst h2
      rw [if_pos rfl] at h
      have HQ := Lib.hid h
      clear h h1
      go_enter Tryd.func57, Tryd.ntmps57
      go_wp2_with fail
      refine (Upper_any s r w HQ).mono ?_
      rintro e w1 ⟨rfl, hb⟩
      have HB := Lib.hid hb
      clear hb
      go_wp2
      go_ret
      exact ⟨rfl, HB.out⟩
    · rw [if_neg h2] at h
      have e1 : (k == 1) = false := by simpa using h1
      have e2 : (k == 2) = false := by simpa using h2
      have e3 : s.toList.isEmpty = r := by
        rw [← h, Lib.toList_data]
        by_cases h0 : s.size = 0
        · rw [decide_eq_true h0]
          have : s.data.toList.length = 0 := by rw [Array.length_toList]; exact h0
          rw [List.length_eq_zero_iff.1 this]; rfl
        · rw [decide_eq_false h0, List.isEmpty_eq_false_iff]
          intro e
          have : s.data.toList.length = 0 := by rw [e]; rfl
          rw [Array.length_toList] at this
          exact h0 this
      have HE := Lib.hid e3
      clear h
      go_enter Tryd.func57, Tryd.ntmps57
      go_wp2
      go_ret
      exact ⟨by rw [← HE.out] <;> rfl, Below.refl _ _⟩

end Go.Proofs.YtpeihgbkolihgaaDoor
