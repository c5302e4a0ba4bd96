/- Which texts are keywords; the kinds of words; the last token. -/
import Derived.Test.YtpoddcegfhgdeaaDoorY5
set_option linter.unusedVariables false
set_option linter.unusedSimpArgs false
namespace Go.Proofs.YtpoddcegfhgdeaaDoor
open Go.RowKit

theorem of_list {s : ByteArray} {l : List UInt8} (h : s.data.toList = l) : s = ⟨l.toArray⟩ := by
  cases s with
  | mk d => cases d with
    | mk x => simp at h; rw [h]

set_option maxRecDepth 100000 in
set_option maxHeartbeats 3200000 in
theorem keyword_no (s : ByteArray) (w : World) (h : Hid (Tk.kw s.data.toList = false)) : Calls Tryd.prog 14 #[.string s] w fun e w' => e = .returned (.bool false) ∧ w = w' := by
  have h0 : ∀ l ∈ Tk.keywords, (s.toList == l) = false := by
    intro l hl
    have h1 := h.out
    unfold Tk.kw at h1
    rw [Lib.toList_data]
    rw [beq_eq_false_iff_ne]
    rintro e
    rw [List.contains_eq_any_beq, List.any_eq_false] at h1
    exact h1 l hl (by rw [e]; simp)
  have k0 : (s.toList == [109, 111, 100, 117, 108, 101]) = false := h0 _ (by simp [Tk.keywords])
  have k1 : (s.toList == [105, 109, 112, 111, 114, 116]) = false := h0 _ (by simp [Tk.keywords])
  have k2 : (s.toList == [100, 97, 116, 97]) = false := h0 _ (by simp [Tk.keywords])
  have k3 : (s.toList == [102, 117, 110]) = false := h0 _ (by simp [Tk.keywords])
  have k4 : (s.toList == [114, 101, 97, 100]) = false := h0 _ (by simp [Tk.keywords])
  have k5 : (s.toList == [108, 101, 116]) = false := h0 _ (by simp [Tk.keywords])
  have k6 : (s.toList == [105, 110]) = false := h0 _ (by simp [Tk.keywords])
  have k7 : (s.toList == [105, 102]) = false := h0 _ (by simp [Tk.keywords])
  have k8 : (s.toList == [116, 104, 101, 110]) = false := h0 _ (by simp [Tk.keywords])
  have k9 : (s.toList == [101, 108, 115, 101]) = false := h0 _ (by simp [Tk.keywords])
  have k10 : (s.toList == [109, 97, 116, 99, 104]) = false := h0 _ (by simp [Tk.keywords])
  have k11 : (s.toList == [118, 105, 101, 119]) = false := h0 _ (by simp [Tk.keywords])
  have k12 : (s.toList == [119, 105, 116, 104]) = false := h0 _ (by simp [Tk.keywords])
  have k13 : (s.toList == [101, 110, 100]) = false := h0 _ (by simp [Tk.keywords])
  have k14 : (s.toList == [99, 111, 112, 121]) = false := h0 _ (by simp [Tk.keywords])
  clear h0 h
  go_enter Tryd.func14, Tryd.ntmps14
  go_wp2
  go_ret
  exact ⟨rfl, rfl⟩

set_option maxRecDepth 100000 in
set_option maxHeartbeats 3200000 in
theorem keyword_yes (s : ByteArray) (w : World) (h : Hid (Tk.kw s.data.toList = true)) : Calls Tryd.prog 14 #[.string s] w fun e w' => e = .returned (.bool true) ∧ w = w' := by
  have h1 := h.out
  unfold Tk.kw at h1
  rw [List.contains_iff_mem] at h1
  clear h
  unfold Tk.keywords at h1
  simp only [List.mem_cons, List.not_mem_nil, or_false] at h1
  rcases h1 with h1 | h1 | h1 | h1 | h1 | h1 | h1 | h1 | h1 | h1 | h1 | h1 | h1 | h1 | h1
  all_goals
    obtain rfl := of_list h1
    clear h1
    go_enter Tryd.func14, Tryd.ntmps14
    go_wp2
    go_ret
    exact ⟨rfl, rfl⟩

theorem keyword_any (s : ByteArray) (b : Bool) (w : World) (h : Hid (Tk.kw s.data.toList = b)) : Calls Tryd.prog 14 #[.string s] w fun e w' => e = .returned (.bool b) ∧ w = w' := by
  cases b
  · exact keyword_no s w h
  · exact keyword_yes s w h

set_option maxRecDepth 100000 in
set_option maxHeartbeats 3200000 in
theorem wordKind_any (x : ByteArray) (k : Nat) (w : World) (h0 : 0 < x.size) (h : Hid (Tk.wordKind x.data.toList = k)) : Calls Tryd.prog 58 #[.string x] w fun e w' => e = .returned (.int .i64 k) ∧ w = w' := by
  have hk := h.out
  unfold Tk.wordKind at hk
  obtain ⟨b, hb⟩ : ∃ b, Tk.kw x.data.toList = b := ⟨_, rfl⟩
  rw [hb] at hk
  have HB := Lib.hid hb
  have hhd : x.data.toList.headD 0 = x[0] := by
    have hl : 0 < x.data.toList.length := by simpa using h0
    rw [List.headD_eq_head?_getD, List.head?_eq_getElem?, List.getElem?_eq_getElem hl, Option.getD_some]
    rfl
  rw [hhd] at hk
  have HK := Lib.hid hk
  clear hhd hb h hk
  by_cases h1 : x.data.toList = [95]
  · have t1 : (x.toList == [95]) = true := by rw [Lib.toList_data, h1]; rfl
    obtain rfl : k = 4 := by rw [← HK.out, if_pos h1]
    clear h1
    go_enter Tryd.func58, Tryd.ntmps58
    go_wp2
    go_ret
    exact ⟨rfl, rfl⟩
  · have t1 : (x.toList == [95]) = false := by rw [Lib.toList_data]; simpa using h1
    have hk := HK.out
    rw [if_neg h1] at hk
    clear h1 HK
    cases b with
    | true =>
      obtain rfl : k = 5 := by rw [← hk]; rfl
      clear hk
      go_enter Tryd.func58, Tryd.ntmps58
      go_wp2_with (go_at_call 14; refine (keyword_any _ true _ HB).mono ?_; rintro e w' ⟨rfl, rfl⟩)
      go_ret
      exact ⟨rfl, rfl⟩
    | false =>
      rw [if_neg (by decide)] at hk
      by_cases h2 : (x[0].toNat : Int) ≤ 90
      · obtain rfl : k = 2 := by rw [← hk, if_pos (by omega)]
        clear hk
        go_enter Tryd.func58, Tryd.ntmps58
        go_wp2_with (go_at_call 14; refine (keyword_any _ false _ HB).mono ?_; rintro e w' ⟨rfl, rfl⟩)
        go_ret
        exact ⟨rfl, rfl⟩
      · obtain rfl : k = 1 := by rw [← hk, if_neg (by omega)]
        clear hk
        go_enter Tryd.func58, Tryd.ntmps58
        go_wp2_with (go_at_call 14; refine (keyword_any _ false _ HB).mono ?_; rintro e w' ⟨rfl, rfl⟩)
        go_ret
        exact ⟨rfl, rfl⟩

theorem flatTok_get (s : ByteArray) : ∀ (ts : List Tk.Tok) (i : Nat) (h : i < ts.length), (flatTok s ts)[i * 4]? = some (.int .i64 ts[i].1) ∧ (flatTok s ts)[i * 4 + 1]? = some (.string (s.extract ts[i].2.1 ts[i].2.2)) ∧ (flatTok s ts)[i * 4 + 2]? = some (.int .i64 ts[i].2.1) ∧ (flatTok s ts)[i * 4 + 3]? = some (.int .i64 ts[i].2.2)
  | [], i, h => absurd h (Nat.not_lt_zero i)
  | t :: ts, 0, h => ⟨rfl, rfl, rfl, rfl⟩
  | t :: ts, i + 1, h => by
    have ih := flatTok_get s ts i (by simpa using h)
    have e : ∀ j, (flatTok s (t :: ts))[(i + 1) * 4 + j]? = (flatTok s ts)[i * 4 + j]? := fun j => by
      have : flatTok s (t :: ts) = tokCells s t ++ flatTok s ts := rfl
      rw [this, List.getElem?_append_right (by simp [tokCells]; omega)]
      congr 1
      simp [tokCells]; omega
    have e0 := e 0
    simp only [Nat.add_zero] at e0
    simp only [List.getElem_cons_succ]
    exact ⟨e0.trans ih.1, (e 1).trans ih.2.1, (e 2).trans ih.2.2.1, (e 3).trans ih.2.2.2⟩

theorem TokRow.at {B : Nat} {W : World} {v : Value} {s : ByteArray} {ts : List Tk.Tok} (h : TokRow B W v s ts) (i : Nat) (hi : i < ts.length) :
    ∃ g cap, v = .slice (some ⟨g, 0, none⟩) ts.length cap ∧ g < W.heap.size ∧ B ≤ g ∧ W.cell? ⟨g, i * 4, none⟩ = some (.int .i64 ts[i].1) ∧ W.cell? ⟨g, i * 4 + 1, none⟩ = some (.string (s.extract ts[i].2.1 ts[i].2.2)) ∧ W.cell? ⟨g, i * 4 + 2, none⟩ = some (.int .i64 ts[i].2.1) ∧ W.cell? ⟨g, i * 4 + 3, none⟩ = some (.int .i64 ts[i].2.2) := by
  rcases h.2 with ⟨_, h0⟩ | ⟨g, cap, cur, rfl, hB, hg, h1, h2, h3, h4⟩
  · omega
  · have hcell : ∀ (j : Nat), j < ts.length * 4 → W.cell? ⟨g, j, none⟩ = (flatTok s ts)[j]? := fun j hj => by
      simp only [World.cell?, hg]
      rw [← h4, List.getElem?_take, if_pos hj]; simp
    obtain ⟨e0, e1, e2, e3⟩ := flatTok_get s ts i hi
    exact ⟨g, cap, rfl, (Array.getElem?_eq_some_iff.1 hg).1, hB, (hcell _ (by omega)).trans e0, (hcell _ (by omega)).trans e1, (hcell _ (by omega)).trans e2, (hcell _ (by omega)).trans e3⟩

end Go.Proofs.YtpoddcegfhgdeaaDoor
