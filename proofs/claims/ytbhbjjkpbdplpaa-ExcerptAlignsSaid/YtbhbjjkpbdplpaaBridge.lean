/- From the library's words for searching and counting to those of XMath. Plain lists and strings. -/
import Derived.Lib.Strings
import Derived.Lib.IndexBytes
import Derived.Lib.Bytealg
import Derived.Lib.LastIndexByte
import Derived.Test.YtbhbjjkpbdplpaaMath
set_option linter.unusedVariables false
set_option linter.unusedSimpArgs false
namespace Go.Proofs.Ytbhbjjkpbdplpaa.Ex

theorem lineStart_eq (l : List UInt8) (o f : Nat) (h : f ≤ o) (hn : ∀ i, f ≤ i → i < o → l[i]? ≠ some 10) (ha : f = 0 ∨ (0 < f ∧ l[f - 1]? = some 10)) : lineStart l o = f := by
  have h1 := lineStart_le l o
  have h2 := lineStart_at l o
  rcases Nat.lt_trichotomy (lineStart l o) f with h3 | h3 | h3
  · rcases ha with rfl | ⟨hp, ha⟩
    · omega
    · exact absurd ha (lineStart_none l o (f - 1) (by omega) (by omega))
  · exact h3
  · rcases h2 with h2 | ⟨hp, h2⟩
    · omega
    · exact absurd h2 (hn _ (by omega) (by omega))

theorem byte_eq (b : UInt8) : ((b.toNat : Int) = 10) ↔ b = 10 := by
  constructor
  · intro h
    have h' : b.toNat = 10 := by omega
    exact UInt8.toNat_inj.1 (by rw [h']; rfl)
  · rintro rfl; rfl

theorem size_len (s : ByteArray) : s.data.toList.length = s.size := (Lib.size_eq s).symm

theorem data_get (s : ByteArray) (j : Nat) (h : j < s.size) : s.data.toList[j]? = some (s.data[j]!) := by
  have h' : j < s.data.size := h
  rw [getElem!_pos s.data j h']
  simp

theorem lastIndex_lineStart (s : ByteArray) (o : Nat) (h : o ≤ s.size) : Lib.lastIndexByte (s.extract 0 o) 10 + 1 = (lineStart s.data.toList o : Nat) := by
  have hd : (s.extract 0 o).data.toList = s.data.toList.take o := by rw [Lib.extract_data]; simp
  have hz : (s.extract 0 o).size = o := by
    rw [← size_len, hd, List.length_take, size_len]; omega
  have hg : ∀ j, j < o → s.data.toList[j]? = some ((s.extract 0 o).data[j]!) := by
    intro j hj
    rw [← data_get _ j (by omega), hd, List.getElem?_take, if_pos hj]
  rcases Lib.lastIndexByte_spec (s.extract 0 o) 10 with ⟨e, hn⟩ | ⟨i, hi, e, hc, hn⟩
  · rw [e, lineStart_eq s.data.toList o 0 (by omega) ?_ (.inl rfl)]
    · rfl
    · intro j _ hj hh
      rw [hg j hj] at hh
      exact hn j (by omega) ((byte_eq _).2 (Option.some.inj hh))
  · rw [hz] at hi
    rw [e, lineStart_eq s.data.toList o (i + 1) (by omega) ?_ (.inr ⟨by omega, ?_⟩)]
    · rfl
    · intro j h1 hj hh
      rw [hg j hj] at hh
      exact hn j (by omega) (by omega) ((byte_eq _).2 (Option.some.inj hh))
    · simp only [Nat.add_sub_cancel]
      rw [hg i hi, (byte_eq _).1 hc]

theorem indexByte_lineLen (l : List UInt8) : Lib.indexByte l 10 = if lineLen l < l.length then (lineLen l : Int) else -1 := by
  induction l with
  | nil => rfl
  | cons b r ih =>
    unfold Lib.indexByte lineLen
    by_cases h : b = 10
    · subst h; simp
    · have hb : (b == (10 : UInt8)) = false := by simpa using h
      rw [hb, ih, if_neg h]
      have := lineLen_le r
      by_cases h2 : lineLen r < r.length
      · have h3 : (((lineLen r : Nat) : Int) == -1) = false := by simp
        simp [h2, h3]
      · simp [h2]

theorem index_lineEnd (s : ByteArray) (o : Nat) (h : o ≤ s.size) :
    Lib.indexByte (s.extract o s.size).data.toList 10 = if lineEnd s.data.toList o < s.size then (lineEnd s.data.toList o : Int) - o else -1 := by
  rw [Lib.extract_to_end, indexByte_lineLen]
  have hl := size_len s
  have he : lineEnd s.data.toList o = o + lineLen (s.data.toList.drop o) := rfl
  rw [he, List.length_drop, hl]
  by_cases h1 : lineLen (s.data.toList.drop o) < s.size - o
  · rw [if_pos h1, if_pos (by omega)]; omega
  · rw [if_neg h1, if_neg (by omega)]

theorem count_cnt (s : ByteArray) (o : Nat) : Lib.countByte (s.extract 0 o).data.toList 10 = cnt s.data.toList o := by
  rw [Lib.extract_data]; simp [Lib.countByte, cnt]

theorem extract_line (s : ByteArray) (f : Nat) : s.extract f (lineEnd s.data.toList f) = ⟨(line s.data.toList f).toArray⟩ := by
  have : (s.extract f (lineEnd s.data.toList f)).data.toList = line s.data.toList f := by
    rw [Lib.extract_data]
    simp [line, lineEnd]
  rw [← this]

end Go.Proofs.Ytbhbjjkpbdplpaa.Ex
