/- The law IntegerRings. -/
import Derived.Test.YtmdppblhbmbakaaGreatDoorJ3
set_option linter.unusedVariables false
set_option linter.unusedSimpArgs false
namespace Go.Proofs.YtmdppblhbmbakaaGreatDoor
open Go.RowKit _root_.Go.Proofs.YtmdppblhbmbakaaGreatDoor.Nm

/-- The text s is that of the integer x. -/
def IsStr (s : ByteArray) (x : Int) : Prop := canon s.data.toList = true ∧ zv s.data.toList = x

theorem IsStr.of {s : ByteArray} (h : canon s.data.toList = true) : IsStr s (zv s.data.toList) := ⟨h, rfl⟩
theorem IsStr.text {s : ByteArray} {x : Int} (h : IsStr s x) : s = ⟨(Lib.itoa x).toArray⟩ := by
  rw [← h.2, itoa_zv _ h.1]
theorem IsStr.unique {s t : ByteArray} {x : Int} (h : IsStr s x) (h' : IsStr t x) : s = t := h.text.trans h'.text.symm
theorem IsStr.ten {s : ByteArray} {x : Int} (h : IsStr s x) : Ten 400 x := by rw [← h.2]; exact zv_ten _ h.1
theorem IsStr.canon {s : ByteArray} {x : Int} (h : IsStr s x) : canon (Lib.itoa x) = true := by
  have e := h.text
  have h1 := h.1
  rw [e] at h1
  exact h1

theorem Ten.canon {K : Nat} {z : Int} (h : Ten K z) (hK : K ≤ 400) : canon (Lib.itoa z) = true := by
  obtain ⟨k, h1, h2⟩ := h
  rw [canon_itoa]
  simp only [decide_eq_true_eq]
  rw [← Lib.decDigits_length]
  by_cases h0 : z.natAbs = 0
  · rw [h0, show Lib.decDigits 0 = [48] from by decide +kernel]; simp
  · rw [dec_ds _ (by omega), List.length_map, List.length_reverse]
    exact Nat.le_trans (ds_length_le 10 (by omega) _ k h2) (by omega)

theorem str_ex {K : Nat} {z : Int} (h : Ten K z) (hK : K ≤ 400) : ∃ s, IsStr s z := ⟨⟨(Lib.itoa z).toArray⟩, h.canon hK, zv_itoa z⟩

theorem Valid_to (s : ByteArray) (b : Bool) (h : Hid (canon s.data.toList = b)) (w : World) :
    Calls Tryz.prog 120 #[.string s] w fun e w' => e = .returned (.bool b) ∧ w = w' := by
  have := Valid_any s w
  rwa [h.out] at this

/-- A short canonical text stands for a short integer. -/
theorem size_ten (s : ByteArray) (n : Nat) (h : canon s.data.toList = true) (hs : s.size ≤ n) : Ten n (zv s.data.toList) := by
  rw [← len_size] at hs
  by_cases h45 : s.data.toList.head? = some 45
  · obtain ⟨r, hr⟩ := cons_of_head _ h45
    rw [hr] at h hs ⊢
    rw [canon_neg] at h
    simp only [Bool.and_eq_true, decide_eq_true_eq] at h
    have h1 := tv_lt r (canonN_parts h.1.1).1
    rw [List.length_cons] at hs
    exact ⟨r.length, by omega, by rw [zv_neg, show (-(tv r : Int)).natAbs = tv r from by omega]; exact h1⟩
  · rw [canon_pos _ h45] at h
    simp only [Bool.and_eq_true, decide_eq_true_eq] at h
    have h1 := tv_lt _ (canonN_parts h.1).1
    exact ⟨_, hs, by rw [zv_pos _ h45, Int.natAbs_natCast]; exact h1⟩

end Go.Proofs.YtmdppblhbmbakaaGreatDoor
