/- The mathematics of SyntaxDepths: chains, and a root with many kids. -/
import Derived.Test.YtpeihgbkolihgaaDoorU15
set_option linter.unusedVariables false
set_option linter.unusedSimpArgs false
namespace Go.Proofs.YtpeihgbkolihgaaDoor
open Go.RowKit

namespace Sx
def copyL (i : Nat) : LeafM := ⟨18, ⟨#[]⟩, 0, [(i : Int) + 1], 0, 0⟩
def numL : LeafM := ⟨9, ⟨#[]⟩, 0, [], 0, 0⟩
def chain (d : Nat) : List LeafM := (List.range d).map copyL ++ [numL]
set_option maxRecDepth 100000 in
theorem check_chain (d : Nat) (h0 : 60 ≤ d) (h1 : d < 70) : check (chain d) 0 = if 64 < d then 7 else 0 := by
  have hd : d = 60 ∨ d = 61 ∨ d = 62 ∨ d = 63 ∨ d = 64 ∨ d = 65 ∨ d = 66 ∨ d = 67 ∨ d = 68 ∨ d = 69 := by omega
  rcases hd with rfl | rfl | rfl | rfl | rfl | rfl | rfl | rfl | rfl | rfl <;> decide +kernel

def wideL (m : Nat) : List LeafM := ⟨11, ⟨#[67]⟩, 0, (List.range m).map (fun i => ((i + 1 : Nat) : Int)), 0, 0⟩ :: List.replicate m numL
theorem wide_len (m : Nat) : (wideL m).length = m + 1 := by simp [wideL]
theorem wide_at (m c : Nat) (h : c < m) : (wideL m)[c + 1]? = some numL := by
  unfold wideL
  rw [List.getElem?_cons_succ, List.getElem?_replicate, if_pos h]
theorem kid_step (m f c : Nat) (h : c < m) (s : St) (q : Nat) (hq : c + 1 + q = m) (hm : s.marks = List.replicate (c + 1) true ++ List.replicate (q + 1) false) :
    reachF (wideL m) (f + 1) ((c + 1 : Nat) : Int) 1 s = (true, ⟨List.replicate (c + 2) true ++ List.replicate q false, s.count + 1, max s.top 1⟩) := by
  have hl : isLeaf (wideL m) ((c + 1 : Nat) : Int) = true := (by
    unfold isLeaf
    rw [wide_len]
    simp
    omega)
  have hg : s.marks[c + 1]? = some false := by
    rw [hm, List.getElem?_append_right (by simp), List.length_replicate, Nat.sub_self, List.getElem?_replicate, if_pos (by omega)]
  have hb : bad (wideL m) ((c + 1 : Nat) : Int) s = false := by
    unfold bad
    rw [hl, Int.toNat_natCast, hg]
    rfl
  rw [reachF_good hb]
  have hk : kidsOf (wideL m) ((c + 1 : Nat) : Int) = [] := by
    unfold kidsOf
    rw [Int.toNat_natCast, wide_at m c h]
    rfl
  rw [hk]
  unfold kidsF mark
  rw [Int.toNat_natCast, hm]
  have hset : (List.replicate (c + 1) true ++ List.replicate (q + 1) false).set (c + 1) true = List.replicate (c + 2) true ++ List.replicate q false := by
    rw [List.set_append_right _ _ (by simp), List.length_replicate, Nat.sub_self, List.replicate_succ (n := q), List.set_cons_zero]
    have : List.replicate (c + 2) true = List.replicate (c + 1) true ++ [true] := List.replicate_succ'
    rw [this, List.append_assoc]
    rfl
  rw [hset]
theorem kids_all (m f : Nat) : ∀ (q c : Nat) (s : St), c + q = m → s.marks = List.replicate (c + 1) true ++ List.replicate q false → s.top ≤ 1 →
    ∃ s', kidsF (fun k s => reachF (wideL m) (f + 1) k 1 s) ((List.range' c q).map (fun i => ((i + 1 : Nat) : Int))) s = (true, s') ∧ s'.count = s.count + q ∧ s'.top ≤ 1
  | 0, c, s, _, _, ht => ⟨s, by simp [kidsF], rfl, ht⟩
  | q + 1, c, s, hc, hm, ht => by
    have h1 := kid_step m f c (by omega) s q (by omega) hm
    obtain ⟨s', h2, h3, h4⟩ := kids_all m f q (c + 1) ⟨List.replicate (c + 2) true ++ List.replicate q false, s.count + 1, max s.top 1⟩ (by omega) rfl (Int.max_le.2 ⟨ht, Int.le_refl _⟩)
    refine ⟨s', ?_, by rw [h3]; show s.count + 1 + q = _; omega, h4⟩
    rw [List.range'_succ, List.map_cons, kidsF]
    rw [h1]
    exact h2
theorem deepest_wide (m : Nat) : (deepest (wideL m) 0).2 = true ∧ (deepest (wideL m) 0).1 ≤ 1 := by
  have hb : bad (wideL m) 0 (start (m + 1)) = false := by
    unfold bad isLeaf start
    rw [wide_len]
    simp [List.replicate_succ]
  have hk : kidsOf (wideL m) 0 = (List.range' 0 m).map (fun i => ((i + 1 : Nat) : Int)) := by
    unfold kidsOf wideL
    rw [List.range_eq_range']
    rfl
  obtain ⟨s', h2, h3, h4⟩ := kids_all m m m 0 (mark 0 0 (start (m + 1))) (by omega) (by simp [mark, start, List.replicate_succ]) (by simp [mark, start])
  unfold deepest
  rw [wide_len, reachF_good hb, hk]
  dsimp only
  rw [show ((0 : Int) + 1) = 1 from rfl, h2]
  refine ⟨?_, h4⟩
  rw [Bool.true_and, decide_eq_true_eq]
  dsimp only
  rw [h3]
  simp [mark, start]
  omega
theorem leaf_wide (m : Nat) (k : Int) (h : 0 < k) (h2 : k ≤ m) : leafOf (wideL m) k = numL := by
  obtain ⟨i, rfl⟩ := Int.eq_ofNat_of_zero_le (Int.le_of_lt h)
  unfold leafOf
  rw [Int.toNat_natCast]
  obtain ⟨j, rfl⟩ : ∃ j, i = j + 1 := ⟨i - 1, by omega⟩
  rw [wide_at m j (by omega)]
  rfl
theorem take_all (L : List LeafM) (g : Grp) (hs : inSet g.set 9 = true) : ∀ (ks : List Int) (c : Nat), (∀ k ∈ ks, leafOf L k = numL) → ((c + ks.length : Nat) : Int) ≤ g.most → takeF L g ks c = c + ks.length
  | [], c, _, _ => rfl
  | k :: ks, c, hk, hm => by
    rw [takeF, hk k (by simp)]
    have h1 : decide ((c : Int) < g.most) = true := decide_eq_true (by rw [List.length_cons] at hm; omega)
    rw [h1, show numL.kind = 9 from rfl, hs, if_pos (show (true && true) = true from rfl), take_all L g hs ks (c + 1) (fun q hq => hk q (List.mem_cons_of_mem _ hq)) (by rw [List.length_cons] at hm; omega), List.length_cons]
    omega
theorem numL_ok (L : List LeafM) : leafOk L numL = true := by
  unfold leafOk
  rw [show numL.kind = 9 from rfl, show numL.kids = [] from rfl]
  rfl
theorem root_ok (m : Nat) (hm : m ≤ 100000) : leafOk (wideL m) ⟨11, ⟨#[67]⟩, 0, (List.range m).map (fun i => ((i + 1 : Nat) : Int)), 0, 0⟩ = true := by
  have ht : takeF (wideL m) ⟨392960, 0, 9223372036854775807⟩ ((List.range m).map (fun i => ((i + 1 : Nat) : Int))) 0 = m := by
    have hall : ∀ k ∈ (List.range m).map (fun i => ((i + 1 : Nat) : Int)), leafOf (wideL m) k = numL := by
      intro k hk
      rw [List.mem_map] at hk
      obtain ⟨i, hi, rfl⟩ := hk
      rw [List.mem_range] at hi
      exact leaf_wide m _ (by omega) (by omega)
    have hlen : ((List.range m).map (fun i => ((i + 1 : Nat) : Int))).length = m := by rw [List.length_map, List.length_range]
    have hmost : ((0 + ((List.range m).map (fun i => ((i + 1 : Nat) : Int))).length : Nat) : Int) ≤ (⟨392960, 0, 9223372036854775807⟩ : Grp).most := by
      rw [hlen]
      show ((0 + m : Nat) : Int) ≤ 9223372036854775807
      omega
    rw [take_all (wideL m) ⟨392960, 0, 9223372036854775807⟩ (by decide +kernel) _ 0 hall hmost, hlen, Nat.zero_add]
  have hk : kidsFit (wideL m) [⟨392960, 0, 9223372036854775807⟩, ⟨0, 0, 0⟩, ⟨0, 0, 0⟩] ((List.range m).map (fun i => ((i + 1 : Nat) : Int))) = true := by
    rw [kidsFit, ht]
    have h0 : ¬ ((m : Int) < 0) := by omega
    rw [if_neg h0, List.drop_eq_nil_of_le (by simp)]
    rfl
  unfold leafOk
  dsimp only
  rw [show (11 : Int).toNat = 11 from rfl, show form 11 = ⟨⟨#[98, 117, 105, 108, 100]⟩, 2, 0, ⟨392960, 0, 9223372036854775807⟩, ⟨0, 0, 0⟩, ⟨0, 0, 0⟩⟩ from rfl]
  dsimp only
  rw [hk]
  have e1 : inSet 8388606 11 = true := by decide +kernel
  have e2 : fitsText 2 ⟨#[67]⟩ = true := by decide +kernel
  rw [e1, e2]
  rfl
theorem forms_wide (m : Nat) (hm : m ≤ 100000) : forms (wideL m) = true := by
  unfold forms
  rw [List.all_eq_true]
  intro x hx
  unfold wideL at hx
  rcases List.mem_cons.1 hx with rfl | hx
  · exact root_ok m hm
  · rw [List.mem_replicate] at hx
    rw [hx.2]
    exact numL_ok _
theorem check_wide (m : Nat) (hm : m ≤ 100000) : check (wideL m) 0 = if 4096 < m + 1 then 6 else 0 := by
  unfold check
  rw [wide_len]
  by_cases h : 4096 < m + 1
  · rw [if_pos h, if_pos h]
  · rw [if_neg h, if_neg h]
    have h1 := deepest_wide m
    rw [h1.1, forms_wide m hm, if_neg (by simp), if_neg (by simp), if_neg (by omega)]
end Sx

end Go.Proofs.YtpeihgbkolihgaaDoor
