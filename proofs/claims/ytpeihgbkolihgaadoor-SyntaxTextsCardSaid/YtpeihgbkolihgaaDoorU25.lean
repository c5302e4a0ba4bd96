/- The text of a tree. -/
import Derived.Test.YtpeihgbkolihgaaDoorU24
import Derived.Lib.ItoaLen
import Derived.Lib.UnsafeStr
set_option linter.unusedVariables false
set_option linter.unusedSimpArgs false
namespace Go.Proofs.YtpeihgbkolihgaaDoor

namespace Sx
/-- What Dump writes of a leaf ahead of its kids; its text. -/
def textT (s : ByteArray) : List UInt8 := if s.size = 0 then [] else 32 :: s.data.toList
def numT (wanted num : Int) : List UInt8 := if wanted = 0 then [] else 32 :: Lib.itoa num
def headT (x : LeafM) : List UInt8 := 40 :: (form x.kind.toNat).kind.data.toList ++ (textT x.text ++ numT (form x.kind.toNat).num x.num)
def dumpF (L : List LeafM) : Nat → Int → List UInt8
  | 0, _ => []
  | k + 1, t => headT (leafOf L t) ++ ((kidsOf L t).flatMap (fun q => 32 :: dumpF L k q) ++ [41])

theorem kidsOf_leaf {L : List LeafM} {t : Int} (h : isLeaf L t = true) : kidsOf L t = (leafOf L t).kids := by
  have h1 := (isLeaf_iff L t).1 h
  unfold kidsOf leafOf
  rw [List.getElem?_eq_getElem (by omega)]
  rfl
theorem leafOf_mem {L : List LeafM} {t : Int} (h : isLeaf L t = true) : leafOf L t ∈ L := by
  have h1 := (isLeaf_iff L t).1 h
  unfold leafOf
  rw [List.getElem?_eq_getElem (by omega)]
  exact List.getElem_mem _
theorem Hh.dump {L : List LeafM} : ∀ {k m : Nat} {t : Int}, Hh L k t → k ≤ m → dumpF L m t = dumpF L k t
  | 0, _, _, h, _ => h.elim
  | k + 1, 0, _, _, hk => absurd hk (by omega)
  | k + 1, m + 1, t, h, hk => by
    rw [dumpF, dumpF]
    congr 2
    have : ∀ (l : List Int), (∀ q ∈ l, dumpF L m q = dumpF L k q) → l.flatMap (fun q => 32 :: dumpF L m q) = l.flatMap (fun q => 32 :: dumpF L k q) := by
      intro l
      induction l with
      | nil => intro _; rfl
      | cons a l ih2 => intro hl; rw [List.flatMap_cons, List.flatMap_cons, hl a (by simp), ih2 fun q hq => hl q (by simp [hq])]
    exact this _ fun q hq => (h.2 q hq).dump (by omega)

/-- How long it is. -/
theorem form_size (k : Nat) : (form k).kind.size ≤ 6 := by
  unfold form
  split <;> decide
theorem headT_len {x : LeafM} (h : SmL x) : (headT x).length ≤ 100040 := by
  unfold headT textT numT
  have h1 := form_size x.kind.toNat
  rw [Lib.size_eq] at h1
  have h2 := h.1
  rw [Lib.size_eq] at h2
  have h3 := Lib.itoa_length_le x.num h.2.2.2.1.1 (by have := h.2.2.2.1.2; omega)
  simp only [List.cons_append, List.length_cons, List.length_append]
  split <;> split <;> simp only [List.length_cons, List.length_nil] <;> omega
theorem dump_len {L : List LeafM} (hS : ∀ x ∈ L, SmL x) : ∀ {k : Nat} {t : Int}, Hh L k t → (dumpF L k t).length + 1 ≤ 100042 * (pre L k t).length
  | 0, _, h => h.elim
  | k + 1, t, h => by
    rw [dumpF, pre, List.length_append, List.length_append, List.length_cons, List.length_cons, List.length_nil]
    have h1 := headT_len (hS _ (leafOf_mem h.1))
    have : ∀ (l : List Int), (∀ q ∈ l, Hh L k q) → (l.flatMap (fun q => 32 :: dumpF L k q)).length ≤ 100042 * (l.flatMap (pre L k)).length := by
      intro l
      induction l with
      | nil => intro _; exact Nat.zero_le _
      | cons a l ih2 =>
        intro hl
        rw [List.flatMap_cons, List.flatMap_cons, List.length_append, List.length_append, List.length_cons]
        have h2 := dump_len hS (hl a (by simp))
        have h3 := ih2 fun q hq => hl q (by simp [hq])
        omega
    have h2 := this _ h.2
    omega
end Sx

end Go.Proofs.YtpeihgbkolihgaaDoor
