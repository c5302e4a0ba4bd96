/- The mathematics of below: the leaves below a leaf in preorder. -/
import Derived.Test.YtpeihgbkolihgaaDoorU25
set_option linter.unusedVariables false
set_option linter.unusedSimpArgs false
namespace Go.Proofs.YtpeihgbkolihgaaDoor

namespace Sx
def szL (sz : Int → Nat) : List Int → Nat
  | [] => 0
  | q :: qs => sz q + szL sz qs
def posK (sz : Int → Nat) : List Int → Nat → List Int
  | [], _ => []
  | q :: qs, b => (b : Int) :: posK sz qs (b + sz q)
def flatK (g : Int → Nat → List LeafM) (sz : Int → Nat) : List Int → Nat → List LeafM
  | [], _ => []
  | q :: qs, b => g q b ++ flatK g sz qs (b + sz q)
def sizeF (L : List LeafM) (k : Nat) (t : Int) : Nat := (pre L k t).length
def flat (L : List LeafM) : Nat → Int → Nat → List LeafM
  | 0, _, _ => []
  | k + 1, t, b => { leafOf L t with kids := posK (sizeF L k) (kidsOf L t) (b + 1) } :: flatK (flat L k) (sizeF L k) (kidsOf L t) (b + 1)

theorem szL_pre (L : List LeafM) (k : Nat) : ∀ l : List Int, szL (sizeF L k) l = (l.flatMap (pre L k)).length
  | [] => rfl
  | q :: l => by rw [szL, szL_pre L k l, List.flatMap_cons, List.length_append]; rfl
theorem flatK_len {g : Int → Nat → List LeafM} {sz : Int → Nat} (hg : ∀ q b, (g q b).length = sz q) : ∀ (l : List Int) (b : Nat), (flatK g sz l b).length = szL sz l
  | [], _ => rfl
  | q :: l, b => by rw [flatK, szL, List.length_append, hg, flatK_len hg l]
theorem flat_len (L : List LeafM) : ∀ (k : Nat) (t : Int) (b : Nat), (flat L k t b).length = sizeF L k t
  | 0, _, _ => rfl
  | k + 1, t, b => by
    rw [flat, List.length_cons, flatK_len (flat_len L k), szL_pre]
    rfl
theorem sizeF_succ (L : List LeafM) (k : Nat) (t : Int) : sizeF L (k + 1) t = szL (sizeF L k) (kidsOf L t) + 1 := by
  rw [szL_pre]; rfl
theorem szL_app (sz : Int → Nat) : ∀ (l m : List Int), szL sz (l ++ m) = szL sz l + szL sz m
  | [], m => by simp [szL]
  | q :: l, m => by rw [List.cons_append, szL, szL, szL_app sz l m]; omega
theorem posK_len (sz : Int → Nat) : ∀ (l : List Int) (b : Nat), (posK sz l b).length = l.length
  | [], _ => rfl
  | q :: l, b => by rw [posK, List.length_cons, List.length_cons, posK_len sz l]
theorem posK_app (sz : Int → Nat) : ∀ (l m : List Int) (b : Nat), posK sz (l ++ m) b = posK sz l b ++ posK sz m (b + szL sz l)
  | [], m, b => by simp [posK, szL]
  | q :: l, m, b => by rw [List.cons_append, posK, posK, posK_app sz l m, szL, List.cons_append, Nat.add_assoc]
theorem flatK_app (g : Int → Nat → List LeafM) (sz : Int → Nat) : ∀ (l m : List Int) (b : Nat), flatK g sz (l ++ m) b = flatK g sz l b ++ flatK g sz m (b + szL sz l)
  | [], m, b => by simp [flatK, szL]
  | q :: l, m, b => by rw [List.cons_append, flatK, flatK, flatK_app g sz l m, szL, List.append_assoc, Nat.add_assoc]
theorem posK_go (sz : Int → Nat) {l : List Int} {c : Nat} (h : c < l.length) (b : Nat) : posK sz (l.take (c + 1)) b = posK sz (l.take c) b ++ [((b + szL sz (l.take c) : Nat) : Int)] := by
  rw [← List.take_append_getElem h, posK_app]; rfl
theorem flatK_go (g : Int → Nat → List LeafM) (sz : Int → Nat) {l : List Int} {c : Nat} (h : c < l.length) (b : Nat) : flatK g sz (l.take (c + 1)) b = flatK g sz (l.take c) b ++ g l[c] (b + szL sz (l.take c)) := by
  rw [← List.take_append_getElem h, flatK_app]
  simp [flatK]
theorem szL_go (sz : Int → Nat) {l : List Int} {c : Nat} (h : c < l.length) : szL sz (l.take (c + 1)) = szL sz (l.take c) + sz l[c] := by
  rw [← List.take_append_getElem h, szL_app]
  simp [szL]
theorem szL_le (sz : Int → Nat) (l : List Int) (c : Nat) : szL sz (l.take c) ≤ szL sz l := by
  conv => rhs; rw [← List.take_append_drop c l]
  rw [szL_app]
  omega
end Sx

end Go.Proofs.YtpeihgbkolihgaaDoor
