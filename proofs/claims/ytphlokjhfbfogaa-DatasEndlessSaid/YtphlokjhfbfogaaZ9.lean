/- Sets as maps that a call makes; what hasTwice does. -/
import Derived.Test.YtphlokjhfbfogaaZ8
import Derived.Test.YtphlokjhfbfogaaZ4
import Derived.Maps.OwnOps
import Derived.Maps.OwnIn
import Derived.Maps.Views
set_option linter.unusedVariables false
set_option linter.unusedSimpArgs false
namespace Go.Proofs.Ytphlokjhfbfogaa
open Go.RowKit Go.Shelf Go.Maps

theorem zeroBool (w : World) : (zeroValue 4).run Try.prog w = .ok (.bool false) w := by kernel_rfl
theorem lawStr : Keyed Try.prog 9 := string_keyed Try.underlying9
theorem lawTyp : Keyed Try.prog 27 := int_keyed Try.underlying27

/-- Are two keys the same? -/
noncomputable def eqL (a b : Lit) : Bool := @decide (a = b) (Classical.propDecidable _)
theorem eqL_self (a : Lit) : eqL a a = true := by unfold eqL; exact @decide_eq_true _ (Classical.propDecidable _) rfl
theorem eqL_ne {a b : Lit} (h : a ≠ b) : eqL a b = false := by unfold eqL; exact @decide_eq_false _ (Classical.propDecidable _) h

/-- Block b is a map whose keys with the element true are those of S. -/
def MapSet (w : World) (k : TypeId) (b n : Nat) (S : Lit → Bool) : Prop :=
  ∃ D : DataW Unit, w.ownsMap Try.prog k (plainElem Try.prog 4) b n D ∧ IsMap D ∧ ∀ kl, D.atKey kl (.lit (.bool false)) = .lit (.bool (S kl))

theorem MapSet.new (w : World) (k : TypeId) : MapSet (w.alloc (.map #[] 0)) k w.heap.size 0 (fun _ => false) :=
  ⟨.map [], World.ownsMap_made w _ _ _, isMap_empty, fun kl => rfl⟩
theorem MapSet.keep {w w' : World} {k : TypeId} {b n : Nat} {S : Lit → Bool} (h : MapSet w k b n S) (hk : w'.heap[b]? = w.heap[b]?) : MapSet w' k b n S := by
  obtain ⟨D, ⟨es, clock, hb, F, hs, hD⟩, h2, h3⟩ := h
  exact ⟨D, ⟨es, clock, hk.trans hb, F, hs, hD⟩, h2, h3⟩
theorem MapSet.mono {w : World} {k : TypeId} {b n m : Nat} {S : Lit → Bool} (h : MapSet w k b n S) (hm : n ≤ m) : MapSet w k b m S := by
  obtain ⟨D, h1, h2, h3⟩ := h
  exact ⟨D, h1.mono hm, h2, h3⟩
theorem MapSet.lt {w : World} {k : TypeId} {b n : Nat} {S : Lit → Bool} (h : MapSet w k b n S) : b < w.heap.size := by
  obtain ⟨D, h1, _⟩ := h
  exact h1.lt
theorem MapSet.to {w : World} {k : TypeId} {b n : Nat} {S T : Lit → Bool} (h : MapSet w k b n S) (e : S = T) : MapSet w k b n T := e ▸ h

theorem plainElem_bool_inv {P : Program} {e : TypeId} (he : P.underlying e = some .bool) {v : Value} {z : DataW Unit × List MemPlace} (h : plainElem P e v = some z) : ∃ c, v = .bool c ∧ z = (.lit (.bool c), []) := by
  unfold plainElem at h
  rw [he] at h
  cases v <;> simp at h
  exact ⟨_, rfl, h.symm⟩

theorem MapSet.look {w : World} {k t : TypeId} {b n : Nat} {S : Lit → Bool} (h : MapSet w k b n S) (K : Keyed Try.prog k) (ht : Try.prog.underlying t = some (.map k 4)) {key : Value} {kl : Lit} (hkey : keyOf Try.prog k key = some kl) :
    (Instr.lookup t (.map (some b)) key false).run Try.prog w = .ok (.bool (S kl)) w := by
  obtain ⟨D, h1, h2, h3⟩ := h
  obtain ⟨v, ps, hrun, hv⟩ := h1.lookup K ht (zeroBool w) (plainElem_bool Try.underlying4 false) hkey
  obtain ⟨c, rfl, hc⟩ := plainElem_bool_inv Try.underlying4 hv
  rw [h3] at hc
  simp at hc
  rw [hc.1]
  exact hrun

theorem MapSet.store {w : World} {k t : TypeId} {b n : Nat} {S : Lit → Bool} (h : MapSet w k b n S) (K : Keyed Try.prog k) (ht : Try.prog.underlying t = some (.map k 4)) (hn : n < maxLen) {key : Value} {kl : Lit} (hkey : keyOf Try.prog k key = some kl) (hl : WideAt.IsKeyLit kl) :
    ∃ w', (Instr.mapUpdate t (.map (some b)) key (.bool true)).run Try.prog w = .ok () w' ∧ MapSet w' k b (n + 1) (fun x => eqL x kl || S x) ∧ w.grownBy w' (some b) := by
  obtain ⟨D, h1, h2, h3⟩ := h
  obtain ⟨w', hrun, r1, r2⟩ := h1.update K ht hn hkey (plainElem_bool Try.underlying4 true)
  refine ⟨w', hrun, ⟨_, r1, h2.put _ _, fun x => ?_⟩, r2⟩
  by_cases hx : x = kl
  · subst hx
    rw [atKey_put_same h2 hl]
    dsimp only
    rw [eqL_self]
    rfl
  · rw [atKey_put_other hx, h3]
    simp [eqL_ne hx]

theorem wpList_set_look (w : World) {ops : Array Oper} {rest : List Oper} {o : Oper} {a : Act} {Q : Exit → Act → World → Prop}
    (hg : o.guard = none) (m x : Operand) (t : TypeId) (hop : o.op = Op.lookup t m x false) (k : TypeId) (K : Keyed Try.prog k) (ht : Try.prog.underlying t = some (.map k 4)) (b n : Nat) (S : Lit → Bool)
    (hm : a.eval m = .map (some b)) (hown : MapSet w k b n S) (key : Value) (kl : Lit) (hx : a.eval x = key) (hkey : keyOf Try.prog k key = some kl) (r : Bool) (hr : S kl = r)
    (hK : wpList Try.prog ops Q rest (a.put o.dst (.bool r)) w) : wpList Try.prog ops Q (o :: rest) a w := by
  subst hr
  refine wpList_plain hg fun K' hK' => ?_
  have hrun := hown.look K ht hkey
  unfold Oper.wp
  simp [execOp, hop, hm, hx, hrun, Result.andThen]
  exact hK' _ _ hK

theorem wpList_set_store (w : World) {ops : Array Oper} {rest : List Oper} {o : Oper} {a : Act} {Q : Exit → Act → World → Prop}
    (hg : o.guard = none) (m x v : Operand) (t : TypeId) (hop : o.op = Op.mapUpdate t m x v) (k : TypeId) (K : Keyed Try.prog k) (ht : Try.prog.underlying t = some (.map k 4)) (b n : Nat) (S : Lit → Bool)
    (hm : a.eval m = .map (some b)) (hown : MapSet w k b n S) (hn : n < maxLen) (key : Value) (kl : Lit) (hx : a.eval x = key) (hv : a.eval v = .bool true) (hkey : keyOf Try.prog k key = some kl) (hl : WideAt.IsKeyLit kl)
    (hK : ∀ w', MapSet w' k b (n + 1) (fun x => eqL x kl || S x) → w.grownBy w' (some b) → wpList Try.prog ops Q rest (a.put o.dst undef) w') : wpList Try.prog ops Q (o :: rest) a w := by
  refine wpList_plain hg fun K' hK' => ?_
  obtain ⟨w', hrun, r1, r2⟩ := hown.store K ht hn hkey hl
  unfold Oper.wp
  simp [execOp, hop, hm, hx, hv, hrun, Result.andThen]
  exact hK' _ _ (hK w' r1 r2)

theorem wpList_set_insert (w : World) {ops : Array Oper} {rest : List Oper} {o : Oper} {a : Act} {Q : Exit → Act → World → Prop}
    (hg : o.guard = none) (m x v : Operand) (t : TypeId) (hop : o.op = Op.insert t m x v) (k : TypeId) (K : Keyed Try.prog k) (ht : Try.prog.underlying t = some (.map k 4)) (b n : Nat) (S : Lit → Bool)
    (hm : a.eval m = .map (some b)) (hown : MapSet w k b n S) (hn : n < maxLen) (key : Value) (kl : Lit) (hx : a.eval x = key) (hv : a.eval v = .bool true) (hkey : keyOf Try.prog k key = some kl) (hl : WideAt.IsKeyLit kl)
    (hK : ∀ w', MapSet w' k b (n + 1) (fun x => eqL x kl || S x) → w.grownBy w' (some b) → wpList Try.prog ops Q rest (a.put o.dst undef) w') : wpList Try.prog ops Q (o :: rest) a w := by
  refine wpList_plain hg fun K' hK' => ?_
  obtain ⟨w', hrun, r1, r2⟩ := hown.store K ht hn hkey hl
  unfold Oper.wp
  simp [execOp, hop, hm, hx, hv, hrun, Result.andThen]
  exact hK' _ _ (hK w' r1 r2)

section
variable {F : Fence} {nF : Nat}
theorem wpListIn_set_look (w : World) {ops : Array Oper} {rest : List Oper} {o : Oper} {a : Act} {Q : Exit → Act → World → Prop}
    (hg : o.guard = none) (m x : Operand) (t : TypeId) (hop : o.op = Op.lookup t m x false) (k : TypeId) (K : Keyed Try.prog k) (ht : Try.prog.underlying t = some (.map k 4)) (b n : Nat) (S : Lit → Bool)
    (hm : a.eval m = .map (some b)) (hown : MapSet w k b n S) (key : Value) (kl : Lit) (hx : a.eval x = key) (hkey : keyOf Try.prog k key = some kl) (r : Bool) (hr : S kl = r)
    (hK : wpListIn F nF Try.prog ops Q rest (a.put o.dst (.bool r)) w) : wpListIn F nF Try.prog ops Q (o :: rest) a w := by
  subst hr
  refine wpListIn_plain hg fun K' hK' => ?_
  have hrun := hown.look K ht hkey
  unfold Oper.wpIn
  refine ⟨by simp [Oper.about, hop], ?_⟩
  rw [Oper.semAt_plain F _ _ (by rw [hop]; intro c hc'; cases hc')]
  simp [execOp, hop, hm, hx, hrun, Result.andThen]
  exact hK' _ _ hK

theorem wpListIn_set_store (w : World) {ops : Array Oper} {rest : List Oper} {o : Oper} {a : Act} {Q : Exit → Act → World → Prop}
    (hg : o.guard = none) (m x v : Operand) (t : TypeId) (hop : o.op = Op.mapUpdate t m x v) (k : TypeId) (K : Keyed Try.prog k) (ht : Try.prog.underlying t = some (.map k 4)) (b n : Nat) (S : Lit → Bool)
    (hm : a.eval m = .map (some b)) (hown : MapSet w k b n S) (hn : n < maxLen) (key : Value) (kl : Lit) (hx : a.eval x = key) (hv : a.eval v = .bool true) (hkey : keyOf Try.prog k key = some kl) (hl : WideAt.IsKeyLit kl)
    (hK : ∀ w', MapSet w' k b (n + 1) (fun x => eqL x kl || S x) → w.grownBy w' (some b) → wpListIn F nF Try.prog ops Q rest (a.put o.dst undef) w') : wpListIn F nF Try.prog ops Q (o :: rest) a w := by
  refine wpListIn_plain hg fun K' hK' => ?_
  obtain ⟨w', hrun, r1, r2⟩ := hown.store K ht hn hkey hl
  unfold Oper.wpIn
  refine ⟨by simp [Oper.about, hop], ?_⟩
  rw [Oper.semAt_plain F _ _ (by rw [hop]; intro c hc'; cases hc')]
  simp [execOp, hop, hm, hx, hv, hrun, Result.andThen]
  exact hK' _ _ (hK w' r1 r2)
end

namespace Dt
def inS (S : List ByteArray) (x : ByteArray) : Bool := S.any (fun y => seq y x)
def conStep (S : List ByteArray) : List ConM → Option (List ByteArray)
  | [] => some S
  | c :: l => if inS S c.name then none else conStep (S ++ [c.name]) l
def twF (T S : List ByteArray) : List DataM → Bool
  | [] => false
  | x :: l => if inS T x.name then true else match conStep S x.cons with
    | none => true
    | some S' => twF (T ++ [x.name]) S' l
def twice (d : List DataM) : Bool := twF [intN] [] d
/-- A list of names as a set of keys. -/
noncomputable def keyS (S : List ByteArray) (kl : Lit) : Bool := S.any (fun y => eqL kl (.string y.data.toList))
theorem keyS_nil : (fun _ => false) = keyS [] := rfl
theorem keyS_snoc (S : List ByteArray) (x : ByteArray) : (fun kl => eqL kl (.string x.data.toList) || keyS S kl) = keyS (S ++ [x]) := by
  funext kl
  simp [keyS, List.any_append, Bool.or_comm]
theorem keyS_in (S : List ByteArray) (x : ByteArray) : keyS S (.string x.data.toList) = inS S x := by
  unfold keyS inS
  congr 1
  funext y
  unfold seq
  rw [ByteArray.toList_eq, ByteArray.toList_eq]
  by_cases h : y.data.toList = x.data.toList
  · rw [h, eqL_self]; simp
  · have h2 : ¬ (Lit.string x.data.toList = Lit.string y.data.toList) := by
      intro e
      injection e with e
      exact h e.symm
    rw [eqL_ne h2]
    exact (beq_false_of_ne h).symm
noncomputable def keyI (S : List Int) (kl : Lit) : Bool := S.any (fun y => eqL kl (.int .i64 y))
theorem keyI_nil : (fun _ => false) = keyI [] := rfl
theorem keyI_snoc (S : List Int) (x : Int) : (fun kl => eqL kl (.int .i64 x) || keyI S kl) = keyI (S ++ [x]) := by
  funext kl
  simp [keyI, List.any_append, Bool.or_comm]
theorem keyI_in (S : List Int) (x : Int) : keyI S (.int .i64 x) = decide (x ∈ S) := by
  induction S with
  | nil => rfl
  | cons y S ih =>
    show (eqL (.int .i64 x) (.int .i64 y) || keyI S (.int .i64 x)) = _
    rw [ih]
    by_cases h : x = y
    · subst h; rw [eqL_self]; simp
    · rw [eqL_ne (by intro e; cases e; exact h rfl)]; simp [h]
end Dt

end Go.Proofs.Ytphlokjhfbfogaa
