/- The mathematics of DatasEndless: a type without a finite value behind a valid table. -/
import Derived.Test.YtphlokjhfbfogaaZV
set_option linter.unusedVariables false
set_option linter.unusedSimpArgs false
namespace Go.Proofs.Ytphlokjhfbfogaa
open Go.RowKit Go.Shelf

namespace Dt
def endN : ByteArray := ⟨#[69, 110, 100, 108, 101, 115, 115]⟩
def moreN : ByteArray := ⟨#[77, 111, 114, 101]⟩
def stopN : ByteArray := ⟨#[83, 116, 111, 112]⟩
def moreC (n : Nat) : ConM := ⟨moreN, [0, (n : Int) + 1]⟩
def stopC : ConM := ⟨stopN, []⟩
def endX (n : Nat) : DataM := ⟨endN, [moreC n]⟩
def endY (n : Nat) : DataM := ⟨endN, [moreC n, stopC]⟩

theorem check_zero {d : List DataM} (h : check d = 0) : many d = false ∧ form d = true ∧ twice d = false ∧ typed d = true ∧ AllFin d := by
  unfold check at h
  split at h
  · omega
  next h1 =>
  split at h
  · omega
  next h2 =>
  split at h
  · omega
  next h3 =>
  split at h
  · omega
  next h4 =>
  split at h
  · omega
  next h5 =>
  exact ⟨by simpa using h1, by simpa using h2, by simpa using h3, by simpa using h4, (finB_iff d).1 (by simpa using h5)⟩

theorem any_type (d : List DataM) (nm : ByteArray) (h : (typeOf d nm).2 = false) : inS ([intN] ++ d.map (·.name)) nm = false := by
  unfold typeOf at h
  split at h
  · cases h
  next h1 =>
  have h2 : d.any (fun x => seq x.name nm) = false := by
    rw [← fidx_any]; exact h
  rw [inS_app, Bool.or_eq_false_iff]
  refine ⟨?_, ?_⟩
  · unfold inS
    rw [List.any_cons, List.any_nil, Bool.or_false, seq_comm]
    simpa using h1
  · unfold inS
    rw [List.any_map]
    exact h2
theorem conFrom_any (nm : ByteArray) : ∀ (l : List DataM) (i : Int), (conFrom nm l i).2.2 = l.any (fun x => x.cons.any (fun c => seq c.name nm))
  | [], i => rfl
  | x :: l, i => by
    unfold conFrom
    rw [List.any_cons, ← fidx_any (fun c => seq c.name nm) x.cons]
    split
    next h => simp [h]
    next h => rw [conFrom_any nm l (i + 1)]; simp [h]
def conNames (d : List DataM) : List ByteArray := d.flatMap (fun x => x.cons.map (·.name))
theorem any_con (d : List DataM) (nm : ByteArray) (h : (conOf d nm).2.2 = false) : inS (conNames d) nm = false := by
  unfold conOf at h
  rw [conFrom_any] at h
  unfold inS conNames
  rw [List.any_flatMap]
  rw [← h]
  congr 1
  funext x
  rw [List.any_map]
  rfl
theorem twF_app : ∀ (l : List DataM) (T S : List ByteArray) (E : DataM), twF T S l = false → twF T S (l ++ [E]) = twF (T ++ l.map (·.name)) (S ++ conNames l) [E]
  | [], T, S, E, h => by simp [conNames]
  | x :: l, T, S, E, h => by
    rw [List.cons_append, twF_cons]
    rw [twF_cons] at h
    split at h
    · cases h
    next h1 =>
    cases hS : conStep S x.cons with
    | none => rw [hS] at h; cases h
    | some S' =>
      rw [hS] at h
      obtain ⟨e, _⟩ := conStep_some x.cons S S' hS
      rw [if_neg h1]
      show twF (T ++ [x.name]) S' (l ++ [E]) = _
      rw [twF_app l (T ++ [x.name]) S' E h, e]
      simp [conNames]
theorem many_app {d : List DataM} {E : DataM} (h : many d = false) (hn : d.length < 64) (hE : manyD E = false) : many (d ++ [E]) = false := by
  unfold many at h ⊢
  rw [Bool.or_eq_false_iff] at h ⊢
  refine ⟨by simp; omega, ?_⟩
  rw [List.any_append, h.2, List.any_cons, hE]
  rfl
theorem form_app {d : List DataM} {E : DataM} (h : form d = true) (hE : badD E = false) : form (d ++ [E]) = true := by
  cases d with
  | nil => cases h
  | cons x l =>
    have h1 : (isBool x && !(x :: l).any badD) = true := h
    show (isBool x && !((x :: l) ++ [E]).any badD) = true
    rw [List.any_append, List.any_cons (a := E), hE]
    simpa using h1
theorem ok_app {d : List DataM} {E : DataM} {t : Int} (h : ok d t = true) : ok (d ++ [E]) t = true := by
  simp [ok] at h ⊢
  omega
theorem typed_app {d : List DataM} {E : DataM} (h : typed d = true) (hE : ∀ c ∈ E.cons, ∀ f ∈ c.fields, ok (d ++ [E]) f = true) : typed (d ++ [E]) = true := by
  have key : ∀ x ∈ d ++ [E], ∀ c ∈ x.cons, ∀ f ∈ c.fields, ok (d ++ [E]) f = true := by
    intro x hx c hc f hf
    rcases List.mem_append.1 hx with hx | hx
    · have h2 : ∀ x ∈ d, ∀ c ∈ x.cons, ∀ f ∈ c.fields, ok d f = true := by
        simp [typed, offD, offC, offT] at h
        exact h
      exact ok_app (h2 x hx c hc f hf)
    · rw [List.mem_singleton.1 hx] at hc
      exact hE c hc f hf
  have e : (d ++ [E]).any (offD (d ++ [E])) = false := by
    rw [List.any_eq_false]
    intro x hx
    rw [Bool.not_eq_true]
    unfold offD
    rw [List.any_eq_false]
    intro c hc
    rw [Bool.not_eq_true]
    unfold offC
    rw [List.any_eq_false]
    intro f hf
    unfold offT
    rw [key x hx c hc f hf]
    simp
  unfold typed
  rw [e]
  rfl
theorem endless_x {d : List DataM} {t : Int} (h : HasFin (d ++ [endX d.length]) t) : t ≠ (d.length : Int) + 1 := by
  induction h with
  | int => omega
  | data i hi c hc hf ih =>
    intro e
    have hi2 : i = d.length := by omega
    subst hi2
    rw [List.getElem_append_right (Nat.le_refl _)] at hc
    simp [endX] at hc
    subst hc
    exact ih ((d.length : Int) + 1) (by simp [moreC]) rfl
theorem fin_y {d : List DataM} {E : DataM} {t : Int} (h : HasFin d t) : HasFin (d ++ [E]) t := by
  induction h with
  | int => exact HasFin.int
  | data i hi c hc hf ih =>
    refine HasFin.data i (by simp; omega) c ?_ ih
    rw [List.getElem_append_left hi]
    exact hc

theorem badX (n : Nat) : badD (endX n) = false := by
  have h1 : upper endN = true := by decide +kernel
  have h2 : upper moreN = true := by decide +kernel
  simp [badD, badC, endX, moreC, h1, h2]
theorem badY (n : Nat) : badD (endY n) = false := by
  have h1 : upper endN = true := by decide +kernel
  have h2 : upper moreN = true := by decide +kernel
  have h3 : upper stopN = true := by decide +kernel
  simp [badD, badC, endY, moreC, stopC, h1, h2, h3]
theorem twX {T S : List ByteArray} {n : Nat} (h1 : inS T endN = false) (h2 : inS S moreN = false) : twF T S [endX n] = false := by
  rw [twF_cons, if_neg (by rw [show (endX n).name = endN from rfl, h1]; simp)]
  show afterC _ [] (conStep S [moreC n]) = false
  rw [conStep, if_neg (by rw [show (moreC n).name = moreN from rfl, h2]; simp), conStep]
  rfl
theorem twY {T S : List ByteArray} {n : Nat} (h1 : inS T endN = false) (h2 : inS S moreN = false) (h3 : inS S stopN = false) : twF T S [endY n] = false := by
  have h4 : inS (S ++ [moreN]) stopN = false := by
    rw [inS_app, h3, Bool.false_or]
    unfold inS
    rw [List.any_cons, List.any_nil, Bool.or_false]
    unfold seq
    rw [ByteArray.toList_eq, ByteArray.toList_eq]
    rfl
  rw [twF_cons, if_neg (by rw [show (endY n).name = endN from rfl, h1]; simp)]
  show afterC _ [] (conStep S [moreC n, stopC]) = false
  rw [conStep, if_neg (by rw [show (moreC n).name = moreN from rfl, h2]; simp), conStep, if_neg (by rw [show (moreC n).name = moreN from rfl, show stopC.name = stopN from rfl, h4]; simp), conStep]
  rfl

/-- The table becomes bad. -/
theorem check_endX {d : List DataM} (h : check d = 0) (hn : d.length < 64) (ht : (typeOf d endN).2 = false) (hm : (conOf d moreN).2.2 = false) : check (d ++ [endX d.length]) = 7 := by
  obtain ⟨a1, a2, a3, a4, a5⟩ := check_zero h
  have b1 := many_app (E := endX d.length) a1 hn (by simp [manyD, manyC, endX, moreC])
  have b2 := form_app a2 (badX d.length)
  have b3 : twice (d ++ [endX d.length]) = false := by
    unfold twice
    rw [twF_app d [intN] [] _ a3]
    exact twX (any_type d endN ht) (by rw [List.nil_append]; exact any_con d moreN hm)
  have b4 : typed (d ++ [endX d.length]) = true := typed_app a4 (fun c hc f hf => by
    simp [endX] at hc
    subst hc
    simp [moreC] at hf
    rcases hf with rfl | rfl
    · simp [ok]; omega
    · simp [ok]; omega)
  have b5 : finB (d ++ [endX d.length]) = false := by
    rw [← Bool.not_eq_true, finB_iff]
    intro hall
    exact endless_x (hall d.length (by simp)) rfl
  unfold check
  rw [b1, b2, b3, b4, b5]
  rfl
/-- The table stays good. -/
theorem check_endY {d : List DataM} (h : check d = 0) (hn : d.length < 64) (ht : (typeOf d endN).2 = false) (hm : (conOf d moreN).2.2 = false) (hs : (conOf d stopN).2.2 = false) : check (d ++ [endY d.length]) = 0 := by
  obtain ⟨a1, a2, a3, a4, a5⟩ := check_zero h
  have b1 := many_app (E := endY d.length) a1 hn (by simp [manyD, manyC, endY, moreC, stopC])
  have b2 := form_app a2 (badY d.length)
  have b3 : twice (d ++ [endY d.length]) = false := by
    unfold twice
    rw [twF_app d [intN] [] _ a3]
    exact twY (any_type d endN ht) (by rw [List.nil_append]; exact any_con d moreN hm) (by rw [List.nil_append]; exact any_con d stopN hs)
  have b4 : typed (d ++ [endY d.length]) = true := typed_app a4 (fun c hc f hf => by
    simp [endY] at hc
    rcases hc with rfl | rfl
    · simp [moreC] at hf
      rcases hf with rfl | rfl
      · simp [ok]; omega
      · simp [ok]; omega
    · simp [stopC] at hf)
  have b5 : finB (d ++ [endY d.length]) = true := by
    rw [finB_iff]
    intro i hi
    by_cases hid : i < d.length
    · exact fin_y (a5 i hid)
    · have hi2 : i = d.length := by simp at hi; omega
      subst hi2
      refine HasFin.data d.length hi stopC ?_ (fun f hf => by simp [stopC] at hf)
      rw [List.getElem_append_right (Nat.le_refl _)]
      simp [endY]
  unfold check
  rw [b1, b2, b3, b4, b5]
  rfl
end Dt

end Go.Proofs.Ytphlokjhfbfogaa
