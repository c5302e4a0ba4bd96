/- Which types have finite values: the mathematics of the marks, and how they lie in memory. -/
import Derived.Test.YtphlokjhfbfogaaZ6
set_option linter.unusedVariables false
set_option linter.unusedSimpArgs false
namespace Go.Proofs.Ytphlokjhfbfogaa
open Go.RowKit Go.Shelf

/-- A type has a finite value. -/
inductive HasFin (d : List DataM) : Int → Prop
  | int : HasFin d 0
  | data (i : Nat) (h : i < d.length) (c : ConM) (hc : c ∈ d[i].cons) (hf : ∀ f ∈ c.fields, HasFin d f) : HasFin d ((i : Int) + 1)
def AllFin (d : List DataM) : Prop := ∀ i, i < d.length → HasFin d ((i : Int) + 1)

namespace Dt
/-- Is a type marked? -/
def mk (m : List Bool) (t : Int) : Bool := m.getD t.toNat false
def finC (m : List Bool) (c : ConM) : Bool := c.fields.all (mk m)
/-- The marks say no more than what is so. -/
def Sound (d : List DataM) (m : List Bool) : Prop := m.length = d.length + 1 ∧ ∀ t : Nat, m.getD t false = true → HasFin d t
/-- Nothing can be marked at a type. -/
def ClosedAt (d : List DataM) (m : List Bool) (i : Nat) : Prop := ∀ h : i < d.length, d[i].cons.any (finC m) = true → m.getD (i + 1) false = true
def falses (m : List Bool) : Nat := m.count false

theorem closed_fin {d : List DataM} {m : List Bool} (h0 : m.getD 0 false = true) (hc : ∀ i, i < d.length → ClosedAt d m i) {t : Int} (h : HasFin d t) : mk m t = true := by
  induction h with
  | int => exact h0
  | data i hi c hc' hf ih =>
    have : d[i].cons.any (finC m) = true := by
      rw [List.any_eq_true]
      exact ⟨c, hc', by rw [finC, List.all_eq_true]; exact ih⟩
    have h1 := hc i hi hi this
    show m.getD ((i : Int) + 1).toNat false = true
    rw [show ((i : Int) + 1).toNat = i + 1 by omega]
    exact h1

theorem sound_set {d : List DataM} {m : List Bool} (h : Sound d m) (i : Nat) (hi : i < d.length) (hok : ∀ c ∈ d[i].cons, ∀ f ∈ c.fields, ok d f = true) (ha : d[i].cons.any (finC m) = true) : Sound d (m.set (i + 1) true) := by
  refine ⟨by simp [h.1], fun t ht => ?_⟩
  by_cases e : t = i + 1
  · subst e
    obtain ⟨c, hc, hall⟩ := List.any_eq_true.1 ha
    have := HasFin.data (d := d) i hi c hc (fun f hf => by
      have h1 := List.all_eq_true.1 hall f hf
      have h2 := h.2 f.toNat h1
      have h3 := hok c hc f hf
      simp [ok] at h3
      rw [show f = ((f.toNat : Nat) : Int) by omega]
      exact h2)
    exact this
  · refine h.2 t ?_
    rw [List.getD_eq_getElem?_getD, List.getElem?_set_ne (fun e' => e e'.symm), ← List.getD_eq_getElem?_getD] at ht
    exact ht

theorem falses_set : ∀ (m : List Bool) (i : Nat) (hi : i < m.length), m[i] = false → falses (m.set i true) + 1 = falses m
  | a :: m, 0, hi, h => by
    have : a = false := h
    subst this
    simp [falses]
  | a :: m, i + 1, hi, h => by
    have ih := falses_set m i (by simpa using hi) (by simpa using h)
    unfold falses at ih ⊢
    rw [List.set_cons_succ, List.count_cons, List.count_cons]
    omega
end Dt

/-- The marks lie in a block. -/
def MarksAt (W : World) (b : Nat) (m : List Bool) : Prop := W.heap[b]? = some (.cells (m.map Value.bool).toArray 4 (0, 0))
theorem MarksAt.lt {W : World} {b : Nat} {m : List Bool} (h : MarksAt W b m) : b < W.heap.size := (Array.getElem?_eq_some_iff.1 h).1
theorem MarksAt.keep {W W' : World} {b : Nat} {m : List Bool} (h : MarksAt W b m) (e : W'.heap[b]? = W.heap[b]?) : MarksAt W' b m := e.trans h
theorem MarksAt.cell {W : World} {b : Nat} {m : List Bool} (h : MarksAt W b m) (i : Nat) (hi : i < m.length) : W.cell? ⟨b, i, none⟩ = some (.bool (m.getD i false)) := by
  rw [List.getD_eq_getElem?_getD, List.getElem?_eq_getElem hi]
  simp [World.cell?, show W.heap[b]? = _ from h, hi]
theorem MarksAt.frozen {W : World} {b : Nat} {m : List Bool} (h : MarksAt W b m) (i : Nat) : W.frozen? ⟨b, i, none⟩ = false := by
  simp [World.frozen?, show W.heap[b]? = _ from h]
theorem MarksAt.set {W : World} {b : Nat} {m : List Bool} (h : MarksAt W b m) (i : Nat) (hi : i < m.length) : MarksAt (W.setCell ⟨b, i, none⟩ (.bool true)) b (m.set i true) := by
  obtain ⟨hlt, hk⟩ := Array.getElem?_eq_some_iff.1 h
  show (W.heap.modify b _)[b]? = _
  rw [Array.getElem?_eq_getElem (by rw [Array.size_modify]; exact hlt), Array.getElem_modify_self, hk]
  simp [List.map_set]
theorem marks_of_row {W : World} {B b n : Nat} {m : List Bool} (h : W.ownsRow B 4 1 (.slice (some ⟨b, 0, none⟩) n n) n (m.map Value.bool)) : MarksAt W b m := by
  obtain ⟨h1, h2⟩ := h
  rcases h2 with ⟨h, _⟩ | ⟨g, cap, cur, h3, h4, h5, h6, h7, h8, h9⟩
  · cases h
  · cases h3
    unfold MarksAt
    rw [h5, ← h9, List.take_of_length_le (by simp [h8])]

theorem eFin1 : ∀ args w, (callFunc 44 args).run Try.prog w = .ok (.enter 44 args) w := enters_of Try.func44 (by kernel_rfl) rfl
theorem eFin11 : ∀ args w, (callFunc 45 args).run Try.prog w = .ok (.enter 45 args) w := enters_of Try.func45 (by kernel_rfl) rfl

set_option maxRecDepth 100000 in
set_option maxHeartbeats 1600000 in
theorem fin11_any (t : Int) (b g n : Nat) (r : Bool) (w : World) (hc : w.cell? ⟨b, 0, none⟩ = some (.slice (some ⟨g, 0, none⟩) n n)) (h0 : 0 ≤ t) (h1 : t < n) (hm : w.cell? ⟨g, t.toNat, none⟩ = some (.bool r)) :
    Calls Try.prog 45 #[.int .i64 t, .pointer (some ⟨b, 0, none⟩)] w fun e w' => e = .returned (.bool !r) ∧ w' = w := by
  obtain ⟨k, rfl⟩ : ∃ k : Nat, t = k := ⟨t.toNat, by omega⟩
  have hk : k < n := by omega
  rw [show ((k : Int)).toNat = k by omega] at hm
  go_enter Try.func45, Try.ntmps45
  go_wp2
  go_ret
  exact ⟨rfl, rfl⟩

theorem fin11_pred (l : List Int) (b g n : Nat) (m : List Bool) (w : World) (hb : b < w.heap.size) (hc : w.cell? ⟨b, 0, none⟩ = some (.slice (some ⟨g, 0, none⟩) n n)) (hm : MarksAt w g m) (hn : m.length = n) (hl : ∀ t ∈ l, 0 ≤ t ∧ t < n) : PredF 45 #[.pointer (some ⟨b, 0, none⟩)] l (fun t => !Dt.mk m t) w := by
  intro W x hx hW
  obtain ⟨h0, h1⟩ := hl x hx
  refine (fin11_any x b g n (Dt.mk m x) W ((hW.cell (p := ⟨b, 0, none⟩) hb).trans hc) h0 h1 ((hm.keep (hW.block g hm.lt)).cell x.toNat (by omega))).mono ?_
  rintro e w' ⟨rfl, rfl⟩
  exact ⟨rfl, hW⟩

set_option maxRecDepth 100000 in
set_option maxHeartbeats 1600000 in
theorem fin1_any (x : ConM) (vf : Value) (b g n : Nat) (m : List Bool) (r : Bool) (w : World) (hb : b < w.heap.size) (hc : w.cell? ⟨b, 0, none⟩ = some (.slice (some ⟨g, 0, none⟩) n n)) (hm : MarksAt w g m) (hn : m.length = n) (hl : ∀ t ∈ x.fields, 0 ≤ t ∧ t < n) (hf : FsAt w vf x.fields) (hs : SmC x) (hr : Hid (Dt.finC m x = r)) :
    Calls Try.prog 44 #[.agg #[.string x.name, vf], .pointer (some ⟨b, 0, none⟩)] w fun e w' => e = .returned (.bool r) ∧ Below w.heap.size w w' := by
  obtain ⟨fa, fc, rfl⟩ := hf.slice
  have hlen := hs.2.1
  obtain ⟨q, hq⟩ : ∃ q, x.fields.any (fun t => !Dt.mk m t) = q := ⟨_, rfl⟩
  obtain rfl : r = !q := by rw [← hr.out, ← hq, Dt.finC, ← List.not_all_eq_any_not]; simp
  have hA := (Below.refl w.heap.size w).alloc (Nat.le_refl _) (.cells #[.string x.name, .slice fa x.fields.length fc] 34)
  have HC := Lib.hid (containsF 45 #[.pointer (some ⟨b, 0, none⟩)] (fun t => !Dt.mk m t) (.slice fa x.fields.length fc) x.fields q (w.alloc (.cells #[.string x.name, .slice fa x.fields.length fc] 34)) eFin11 (fin11_pred x.fields b g n m _ (Nat.lt_of_lt_of_le hb hA.size) ((hA.cell (p := ⟨b, 0, none⟩) hb).trans hc) (hm.keep (hA.block g hm.lt)) hn hl) (hf.keep hA (Nat.le_refl _)) (by omega) (Lib.hid hq))
  have HA := Lib.hid hA
  generalize x.name = nm at HA HC
  generalize x.fields.length = fl at HA HC
  clear hA hf hs hlen hc hq hr hl hn hm
  go_enter Try.func44, Try.ntmps44
  go_wp2_with fail
  refine HC.out.mono ?_
  rintro e w1 ⟨rfl, hb'⟩
  have HB := Lib.hid (HA.out.trans (hb'.mono HA.out.size))
  clear hb'
  go_wp2
  go_ret
  exact ⟨rfl, HB.out⟩

theorem fin1_pred (l : List ConM) (hs : ∀ c ∈ l, SmC c) (b g n : Nat) (m : List Bool) (w : World) (hb : b < w.heap.size) (hc : w.cell? ⟨b, 0, none⟩ = some (.slice (some ⟨g, 0, none⟩) n n)) (hm : MarksAt w g m) (hn : m.length = n) (hl : ∀ c ∈ l, ∀ t ∈ c.fields, 0 ≤ t ∧ t < n) : PredC 44 #[.pointer (some ⟨b, 0, none⟩)] l (Dt.finC m) w := by
  intro W x vf hx hW hf
  refine (fin1_any x vf b g n m _ W (Nat.lt_of_lt_of_le hb hW.size) ((hW.cell (p := ⟨b, 0, none⟩) hb).trans hc) (hm.keep (hW.block g hm.lt)) hn (hl x hx) hf (hs x hx) (Lib.hid rfl)).mono ?_
  rintro e w' ⟨rfl, hb'⟩
  exact ⟨rfl, hW.trans (hb'.mono hW.size)⟩

end Go.Proofs.Ytphlokjhfbfogaa
