/- What a table of a caller's is. -/
import Derived.Test.YtphlokjhfbfogaaZ1
import Derived.Lib.SmallJoins
import Derived.Deep.SlicePairs
import Derived.ProofKit
import Derived.OpenShut
import Derived.ChangeOld
import Derived.SliceStrings
set_option linter.unusedVariables false
namespace Go.Proofs.Ytphlokjhfbfogaa
open Go.ChangeShapes Go.WideShapes Go.RowKit Go.Deep Go.Joins

theorem fs_arg {H : Type} {enc : TypeId × Value → H} {W : World} {fuel : Nat} {v : Value} {x : DataW H × List MemPlace} (h : DataW.trod enc Try.prog W 0 (fun _ => true) true fuel 32 [v] = some x) : ∃ l, FsAt W v l ∧ ∀ f ∈ l, In64 f := by
  rcases Go.ChangeShapes.open_ints Try.underlying32 Try.underlying27 (show Try.prog.cellsOf 27 = 1 by kernel_rfl) h with ⟨hcs, hx⟩ | ⟨a, len, cap, zs, hcs, _, hl, hm, hz, hx, hcell, hwf⟩
  · obtain rfl : v = .slice none 0 0 := by simpa using hcs
    exact ⟨[], FsAt.nil W, fun f hf => by cases hf⟩
  · obtain rfl : v = .slice (some a) len cap := by simpa using hcs
    simp only [if_true] at hz
    refine ⟨zs.take len, ⟨_, _, _, rfl, by rw [List.length_take]; omega, ?_⟩, fun f hf => bounds_i64 (hwf f (List.mem_of_mem_take hf))⟩
    by_cases h0 : len = 0
    · exact .inl h0
    · obtain ⟨b, off, spot⟩ := a
      obtain rfl : spot = none := by simpa [Addr.add] using World.cell?_spot (hcell 0 (by omega))
      refine .inr ⟨b, off, rfl, World.block_lt_of_cell? _ _ (hcell 0 (by omega)), fun i hi => ?_⟩
      have hi2 : i < len := by rw [List.length_take] at hi; omega
      have hc := hcell i (by omega)
      rw [add_plain, List.getD_eq_getElem?_getD, List.getElem?_eq_getElem (by omega), Option.getD_some] at hc
      rw [List.getElem_take]
      exact hc

theorem cs_arg {H : Type} {enc : TypeId × Value → H} {W : World} {fuel : Nat} {v : Value} {x : DataW H × List MemPlace} (h : DataW.trod enc Try.prog W 0 (fun _ => true) true fuel 35 [v] = some x) : ∃ l, CsAt W v l ∧ ∀ c ∈ l, ∀ f ∈ c.fields, In64 f := by
  rcases open_slice_pairs Try.underlying35 Try.underlying34 (by kernel_rfl) rfl rfl (by kernel_rfl) (by kernel_rfl) h with ⟨hcs, _⟩ | ⟨a, len, cap, m, j, V0, V1, D0, D1, P0, P1, hcs, _, hl, hm, hmm, _, hel⟩
  · obtain rfl : v = .slice none 0 0 := by simpa using hcs
    exact ⟨[], CsAt.nil W, fun f hf => by cases hf⟩
  · obtain rfl : v = .slice (some a) len cap := by simpa using hcs
    have hmc : m = cap := by rw [hmm]; rfl
    subst hmc
    have each : ∀ i, i < len → ∃ c : ConM, W.cell? (a.add (i * 2)) = some (.string c.name) ∧ (∃ vf, W.cell? (a.add (i * 2 + 1)) = some vf ∧ FsAt W vf c.fields) ∧ ∀ f ∈ c.fields, In64 f := by
      intro i hi
      obtain ⟨e0, e1, t0, t1⟩ := hel i (by omega)
      obtain ⟨y, hy, _, _⟩ := DataW.trod_string Try.underlying9 t0
      obtain ⟨l, hl1, hl2⟩ := fs_arg t1
      exact ⟨⟨y, l⟩, by rw [e0]; simpa using hy, ⟨V1 i, e1, hl1⟩, hl2⟩
    obtain ⟨q, hq⟩ := choose_lt each
    refine ⟨(List.range len).map q, ⟨_, _, _, rfl, by simp, ?_⟩, ?_⟩
    · by_cases h0 : len = 0
      · exact .inl h0
      · obtain ⟨b, off, spot⟩ := a
        have hc0 := (hq 0 (by omega)).1
        obtain rfl : spot = none := by simpa [Addr.add] using World.cell?_spot hc0
        refine .inr ⟨b, off, rfl, World.block_lt_of_cell? _ _ hc0, fun i hi => ?_⟩
        have hi2 : i < len := by simpa using hi
        obtain ⟨e0, ⟨vf, e1, e2⟩, _⟩ := hq i hi2
        rw [add_plain] at e0 e1
        rw [List.getElem_map, List.getElem_range]
        exact ⟨e0, vf, by rw [← Nat.add_assoc] at e1; exact e1, e2⟩
    · intro c hc
      obtain ⟨i, hi, rfl⟩ := List.mem_map.1 hc
      exact (hq i (by simpa using hi)).2.2

theorem ds_arg2 {H : Type} {enc : TypeId × Value → H} {W : World} {v : Value} {d : DataW H} {p : List MemPlace} (hv : ∃ ad n cap, v = .slice ad n cap) (h : DataW.Trod enc Try.prog W 0 (fun _ => true) true 22 v d p) : ∃ l, DsAt W v l ∧ (∀ x ∈ l, ∀ c ∈ x.cons, ∀ f ∈ c.fields, In64 f) ∧ l.length ≤ maxLen := by
  obtain ⟨fuel, h⟩ := h
  obtain ⟨ad, n, c, rfl⟩ := hv
  rcases open_slice_pairs Try.underlying22 Try.underlying37 (by kernel_rfl) rfl rfl (by kernel_rfl) (by kernel_rfl) h with ⟨hcs, _⟩ | ⟨a, len, cap, m, j, V0, V1, D0, D1, P0, P1, hcs, _, hl, hm, hmm, _, hel⟩
  · simp [Value.cells] at hcs
    obtain ⟨rfl, rfl, rfl⟩ := hcs
    exact ⟨[], ⟨_, _, _, rfl, rfl, .inl rfl⟩, (fun f hf => by cases hf), Nat.zero_le _⟩
  · simp [Value.cells] at hcs
    obtain ⟨rfl, rfl, rfl⟩ := hcs
    have hmc : m = c := by rw [hmm]; rfl
    subst hmc
    have each : ∀ i, i < n → ∃ y : DataM, W.cell? (a.add (i * 2)) = some (.string y.name) ∧ (∃ vf, W.cell? (a.add (i * 2 + 1)) = some vf ∧ CsAt W vf y.cons) ∧ ∀ k ∈ y.cons, ∀ f ∈ k.fields, In64 f := by
      intro i hi
      obtain ⟨e0, e1, t0, t1⟩ := hel i (by omega)
      obtain ⟨y, hy, _, _⟩ := DataW.trod_string Try.underlying9 t0
      obtain ⟨l, hl1, hl2⟩ := cs_arg t1
      exact ⟨⟨y, l⟩, by rw [e0]; simpa using hy, ⟨V1 i, e1, hl1⟩, hl2⟩
    obtain ⟨q, hq⟩ := choose_lt each
    refine ⟨(List.range n).map q, ⟨_, _, _, rfl, by simp, ?_⟩, ?_, by rw [List.length_map, List.length_range]; omega⟩
    · by_cases h0 : n = 0
      · exact .inl h0
      · obtain ⟨b, off, spot⟩ := a
        have hc0 := (hq 0 (by omega)).1
        obtain rfl : spot = none := by simpa [Addr.add] using World.cell?_spot hc0
        refine .inr ⟨b, off, rfl, World.block_lt_of_cell? _ _ hc0, fun i hi => ?_⟩
        have hi2 : i < n := by simpa using hi
        obtain ⟨e0, ⟨vf, e1, e2⟩, _⟩ := hq i hi2
        rw [add_plain] at e0 e1
        rw [List.getElem_map, List.getElem_range]
        exact ⟨e0, vf, by rw [← Nat.add_assoc] at e1; exact e1, e2⟩
    · intro c hc
      obtain ⟨i, hi, rfl⟩ := List.mem_map.1 hc
      exact (hq i (by simpa using hi)).2.2

theorem ds_arg {H : Type} {enc : TypeId × Value → H} {W : World} {v : Value} {d : DataW H} {p : List MemPlace} (hv : ∃ ad n cap, v = .slice ad n cap) (h : DataW.Trod enc Try.prog W 0 (fun _ => true) true 22 v d p) : ∃ l, DsAt W v l ∧ ∀ x ∈ l, ∀ c ∈ x.cons, ∀ f ∈ c.fields, In64 f := by
  obtain ⟨l, h1, h2, _⟩ := ds_arg2 hv h
  exact ⟨l, h1, h2⟩

end Go.Proofs.Ytphlokjhfbfogaa
