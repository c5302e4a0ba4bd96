/- What a linear form of a caller's is. -/
import Derived.Test.YtmdppblhbmbakaaGreatDoorF10
import Derived.Lib.SmallJoins
import Derived.Deep.SlicePairs
set_option linter.unusedVariables false
namespace Go.Proofs.YtmdppblhbmbakaaGreatDoor
open Go.ChangeShapes Go.WideShapes Go.RowKit Go.Deep Go.Joins

set_option maxRecDepth 100000 in
theorem form_arg {H : Type} {enc : TypeId × Value → H} {W : World} {base : Nat} {v : Value} {d : DataW H} {p : List MemPlace}
    (hv : Value.okWide Tryz.prog W .any base 24 v) (h : DataW.Trod enc Tryz.prog W 0 (fun _ => true) true 24 v d p) :
    ∃ (ad : Option Addr) (n cap : Nat) (x : ByteArray) (l : List Tm), v = .agg #[.slice ad n cap, .string x] ∧ TsAt W (.slice ad n cap) l ∧ (ad = none → cap = 0) ∧ n ≤ 9223372036854775807 := by
  obtain ⟨v0, v1, y0, y1, k, rfl, _, _, h0, h1⟩ := open_agg2 Tryz.underlying24 (by kernel_rfl) (by kernel_rfl) hv h
  obtain ⟨x, hx, _, _⟩ := DataW.trod_string Tryz.underlying9 h1
  obtain rfl : v1 = .string x := by simpa using hx
  rcases open_slice_pairs Tryz.underlying22 Tryz.underlying68 (by kernel_rfl) rfl rfl (by kernel_rfl) (by kernel_rfl) h0 with ⟨hcs, _⟩ | ⟨a, len, cap, m, j, V0, V1, D0, D1, P0, P1, hcs, _, hl, hm, hmm, _, hel⟩
  · obtain rfl : v0 = .slice none 0 0 := by simpa using hcs
    exact ⟨none, 0, 0, x, [], rfl, TsAt.nil W none 0, fun _ => rfl, by omega⟩
  · obtain rfl : v0 = .slice (some a) len cap := by simpa using hcs
    have hmc : m = cap := by rw [hmm]; rfl
    subst hmc
    have hmx : len ≤ 9223372036854775807 := by unfold maxLen at hm; omega
    have each : ∀ i, i < len → ∃ t : Tm, W.cell? (a.add (i * 2)) = some (.int .i64 t.1) ∧ W.cell? (a.add (i * 2 + 1)) = some (.string t.2) := by
      intro i hi
      obtain ⟨e0, e1, t0, t1⟩ := hel i (by omega)
      obtain ⟨z, hz, _, _⟩ := DataW.trod_int Tryz.underlying3 t0
      obtain ⟨y, hy, _, _⟩ := DataW.trod_string Tryz.underlying9 t1
      refine ⟨(z, y), ?_, ?_⟩
      · rw [e0]; simpa using hz
      · rw [e1]; simpa using hy
    obtain ⟨q, hq⟩ := choose_lt each
    refine ⟨some a, len, m, x, (List.range len).map q, rfl, ⟨_, _, _, rfl, by simp, ?_⟩, fun h => by (cases h), hmx⟩
    by_cases h0 : len = 0
    · exact .inl h0
    · obtain ⟨b, off, spot⟩ := a
      have hc0 := (hq 0 (by omega)).1
      obtain rfl : spot = none := by simpa [Addr.add] using World.cell?_spot hc0
      refine .inr ⟨b, off, rfl, World.block_lt_of_cell? _ _ hc0, fun i hi => ?_⟩
      have hi2 : i < len := by simpa using hi
      obtain ⟨e0, e1⟩ := hq i hi2
      rw [add_plain] at e0 e1
      rw [List.getElem_map, List.getElem_range]
      exact ⟨e0, by rw [← Nat.add_assoc] at e1; exact e1⟩

end Go.Proofs.YtmdppblhbmbakaaGreatDoor
