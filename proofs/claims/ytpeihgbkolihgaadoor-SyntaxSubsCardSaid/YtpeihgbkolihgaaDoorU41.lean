/- What a tree of a caller's is. -/
import Derived.Test.YtpeihgbkolihgaaDoorU16
import Derived.Lib.SmallJoins
import Derived.Deep.SlicePairs
import Derived.ProofKit
import Derived.OpenShut
import Derived.ChangeOld
import Derived.SliceStrings
set_option linter.unusedVariables false
set_option linter.unusedSimpArgs false
namespace Go.Proofs.YtpeihgbkolihgaaDoor
open Go.ChangeShapes Go.WideShapes Go.RowKit Go.Deep Go.Joins

theorem is_arg {H : Type} {enc : TypeId × Value → H} {W : World} {fuel : Nat} {v : Value} {x : DataW H × List MemPlace} (h : DataW.trod enc Tryd.prog W 0 (fun _ => true) true fuel 32 [v] = some x) : ∃ l, IsAt W v l ∧ ∀ f ∈ l, In64 f := by
  rcases Go.ChangeShapes.open_ints Tryd.underlying32 Tryd.underlying3 (show Tryd.prog.cellsOf 3 = 1 by kernel_rfl) h with ⟨hcs, hx⟩ | ⟨a, len, cap, zs, hcs, _, hl, hm, hz, hx, hcell, hwf⟩
  · obtain rfl : v = .slice none 0 0 := by simpa using hcs
    exact ⟨[], IsAt.nil W, fun f hf => by cases hf⟩
  · obtain rfl : v = .slice (some a) len cap := by simpa using hcs
    simp only [if_true] at hz
    refine ⟨zs.take len, ⟨_, _, _, rfl, by rw [List.length_take]; omega, ?_⟩, fun f hf => bounds_i64 (hwf f (List.mem_of_mem_take hf))⟩
    by_cases h0 : len = 0
    · exact .inl h0
    · obtain ⟨b, off, spot⟩ := a
      obtain rfl : spot = none := by simpa [Addr.add] using World.cell?_spot (hcell 0 (by omega))
      refine .inr ⟨b, off, rfl, World.block_lt_of_cell? _ _ (hcell 0 (by omega)), fun i hi => ?_⟩
      have hi2 : i < len := by rw [List.length_take] at hi; omega
      have hc := hcell i (by omega)
      rw [add_plain, List.getD_eq_getElem?_getD, List.getElem?_eq_getElem (by omega), Option.getD_some] at hc
      rw [List.getElem_take]
      exact hc

def leafCs' (x : LeafM) (vk : Value) : List Value := [.int .i64 x.kind, .string x.text, .int .i64 x.num, vk, .int .i64 x.frm, .int .i64 x.to]
set_option maxRecDepth 100000 in
/-- The cells of a leaf of a caller's. -/
theorem leaf_arg {H : Type} {enc : TypeId × Value → H} {W : World} {fuel : Nat} {cs : List Value} {x : DataW H × List MemPlace} (hl : cs.length = 6) (h : DataW.trod enc Tryd.prog W 0 (fun _ => true) true fuel 38 cs = some x) :
    ∃ (y : LeafM) (vk : Value), cs = [.int .i64 y.kind, .string y.text, .int .i64 y.num, vk, .int .i64 y.frm, .int .i64 y.to] ∧ IsAt W vk y.kids ∧ In64 y.kind ∧ In64 y.num ∧ In64 y.frm ∧ In64 y.to ∧ ∀ t ∈ y.kids, In64 t := by
  obtain ⟨xs, k, hk, hxy, _, hxl, hf⟩ := DataW.trod_struct Tryd.underlying38 h
  match xs, hxl, cs, hl with
  | [y0, y1, y2, y3, y4], _, [v0, v1, v2, v3, v4, v5], _ =>
    have g0 := hf 0 _ rfl
    have g1 := hf 1 _ rfl
    have g2 := hf 2 _ rfl
    have g3 := hf 3 _ rfl
    have g4 := hf 4 _ rfl
    simp [show Tryd.prog.cellsOf 3 = 1 by kernel_rfl] at g0
    simp [show Tryd.prog.cellsOf 9 = 1 by kernel_rfl] at g1
    simp [show Tryd.prog.cellsOf 2 = 1 by kernel_rfl] at g2
    simp [show Tryd.prog.cellsOf 32 = 1 by kernel_rfl] at g3
    simp [show Tryd.prog.cellsOf 36 = 2 by kernel_rfl] at g4
    obtain ⟨z0, h0, _, w0⟩ := DataW.trod_int Tryd.underlying3 g0
    obtain ⟨z1, h1, _, _⟩ := DataW.trod_string Tryd.underlying9 g1
    obtain ⟨z2, h2, _, w2⟩ := DataW.trod_int Tryd.underlying2 g2
    obtain ⟨l, q1, q2⟩ := is_arg g3
    obtain ⟨ya, yb, n', hx, _, ha, hb⟩ := trod_struct2 Tryd.underlying36 g4
    simp [show Tryd.prog.cellsOf 3 = 1 by kernel_rfl] at ha hb
    obtain ⟨z4, h4, _, w4⟩ := DataW.trod_int Tryd.underlying3 ha
    obtain ⟨z5, h5, _, w5⟩ := DataW.trod_int Tryd.underlying3 hb
    obtain rfl : v0 = .int .i64 z0 := by simpa using h0
    obtain rfl : v1 = .string z1 := by simpa using h1
    obtain rfl : v2 = .int .i64 z2 := by simpa using h2
    obtain rfl : v4 = .int .i64 z4 := by simpa using h4
    obtain rfl : v5 = .int .i64 z5 := by simpa using h5
    exact ⟨⟨z0, z1, z2, l, z4, z5⟩, v3, rfl, q1, bounds_i64 w0, bounds_i64 w2, bounds_i64 w4, bounds_i64 w5, q2⟩

set_option maxRecDepth 100000 in
theorem tree_arg {H : Type} {enc : TypeId × Value → H} {W : World} {base : Nat} {v : Value} {d : DataW H} {p : List MemPlace}
    (hv : Value.okWide Tryd.prog W .any base 24 v) (h : DataW.Trod enc Tryd.prog W 0 (fun _ => true) true 24 v d p) :
    ∃ (v0 : Value) (l : List LeafM) (r : Int), v = .agg #[v0, .int .i64 r] ∧ LsAt W v0 l ∧ Sx.H64 l ∧ In64 r ∧ l.length ≤ maxLen := by
  obtain ⟨v0, v1, y0, y1, k, rfl, _, _, h0, h1⟩ := open_agg2 Tryd.underlying24 (by kernel_rfl) (by kernel_rfl) hv h
  obtain ⟨r, hr, _, wr⟩ := DataW.trod_int Tryd.underlying3 h1
  obtain rfl : v1 = .int .i64 r := by simpa using hr
  have ce : Tryd.prog.cellsOf 38 = 6 := by kernel_rfl
  rcases open_slice Tryd.underlying22 h0 with ⟨hcs, _⟩ | ⟨a, len, cap, m, j, D, Pl, hcs, _, hl, hm, hmm, _, hel⟩
  · obtain rfl : v0 = .slice none 0 0 := by simpa using hcs
    exact ⟨_, [], r, rfl, LsAt.nil W, (fun x hx => by cases hx), bounds_i64 wr, Nat.zero_le _⟩
  · obtain rfl : v0 = .slice (some a) len cap := by simpa using hcs
    have hmc : m = cap := by rw [hmm]; rfl
    subst hmc
    have each : ∀ i, i < len → ∃ q : LeafM × Value, (∀ j, j < 6 → W.cell? (a.add (i * 6 + j)) = (leafCs' q.1 q.2)[j]?) ∧ IsAt W q.2 q.1.kids ∧ In64 q.1.kind ∧ In64 q.1.num ∧ In64 q.1.frm ∧ In64 q.1.to ∧ ∀ t ∈ q.1.kids, In64 t := by
      intro i hi
      obtain ⟨cs', e1, e2⟩ := hel i (by omega)
      rw [ce] at e1
      obtain ⟨_, hlen, hcell⟩ := World.cells?_some e1
      obtain ⟨y, vk, rfl, q⟩ := leaf_arg hlen e2
      refine ⟨(y, vk), fun j hj => ?_, q⟩
      have e := hcell j hj
      rw [add_add] at e
      exact e
    obtain ⟨q, hq⟩ := choose_lt each
    refine ⟨_, (List.range len).map (fun i => (q i).1), r, rfl, ⟨_, _, _, rfl, by simp, ?_⟩, ?_, bounds_i64 wr, by rw [List.length_map, List.length_range]; omega⟩
    · by_cases h0 : len = 0
      · exact .inl h0
      · obtain ⟨b, off, spot⟩ := a
        have hc0 := (hq 0 (by omega)).1 0 (by decide)
        obtain rfl : spot = none := by simpa [Addr.add] using World.cell?_spot hc0
        refine .inr ⟨b, off, rfl, World.block_lt_of_cell? _ _ hc0, fun i hi => ?_⟩
        have hi2 : i < len := by simpa using hi
        obtain ⟨e, hk, _⟩ := hq i hi2
        have e' : ∀ j, j < 6 → W.cell? ⟨b, off + i * 6 + j, none⟩ = (leafCs' (q i).1 (q i).2)[j]? := fun j hj => by
          have := e j hj
          rw [add_plain, ← Nat.add_assoc] at this
          exact this
        rw [List.getElem_map, List.getElem_range]
        exact ⟨e' 0 (by decide), e' 1 (by decide), e' 2 (by decide), ⟨_, e' 3 (by decide), hk⟩, e' 4 (by decide), e' 5 (by decide)⟩
    · intro x hx
      obtain ⟨i, hi, rfl⟩ := List.mem_map.1 hx
      exact (hq i (by simpa using hi)).2.2

end Go.Proofs.YtpeihgbkolihgaaDoor
