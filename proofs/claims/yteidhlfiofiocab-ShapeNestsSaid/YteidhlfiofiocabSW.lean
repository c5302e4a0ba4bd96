/- The argument of the law ShapeNests: a table and three types in a struct. -/
import Derived.Test.YteidhlfiofiocabSV
import Derived.Test.YteidhlfiofiocabZQ
import Derived.Lib.SmallJoins
set_option linter.unusedVariables false
set_option linter.unusedSimpArgs false
namespace Go.Proofs.Yteidhlfiofiocab
open Go.ChangeShapes Go.WideShapes Go.RowKit Go.Deep Go.Joins

theorem ds_is {H : Type} {enc : TypeId × Value → H} {W : World} {v : Value} {y : DataW H × List MemPlace} {fuel : Nat} (h : DataW.trod enc Try.prog W 0 (fun _ => true) true fuel 22 [v] = some y) : ∃ ad n cap, v = .slice ad n cap := by
  rcases open_slice_pairs Try.underlying22 Try.underlying38 (by kernel_rfl) rfl rfl (by kernel_rfl) (by kernel_rfl) h with ⟨hcs, _⟩ | ⟨a, len, cap, m, j, V0, V1, D0, D1, P0, P1, hcs, _, hl, hm, hmm, _, hel⟩
  · exact ⟨_, _, _, by simpa using hcs⟩
  · exact ⟨_, _, _, by simpa using hcs⟩

theorem three_arg {H : Type} {enc : TypeId × Value → H} {W : World} {base : Nat} {v : Value} {d : DataW H} {p : List MemPlace}
    (hv : Value.okWide Try.prog W .any base 25 v) (h : DataW.Trod enc Try.prog W 0 (fun _ => true) true 25 v d p) :
    ∃ (v0 : Value) (l : List DataM) (a b c : Int), v = .agg #[v0, .int .i64 a, .int .i64 b, .int .i64 c] ∧ DsAt W v0 l ∧ (∀ x ∈ l, ∀ c ∈ x.cons, ∀ f ∈ c.fields, In64 f) ∧ l.length ≤ maxLen ∧ In64 a ∧ In64 b ∧ In64 c := by
  obtain ⟨v0, v1, v2, v3, y0, y1, y2, y3, k, rfl, _, _, h0, h1, h2, h3⟩ := Go.Joins.open_agg4 Try.underlying25 (by kernel_rfl) (by kernel_rfl) hv h
  obtain ⟨a, ha, _, wa⟩ := DataW.trod_int Try.underlying23 h1
  obtain ⟨b, hb, _, wb⟩ := DataW.trod_int Try.underlying23 h2
  obtain ⟨c, hc, _, wc⟩ := DataW.trod_int Try.underlying23 h3
  obtain rfl : v1 = .int .i64 a := by simpa using ha
  obtain rfl : v2 = .int .i64 b := by simpa using hb
  obtain rfl : v3 = .int .i64 c := by simpa using hc
  obtain ⟨ad, n, cap, rfl⟩ := ds_is h0
  obtain ⟨l, q1, q2, q3⟩ := ds_arg2 (d := y0.1) (p := y0.2) ⟨ad, n, cap, rfl⟩ ⟨k, h0⟩
  exact ⟨_, l, a, b, c, rfl, q1, q2, q3, bounds_i64 wa, bounds_i64 wb, bounds_i64 wc⟩

end Go.Proofs.Yteidhlfiofiocab
