/-
  No cell of these rows narrows 'for every input' (looked for: loops, veiled, ifaces, maps, wideKeys, modest, calm, conditions, laid).
  DERIVED. THE GIVEN ROWS OF THIS SEAT. 12 by the template 'for every input the law returns true; each argument reads behind the call as it read before'; 0 by the template 'total and deterministic' (their statements: YteidhlfiofiocaaTotals.lean).
  GIVEN WITH THE SEED: the statements are not yours to turn. If you find one false, say at which input.
  Laid BY PROGRAM, IN A SANDBOX (cutbox-rows.mjs): the forced cells as the released guide's own fill.sh prints them over the translation 3bccd035e4f2fb55… (all of the seat's roots in one cut). By AI agents, Wed Nov 11 2026. No macro, syntax, notation, axiom, sorry.
-/
import Derived.Test.YteidhlfiofiocaaChecked
import GoSem.Claim
import GoSem.ClaimJoined
import GoSem.ClaimMapViews
import Derived.JoinedTies
import Derived.KernelRfl
namespace Go.Proofs.Yteidhlfiofiocaa
/- THE CELL 'sum', in the pinned program and in every row, IS THE sha256 OF THE DUMP (.gsa) THAT YteidhlfiofiocaaProg.lean LOADS. Nothing in Lean hashes anything: it is a label: what it is worth is what the hold of that sum in a sandbox is worth. -/
noncomputable def Try.pinned : Pinned := { name := "yteidhlfiofiocaa", sum := "3bccd035e4f2fb5581436883fa1ce31cb74a15fd723aacf6cb12f536945967a7", checked := Try.checked }
namespace Rows
def none {H : Type} : Left H := { results := [], args := [] }

/-- 'cellarerlaw17.DatasChecks': WHATEVER THE INPUT: true; the input reads as it did. -/
def datasChecksSpec : ChangeSpec := { name := "datasChecks", fn := fun _ => fun
  | [d] => { results := [.lit (.bool true)], args := [d] }
  | _ => none }
def datasChecksRow : OpenClaim := { program := "yteidhlfiofiocaa", sum := "3bccd035e4f2fb5581436883fa1ce31cb74a15fd723aacf6cb12f536945967a7", func := "cellarer/cellarerlaw17.DatasChecks", spec := "datasChecks", unfollowed := true, recurses := true, plainKeys := false, apart := false }
def DatasChecksSaid : Prop := datasChecksRow.holds Try.pinned (OpenSpec.ofChange datasChecksSpec)

/-- ITS FALSE NEIGHBOUR: 'it returns false'. Refute it at one input. -/
def datasChecksWrong : ChangeSpec := { name := "datasChecks", fn := fun _ => fun
  | [d] => { results := [.lit (.bool false)], args := [d] }
  | _ => none }
def DatasChecksWrongFalsely : Prop := datasChecksRow.holds Try.pinned (OpenSpec.ofChange datasChecksWrong)

/-- 'cellarerlaw17.DatasMeasures': WHATEVER THE INPUT: true; the input reads as it did. -/
def datasMeasuresSpec : ChangeSpec := { name := "datasMeasures", fn := fun _ => fun
  | [d1, d2, d3] => { results := [.lit (.bool true)], args := [d1, d2, d3] }
  | _ => none }
def datasMeasuresRow : OpenClaim := { program := "yteidhlfiofiocaa", sum := "3bccd035e4f2fb5581436883fa1ce31cb74a15fd723aacf6cb12f536945967a7", func := "cellarer/cellarerlaw17.DatasMeasures", spec := "datasMeasures", unfollowed := true, recurses := true, plainKeys := false, apart := false }
def DatasMeasuresSaid : Prop := datasMeasuresRow.holds Try.pinned (OpenSpec.ofChange datasMeasuresSpec)

/-- ITS FALSE NEIGHBOUR: 'it returns false'. Refute it at one input. -/
def datasMeasuresWrong : ChangeSpec := { name := "datasMeasures", fn := fun _ => fun
  | [d1, d2, d3] => { results := [.lit (.bool false)], args := [d1, d2, d3] }
  | _ => none }
def DatasMeasuresWrongFalsely : Prop := datasMeasuresRow.holds Try.pinned (OpenSpec.ofChange datasMeasuresWrong)

/-- 'cellarerlaw17.DatasFinds': WHATEVER THE INPUT: true; the input reads as it did. -/
def datasFindsSpec : ChangeSpec := { name := "datasFinds", fn := fun _ => fun
  | [d1, d2, d3] => { results := [.lit (.bool true)], args := [d1, d2, d3] }
  | _ => none }
def datasFindsRow : OpenClaim := { program := "yteidhlfiofiocaa", sum := "3bccd035e4f2fb5581436883fa1ce31cb74a15fd723aacf6cb12f536945967a7", func := "cellarer/cellarerlaw17.DatasFinds", spec := "datasFinds", unfollowed := true, recurses := true, plainKeys := false, apart := false }
def DatasFindsSaid : Prop := datasFindsRow.holds Try.pinned (OpenSpec.ofChange datasFindsSpec)

/-- ITS FALSE NEIGHBOUR: 'it returns false'. Refute it at one input. -/
def datasFindsWrong : ChangeSpec := { name := "datasFinds", fn := fun _ => fun
  | [d1, d2, d3] => { results := [.lit (.bool false)], args := [d1, d2, d3] }
  | _ => none }
def DatasFindsWrongFalsely : Prop := datasFindsRow.holds Try.pinned (OpenSpec.ofChange datasFindsWrong)

/-- 'cellarerlaw17.DatasReaches': WHATEVER THE INPUT: true; the input reads as it did. -/
def datasReachesSpec : ChangeSpec := { name := "datasReaches", fn := fun _ => fun
  | [d1, d2] => { results := [.lit (.bool true)], args := [d1, d2] }
  | _ => none }
def datasReachesRow : OpenClaim := { program := "yteidhlfiofiocaa", sum := "3bccd035e4f2fb5581436883fa1ce31cb74a15fd723aacf6cb12f536945967a7", func := "cellarer/cellarerlaw17.DatasReaches", spec := "datasReaches", unfollowed := true, recurses := true, plainKeys := false, apart := false }
def DatasReachesSaid : Prop := datasReachesRow.holds Try.pinned (OpenSpec.ofChange datasReachesSpec)

/-- ITS FALSE NEIGHBOUR: 'it returns false'. Refute it at one input. -/
def datasReachesWrong : ChangeSpec := { name := "datasReaches", fn := fun _ => fun
  | [d1, d2] => { results := [.lit (.bool false)], args := [d1, d2] }
  | _ => none }
def DatasReachesWrongFalsely : Prop := datasReachesRow.holds Try.pinned (OpenSpec.ofChange datasReachesWrong)

/-- 'cellarerlaw17.DatasCloses': WHATEVER THE INPUT: true; the input reads as it did. -/
def datasClosesSpec : ChangeSpec := { name := "datasCloses", fn := fun _ => fun
  | [d1, d2] => { results := [.lit (.bool true)], args := [d1, d2] }
  | _ => none }
def datasClosesRow : OpenClaim := { program := "yteidhlfiofiocaa", sum := "3bccd035e4f2fb5581436883fa1ce31cb74a15fd723aacf6cb12f536945967a7", func := "cellarer/cellarerlaw17.DatasCloses", spec := "datasCloses", unfollowed := true, recurses := true, plainKeys := false, apart := false }
def DatasClosesSaid : Prop := datasClosesRow.holds Try.pinned (OpenSpec.ofChange datasClosesSpec)

/-- ITS FALSE NEIGHBOUR: 'it returns false'. Refute it at one input. -/
def datasClosesWrong : ChangeSpec := { name := "datasCloses", fn := fun _ => fun
  | [d1, d2] => { results := [.lit (.bool false)], args := [d1, d2] }
  | _ => none }
def DatasClosesWrongFalsely : Prop := datasClosesRow.holds Try.pinned (OpenSpec.ofChange datasClosesWrong)

/-- 'cellarerlaw17.DatasNames': WHATEVER THE INPUT: true; the input reads as it did. -/
def datasNamesSpec : ChangeSpec := { name := "datasNames", fn := fun _ => fun
  | [d] => { results := [.lit (.bool true)], args := [d] }
  | _ => none }
def datasNamesRow : OpenClaim := { program := "yteidhlfiofiocaa", sum := "3bccd035e4f2fb5581436883fa1ce31cb74a15fd723aacf6cb12f536945967a7", func := "cellarer/cellarerlaw17.DatasNames", spec := "datasNames", unfollowed := true, recurses := true, plainKeys := false, apart := false }
def DatasNamesSaid : Prop := datasNamesRow.holds Try.pinned (OpenSpec.ofChange datasNamesSpec)

/-- ITS FALSE NEIGHBOUR: 'it returns false'. Refute it at one input. -/
def datasNamesWrong : ChangeSpec := { name := "datasNames", fn := fun _ => fun
  | [d] => { results := [.lit (.bool false)], args := [d] }
  | _ => none }
def DatasNamesWrongFalsely : Prop := datasNamesRow.holds Try.pinned (OpenSpec.ofChange datasNamesWrong)

/-- 'cellarerlaw17.DatasEndless': WHATEVER THE INPUT: true; the input reads as it did. -/
def datasEndlessSpec : ChangeSpec := { name := "datasEndless", fn := fun _ => fun
  | [d] => { results := [.lit (.bool true)], args := [d] }
  | _ => none }
def datasEndlessRow : OpenClaim := { program := "yteidhlfiofiocaa", sum := "3bccd035e4f2fb5581436883fa1ce31cb74a15fd723aacf6cb12f536945967a7", func := "cellarer/cellarerlaw17.DatasEndless", spec := "datasEndless", unfollowed := true, recurses := true, plainKeys := false, apart := false }
def DatasEndlessSaid : Prop := datasEndlessRow.holds Try.pinned (OpenSpec.ofChange datasEndlessSpec)

/-- ITS FALSE NEIGHBOUR: 'it returns false'. Refute it at one input. -/
def datasEndlessWrong : ChangeSpec := { name := "datasEndless", fn := fun _ => fun
  | [d] => { results := [.lit (.bool false)], args := [d] }
  | _ => none }
def DatasEndlessWrongFalsely : Prop := datasEndlessRow.holds Try.pinned (OpenSpec.ofChange datasEndlessWrong)

/-- 'cellarerlaw18.ShapeLists': WHATEVER THE INPUT: true; the input reads as it did. -/
def shapeListsSpec : ChangeSpec := { name := "shapeLists", fn := fun _ => fun
  | [d1, d2] => { results := [.lit (.bool true)], args := [d1, d2] }
  | _ => none }
def shapeListsRow : OpenClaim := { program := "yteidhlfiofiocaa", sum := "3bccd035e4f2fb5581436883fa1ce31cb74a15fd723aacf6cb12f536945967a7", func := "cellarer/cellarerlaw18.ShapeLists", spec := "shapeLists", inPlace := ["internal/abi.NoEscape", "internal/bytealg.MakeNoZero"], unfollowed := true, recurses := true, plainKeys := false, apart := false }
def ShapeListsSaid : Prop := shapeListsRow.holds Try.pinned (OpenSpec.ofChange shapeListsSpec)

/-- ITS FALSE NEIGHBOUR: 'it returns false'. Refute it at one input. -/
def shapeListsWrong : ChangeSpec := { name := "shapeLists", fn := fun _ => fun
  | [d1, d2] => { results := [.lit (.bool false)], args := [d1, d2] }
  | _ => none }
def ShapeListsWrongFalsely : Prop := shapeListsRow.holds Try.pinned (OpenSpec.ofChange shapeListsWrong)

/-- 'cellarerlaw18.ShapeIndexes': WHATEVER THE INPUT: true; the input reads as it did. -/
def shapeIndexesSpec : ChangeSpec := { name := "shapeIndexes", fn := fun _ => fun
  | [d1, d2, d3] => { results := [.lit (.bool true)], args := [d1, d2, d3] }
  | _ => none }
def shapeIndexesRow : OpenClaim := { program := "yteidhlfiofiocaa", sum := "3bccd035e4f2fb5581436883fa1ce31cb74a15fd723aacf6cb12f536945967a7", func := "cellarer/cellarerlaw18.ShapeIndexes", spec := "shapeIndexes", inPlace := ["internal/abi.NoEscape", "internal/bytealg.MakeNoZero"], unfollowed := true, recurses := true, plainKeys := false, apart := false }
def ShapeIndexesSaid : Prop := shapeIndexesRow.holds Try.pinned (OpenSpec.ofChange shapeIndexesSpec)

/-- ITS FALSE NEIGHBOUR: 'it returns false'. Refute it at one input. -/
def shapeIndexesWrong : ChangeSpec := { name := "shapeIndexes", fn := fun _ => fun
  | [d1, d2, d3] => { results := [.lit (.bool false)], args := [d1, d2, d3] }
  | _ => none }
def ShapeIndexesWrongFalsely : Prop := shapeIndexesRow.holds Try.pinned (OpenSpec.ofChange shapeIndexesWrong)

/-- 'cellarerlaw18.ShapeInsides': WHATEVER THE INPUT: true; the input reads as it did. -/
def shapeInsidesSpec : ChangeSpec := { name := "shapeInsides", fn := fun _ => fun
  | [d1, d2, d3] => { results := [.lit (.bool true)], args := [d1, d2, d3] }
  | _ => none }
def shapeInsidesRow : OpenClaim := { program := "yteidhlfiofiocaa", sum := "3bccd035e4f2fb5581436883fa1ce31cb74a15fd723aacf6cb12f536945967a7", func := "cellarer/cellarerlaw18.ShapeInsides", spec := "shapeInsides", inPlace := ["internal/abi.NoEscape", "internal/bytealg.MakeNoZero"], unfollowed := true, recurses := true, plainKeys := false, apart := false }
def ShapeInsidesSaid : Prop := shapeInsidesRow.holds Try.pinned (OpenSpec.ofChange shapeInsidesSpec)

/-- ITS FALSE NEIGHBOUR: 'it returns false'. Refute it at one input. -/
def shapeInsidesWrong : ChangeSpec := { name := "shapeInsides", fn := fun _ => fun
  | [d1, d2, d3] => { results := [.lit (.bool false)], args := [d1, d2, d3] }
  | _ => none }
def ShapeInsidesWrongFalsely : Prop := shapeInsidesRow.holds Try.pinned (OpenSpec.ofChange shapeInsidesWrong)

/-- 'cellarerlaw18.ShapeUnique': WHATEVER THE INPUT: true; the input reads as it did. -/
def shapeUniqueSpec : ChangeSpec := { name := "shapeUnique", fn := fun _ => fun
  | [d1, d2] => { results := [.lit (.bool true)], args := [d1, d2] }
  | _ => none }
def shapeUniqueRow : OpenClaim := { program := "yteidhlfiofiocaa", sum := "3bccd035e4f2fb5581436883fa1ce31cb74a15fd723aacf6cb12f536945967a7", func := "cellarer/cellarerlaw18.ShapeUnique", spec := "shapeUnique", inPlace := ["internal/abi.NoEscape", "internal/bytealg.MakeNoZero"], unfollowed := true, recurses := true, plainKeys := false, apart := false }
def ShapeUniqueSaid : Prop := shapeUniqueRow.holds Try.pinned (OpenSpec.ofChange shapeUniqueSpec)

/-- ITS FALSE NEIGHBOUR: 'it returns false'. Refute it at one input. -/
def shapeUniqueWrong : ChangeSpec := { name := "shapeUnique", fn := fun _ => fun
  | [d1, d2] => { results := [.lit (.bool false)], args := [d1, d2] }
  | _ => none }
def ShapeUniqueWrongFalsely : Prop := shapeUniqueRow.holds Try.pinned (OpenSpec.ofChange shapeUniqueWrong)

/-- 'cellarerlaw18.ShapeCloses': WHATEVER THE INPUT: true; the input reads as it did. -/
def shapeClosesSpec : ChangeSpec := { name := "shapeCloses", fn := fun _ => fun
  | [d1, d2] => { results := [.lit (.bool true)], args := [d1, d2] }
  | _ => none }
def shapeClosesRow : OpenClaim := { program := "yteidhlfiofiocaa", sum := "3bccd035e4f2fb5581436883fa1ce31cb74a15fd723aacf6cb12f536945967a7", func := "cellarer/cellarerlaw18.ShapeCloses", spec := "shapeCloses", inPlace := ["internal/abi.NoEscape", "internal/bytealg.MakeNoZero"], unfollowed := true, recurses := true, plainKeys := false, apart := false }
def ShapeClosesSaid : Prop := shapeClosesRow.holds Try.pinned (OpenSpec.ofChange shapeClosesSpec)

/-- ITS FALSE NEIGHBOUR: 'it returns false'. Refute it at one input. -/
def shapeClosesWrong : ChangeSpec := { name := "shapeCloses", fn := fun _ => fun
  | [d1, d2] => { results := [.lit (.bool false)], args := [d1, d2] }
  | _ => none }
def ShapeClosesWrongFalsely : Prop := shapeClosesRow.holds Try.pinned (OpenSpec.ofChange shapeClosesWrong)

/- THE SECOND FORM. 'bulk': how many values and letters a reading holds, each counted each time it is reached (what is shared counts as often as it is met; a slice's spare places count too). A statement '..UptoSaid' is the law's where the arguments, and the package variables that the reading takes, are together of bulk at most 1048576: NARROWER than '..Said'. Prove '..Said' where nothing that the law and all that it calls make is longer than what came in: it says more and counts as full. Else prove '..UptoSaid'. A law counts once. -/
mutual
def uptoBulk {H : Type} : DataW H → Nat
  | .lit (.string bytes) => bytes.length + 1
  | .lit _ => 1
  | .nil => 1
  | .ptr d => uptoBulk d + 1
  | .slice elems spare => uptoBulkAll elems + uptoBulkAll spare + 1
  | .agg parts => uptoBulkAll parts + 1
  | .iface _ d => uptoBulk d + 1
  | .map entries => uptoBulkEntries entries + 1
  | .held _ => 1
def uptoBulkAll {H : Type} : List (DataW H) → Nat
  | [] => 0
  | d :: r => uptoBulk d + uptoBulkAll r
def uptoBulkEntries {H : Type} : List (Lit × DataW H) → Nat
  | [] => 0
  | x :: r => uptoBulkEntry x + uptoBulkEntries r
def uptoBulkEntry {H : Type} : Lit × DataW H → Nat
  | (.string bytes, d) => bytes.length + uptoBulk d + 1
  | (_, d) => uptoBulk d + 1
 end
def uptoSmall : (H : Type) → List (DataW H) → Bool := fun _ ds => decide (uptoBulkAll ds ≤ 1048576)
def OpenSpec.upto (s : _root_.Go.ChangeSpec) : _root_.Go.OpenSpec := { _root_.Go.OpenSpec.ofChange s with cond := some uptoSmall }

/-- 'cellarerlaw17.DatasChecks', WHERE WHAT IT READS IS OF BULK AT MOST 1048576: true; the input reads as it did. -/
def datasChecksUptoRow : OpenClaim := { program := "yteidhlfiofiocaa", sum := "3bccd035e4f2fb5581436883fa1ce31cb74a15fd723aacf6cb12f536945967a7", func := "cellarer/cellarerlaw17.DatasChecks", spec := "datasChecks", unfollowed := true, recurses := true, plainKeys := false, apart := false, narrowed := true }
def DatasChecksUptoSaid : Prop := datasChecksUptoRow.holds Try.pinned (OpenSpec.upto datasChecksSpec)

/-- 'cellarerlaw17.DatasMeasures', WHERE WHAT IT READS IS OF BULK AT MOST 1048576: true; the input reads as it did. -/
def datasMeasuresUptoRow : OpenClaim := { program := "yteidhlfiofiocaa", sum := "3bccd035e4f2fb5581436883fa1ce31cb74a15fd723aacf6cb12f536945967a7", func := "cellarer/cellarerlaw17.DatasMeasures", spec := "datasMeasures", unfollowed := true, recurses := true, plainKeys := false, apart := false, narrowed := true }
def DatasMeasuresUptoSaid : Prop := datasMeasuresUptoRow.holds Try.pinned (OpenSpec.upto datasMeasuresSpec)

/-- 'cellarerlaw17.DatasFinds', WHERE WHAT IT READS IS OF BULK AT MOST 1048576: true; the input reads as it did. -/
def datasFindsUptoRow : OpenClaim := { program := "yteidhlfiofiocaa", sum := "3bccd035e4f2fb5581436883fa1ce31cb74a15fd723aacf6cb12f536945967a7", func := "cellarer/cellarerlaw17.DatasFinds", spec := "datasFinds", unfollowed := true, recurses := true, plainKeys := false, apart := false, narrowed := true }
def DatasFindsUptoSaid : Prop := datasFindsUptoRow.holds Try.pinned (OpenSpec.upto datasFindsSpec)

/-- 'cellarerlaw17.DatasReaches', WHERE WHAT IT READS IS OF BULK AT MOST 1048576: true; the input reads as it did. -/
def datasReachesUptoRow : OpenClaim := { program := "yteidhlfiofiocaa", sum := "3bccd035e4f2fb5581436883fa1ce31cb74a15fd723aacf6cb12f536945967a7", func := "cellarer/cellarerlaw17.DatasReaches", spec := "datasReaches", unfollowed := true, recurses := true, plainKeys := false, apart := false, narrowed := true }
def DatasReachesUptoSaid : Prop := datasReachesUptoRow.holds Try.pinned (OpenSpec.upto datasReachesSpec)

/-- 'cellarerlaw17.DatasCloses', WHERE WHAT IT READS IS OF BULK AT MOST 1048576: true; the input reads as it did. -/
def datasClosesUptoRow : OpenClaim := { program := "yteidhlfiofiocaa", sum := "3bccd035e4f2fb5581436883fa1ce31cb74a15fd723aacf6cb12f536945967a7", func := "cellarer/cellarerlaw17.DatasCloses", spec := "datasCloses", unfollowed := true, recurses := true, plainKeys := false, apart := false, narrowed := true }
def DatasClosesUptoSaid : Prop := datasClosesUptoRow.holds Try.pinned (OpenSpec.upto datasClosesSpec)

/-- 'cellarerlaw17.DatasNames', WHERE WHAT IT READS IS OF BULK AT MOST 1048576: true; the input reads as it did. -/
def datasNamesUptoRow : OpenClaim := { program := "yteidhlfiofiocaa", sum := "3bccd035e4f2fb5581436883fa1ce31cb74a15fd723aacf6cb12f536945967a7", func := "cellarer/cellarerlaw17.DatasNames", spec := "datasNames", unfollowed := true, recurses := true, plainKeys := false, apart := false, narrowed := true }
def DatasNamesUptoSaid : Prop := datasNamesUptoRow.holds Try.pinned (OpenSpec.upto datasNamesSpec)

/-- 'cellarerlaw17.DatasEndless', WHERE WHAT IT READS IS OF BULK AT MOST 1048576: true; the input reads as it did. -/
def datasEndlessUptoRow : OpenClaim := { program := "yteidhlfiofiocaa", sum := "3bccd035e4f2fb5581436883fa1ce31cb74a15fd723aacf6cb12f536945967a7", func := "cellarer/cellarerlaw17.DatasEndless", spec := "datasEndless", unfollowed := true, recurses := true, plainKeys := false, apart := false, narrowed := true }
def DatasEndlessUptoSaid : Prop := datasEndlessUptoRow.holds Try.pinned (OpenSpec.upto datasEndlessSpec)

/-- 'cellarerlaw18.ShapeLists', WHERE WHAT IT READS IS OF BULK AT MOST 1048576: true; the input reads as it did. -/
def shapeListsUptoRow : OpenClaim := { program := "yteidhlfiofiocaa", sum := "3bccd035e4f2fb5581436883fa1ce31cb74a15fd723aacf6cb12f536945967a7", func := "cellarer/cellarerlaw18.ShapeLists", spec := "shapeLists", inPlace := ["internal/abi.NoEscape", "internal/bytealg.MakeNoZero"], unfollowed := true, recurses := true, plainKeys := false, apart := false, narrowed := true }
def ShapeListsUptoSaid : Prop := shapeListsUptoRow.holds Try.pinned (OpenSpec.upto shapeListsSpec)

/-- 'cellarerlaw18.ShapeIndexes', WHERE WHAT IT READS IS OF BULK AT MOST 1048576: true; the input reads as it did. -/
def shapeIndexesUptoRow : OpenClaim := { program := "yteidhlfiofiocaa", sum := "3bccd035e4f2fb5581436883fa1ce31cb74a15fd723aacf6cb12f536945967a7", func := "cellarer/cellarerlaw18.ShapeIndexes", spec := "shapeIndexes", inPlace := ["internal/abi.NoEscape", "internal/bytealg.MakeNoZero"], unfollowed := true, recurses := true, plainKeys := false, apart := false, narrowed := true }
def ShapeIndexesUptoSaid : Prop := shapeIndexesUptoRow.holds Try.pinned (OpenSpec.upto shapeIndexesSpec)

/-- 'cellarerlaw18.ShapeInsides', WHERE WHAT IT READS IS OF BULK AT MOST 1048576: true; the input reads as it did. -/
def shapeInsidesUptoRow : OpenClaim := { program := "yteidhlfiofiocaa", sum := "3bccd035e4f2fb5581436883fa1ce31cb74a15fd723aacf6cb12f536945967a7", func := "cellarer/cellarerlaw18.ShapeInsides", spec := "shapeInsides", inPlace := ["internal/abi.NoEscape", "internal/bytealg.MakeNoZero"], unfollowed := true, recurses := true, plainKeys := false, apart := false, narrowed := true }
def ShapeInsidesUptoSaid : Prop := shapeInsidesUptoRow.holds Try.pinned (OpenSpec.upto shapeInsidesSpec)

/-- 'cellarerlaw18.ShapeUnique', WHERE WHAT IT READS IS OF BULK AT MOST 1048576: true; the input reads as it did. -/
def shapeUniqueUptoRow : OpenClaim := { program := "yteidhlfiofiocaa", sum := "3bccd035e4f2fb5581436883fa1ce31cb74a15fd723aacf6cb12f536945967a7", func := "cellarer/cellarerlaw18.ShapeUnique", spec := "shapeUnique", inPlace := ["internal/abi.NoEscape", "internal/bytealg.MakeNoZero"], unfollowed := true, recurses := true, plainKeys := false, apart := false, narrowed := true }
def ShapeUniqueUptoSaid : Prop := shapeUniqueUptoRow.holds Try.pinned (OpenSpec.upto shapeUniqueSpec)

/-- 'cellarerlaw18.ShapeCloses', WHERE WHAT IT READS IS OF BULK AT MOST 1048576: true; the input reads as it did. -/
def shapeClosesUptoRow : OpenClaim := { program := "yteidhlfiofiocaa", sum := "3bccd035e4f2fb5581436883fa1ce31cb74a15fd723aacf6cb12f536945967a7", func := "cellarer/cellarerlaw18.ShapeCloses", spec := "shapeCloses", inPlace := ["internal/abi.NoEscape", "internal/bytealg.MakeNoZero"], unfollowed := true, recurses := true, plainKeys := false, apart := false, narrowed := true }
def ShapeClosesUptoSaid : Prop := shapeClosesUptoRow.holds Try.pinned (OpenSpec.upto shapeClosesSpec)

end Rows
end Go.Proofs.Yteidhlfiofiocaa
