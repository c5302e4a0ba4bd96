/- What the function literal of Reach does. -/
import Derived.Test.YteidhlfiofiocabZH
set_option linter.unusedVariables false
set_option linter.unusedSimpArgs false
namespace Go.Proofs.Yteidhlfiofiocab
open Go.RowKit Go.Shelf Go.Maps
attribute [local go_sem] Oper.semAt_some

def colArgs (A : Ad) (t depth : Int) : Array Value := #[.int .i64 t, .int .i64 depth, .pointer (some ⟨A.bm, 0, none⟩), .pointer (some ⟨A.bd, 0, none⟩), .pointer (some ⟨A.bo, 0, none⟩), .pointer (some ⟨A.bl, 0, none⟩), .pointer (some ⟨A.bc, 0, none⟩)]

theorem wf64 {t : Int} (h : In64 t) : (Lit.int .i64 t).wf = true := by
  obtain ⟨h1, h2⟩ := h
  exact WalkArith.wf_i64 ⟨h1, h2⟩



end Go.Proofs.Yteidhlfiofiocab
