/- The table of the chapter's examples, and awake. -/
import Derived.Test.YteidhlfiofiocabZM
import Derived.Test.YteidhlfiofiocabZD
set_option linter.unusedVariables false
set_option linter.unusedSimpArgs false
namespace Go.Proofs.Yteidhlfiofiocab
open Go.RowKit Go.Shelf

def exNil : ConM := ⟨⟨#[78, 105, 108]⟩, []⟩
def exCons : ConM := ⟨⟨#[67, 111, 110, 115]⟩, [0, 2]⟩
def exTable : List DataM := [⟨⟨#[66, 111, 111, 108]⟩, [⟨⟨#[70, 97, 108, 115, 101]⟩, []⟩, ⟨⟨#[84, 114, 117, 101]⟩, []⟩]⟩, ⟨⟨#[76, 105, 115, 116]⟩, [⟨⟨#[78, 105, 108]⟩, []⟩, ⟨⟨#[67, 111, 110, 115]⟩, [0, 2]⟩]⟩, ⟨⟨#[67, 111, 108, 111, 114]⟩, [⟨⟨#[82, 101, 100]⟩, []⟩, ⟨⟨#[71, 114, 101, 101, 110]⟩, []⟩]⟩, ⟨⟨#[79, 112, 116]⟩, [⟨⟨#[78, 111, 110, 101]⟩, []⟩, ⟨⟨#[83, 111, 109, 101]⟩, [2]⟩]⟩]

theorem FsAt.blk {W : World} {b n : Nat} {cs : Array Value} {T : TypeId} {l : List Int} (h : W.heap[b]? = some (.cells cs T (0, 0))) (hn : n = l.length) (hc : ∀ (i : Nat) (hi : i < l.length), cs[i]? = some (.int .i64 l[i])) : FsAt W (.slice (some ⟨b, 0, none⟩) n n) l :=
  ⟨_, _, _, rfl, hn, .inr ⟨b, 0, rfl, (Array.getElem?_eq_some_iff.1 h).1, fun i hi => by simp only [World.cell?, h, Nat.zero_add]; exact hc i hi⟩⟩
theorem CsAt.blk {W : World} {b n : Nat} {cs : Array Value} {T : TypeId} {l : List ConM} (h : W.heap[b]? = some (.cells cs T (0, 0))) (hn : n = l.length) (hc : ∀ (i : Nat) (hi : i < l.length), cs[i * 2]? = some (.string l[i].name) ∧ ∃ vf, cs[i * 2 + 1]? = some vf ∧ FsAt W vf l[i].fields) : CsAt W (.slice (some ⟨b, 0, none⟩) n n) l := by
  refine ⟨_, _, _, rfl, hn, .inr ⟨b, 0, rfl, (Array.getElem?_eq_some_iff.1 h).1, fun i hi => ?_⟩⟩
  obtain ⟨h1, vf, h2, h3⟩ := hc i hi
  exact ⟨by simp only [World.cell?, h, Nat.zero_add]; exact h1, vf, by simp only [World.cell?, h, Nat.zero_add]; exact h2, h3⟩
theorem DsAt.blk {W : World} {b n : Nat} {cs : Array Value} {T : TypeId} {l : List DataM} (h : W.heap[b]? = some (.cells cs T (0, 0))) (hn : n = l.length) (hc : ∀ (i : Nat) (hi : i < l.length), cs[i * 2]? = some (.string l[i].name) ∧ ∃ vf, cs[i * 2 + 1]? = some vf ∧ CsAt W vf l[i].cons) : DsAt W (.slice (some ⟨b, 0, none⟩) n n) l := by
  refine ⟨_, _, _, rfl, hn, .inr ⟨b, 0, rfl, (Array.getElem?_eq_some_iff.1 h).1, fun i hi => ?_⟩⟩
  obtain ⟨h1, vf, h2, h3⟩ := hc i hi
  exact ⟨by simp only [World.cell?, h, Nat.zero_add]; exact h1, vf, by simp only [World.cell?, h, Nat.zero_add]; exact h2, h3⟩


end Go.Proofs.Yteidhlfiofiocab
