/- The table of forms. -/
import Derived.Test.YtpeihgbkolihgaaDoorU11
import Derived.Laws.Tables
import Derived.Laws.Rows
import Derived.Laws.CopyOwn
import Derived.Deep.WholeRow
set_option linter.unusedVariables false
set_option linter.unusedSimpArgs false
namespace Go.Proofs.YtpeihgbkolihgaaDoor
open Go.RowKit

namespace Sx
def formL : List Value := [(.string ⟨#[]⟩), (.int .i64 0), (.int .i64 0), (.int .i64 0), (.int .i64 0), (.int .i64 0), (.int .i64 0), (.int .i64 0), (.int .i64 0), (.int .i64 0), (.int .i64 0), (.int .i64 0), (.string ⟨#[109, 111, 100, 117, 108, 101]⟩), (.int .i64 1), (.int .i64 0), (.int .i64 4), (.int .i64 0), (.int .i64 9223372036854775807), (.int .i64 40), (.int .i64 0), (.int .i64 9223372036854775807), (.int .i64 0), (.int .i64 0), (.int .i64 0), (.string ⟨#[105, 109, 112, 111, 114, 116]⟩), (.int .i64 1), (.int .i64 0), (.int .i64 256), (.int .i64 1), (.int .i64 9223372036854775807), (.int .i64 0), (.int .i64 0), (.int .i64 0), (.int .i64 0), (.int .i64 0), (.int .i64 0), (.string ⟨#[100, 97, 116, 97]⟩), (.int .i64 2), (.int .i64 0), (.int .i64 16), (.int .i64 1), (.int .i64 9223372036854775807), (.int .i64 0), (.int .i64 0), (.int .i64 0), (.int .i64 0), (.int .i64 0), (.int .i64 0), (.string ⟨#[99, 111, 110]⟩), (.int .i64 2), (.int .i64 0), (.int .i64 128), (.int .i64 0), (.int .i64 9223372036854775807), (.int .i64 0), (.int .i64 0), (.int .i64 0), (.int .i64 0), (.int .i64 0), (.int .i64 0), (.string ⟨#[102, 117, 110]⟩), (.int .i64 1), (.int .i64 0), (.int .i64 64), (.int .i64 0), (.int .i64 9223372036854775807), (.int .i64 128), (.int .i64 1), (.int .i64 1), (.int .i64 392960), (.int .i64 1), (.int .i64 1), (.string ⟨#[112, 97, 114, 97, 109]⟩), (.int .i64 1), (.int .i64 2), (.int .i64 128), (.int .i64 1), (.int .i64 1), (.int .i64 0), (.int .i64 0), (.int .i64 0), (.int .i64 0), (.int .i64 0), (.int .i64 0), (.string ⟨#[116, 121, 112, 101]⟩), (.int .i64 2), (.int .i64 0), (.int .i64 0), (.int .i64 0), (.int .i64 0), (.int .i64 0), (.int .i64 0), (.int .i64 0), (.int .i64 0), (.int .i64 0), (.int .i64 0), (.string ⟨#[110, 97, 109, 101]⟩), (.int .i64 1), (.int .i64 0), (.int .i64 0), (.int .i64 0), (.int .i64 0), (.int .i64 0), (.int .i64 0), (.int .i64 0), (.int .i64 0), (.int .i64 0), (.int .i64 0), (.string ⟨#[110, 117, 109]⟩), (.int .i64 0), (.int .i64 1), (.int .i64 0), (.int .i64 0), (.int .i64 0), (.int .i64 0), (.int .i64 0), (.int .i64 0), (.int .i64 0), (.int .i64 0), (.int .i64 0), (.string ⟨#[97, 112, 112, 108, 121]⟩), (.int .i64 1), (.int .i64 0), (.int .i64 392960), (.int .i64 1), (.int .i64 9223372036854775807), (.int .i64 0), (.int .i64 0), (.int .i64 0), (.int .i64 0), (.int .i64 0), (.int .i64 0), (.string ⟨#[98, 117, 105, 108, 100]⟩), (.int .i64 2), (.int .i64 0), (.int .i64 392960), (.int .i64 0), (.int .i64 9223372036854775807), (.int .i64 0), (.int .i64 0), (.int .i64 0), (.int .i64 0), (.int .i64 0), (.int .i64 0), (.string ⟨#[98, 105, 110, 97, 114, 121]⟩), (.int .i64 0), (.int .i64 3), (.int .i64 392960), (.int .i64 2), (.int .i64 2), (.int .i64 0), (.int .i64 0), (.int .i64 0), (.int .i64 0), (.int .i64 0), (.int .i64 0), (.string ⟨#[108, 101, 116]⟩), (.int .i64 1), (.int .i64 0), (.int .i64 392960), (.int .i64 2), (.int .i64 2), (.int .i64 0), (.int .i64 0), (.int .i64 0), (.int .i64 0), (.int .i64 0), (.int .i64 0), (.string ⟨#[105, 102]⟩), (.int .i64 0), (.int .i64 0), (.int .i64 392960), (.int .i64 3), (.int .i64 3), (.int .i64 0), (.int .i64 0), (.int .i64 0), (.int .i64 0), (.int .i64 0), (.int .i64 0), (.string ⟨#[109, 97, 116, 99, 104]⟩), (.int .i64 0), (.int .i64 4), (.int .i64 392960), (.int .i64 1), (.int .i64 9223372036854775807), (.int .i64 131072), (.int .i64 1), (.int .i64 9223372036854775807), (.int .i64 0), (.int .i64 0), (.int .i64 0), (.string ⟨#[118, 105, 101, 119]⟩), (.int .i64 0), (.int .i64 4), (.int .i64 392960), (.int .i64 1), (.int .i64 9223372036854775807), (.int .i64 131072), (.int .i64 1), (.int .i64 9223372036854775807), (.int .i64 0), (.int .i64 0), (.int .i64 0), (.string ⟨#[99, 108, 97, 117, 115, 101]⟩), (.int .i64 0), (.int .i64 0), (.int .i64 7864320), (.int .i64 1), (.int .i64 9223372036854775807), (.int .i64 392960), (.int .i64 1), (.int .i64 1), (.int .i64 0), (.int .i64 0), (.int .i64 0), (.string ⟨#[99, 111, 112, 121]⟩), (.int .i64 0), (.int .i64 0), (.int .i64 392960), (.int .i64 1), (.int .i64 1), (.int .i64 0), (.int .i64 0), (.int .i64 0), (.int .i64 0), (.int .i64 0), (.int .i64 0), (.string ⟨#[112, 119, 105, 108, 100]⟩), (.int .i64 0), (.int .i64 0), (.int .i64 0), (.int .i64 0), (.int .i64 0), (.int .i64 0), (.int .i64 0), (.int .i64 0), (.int .i64 0), (.int .i64 0), (.int .i64 0), (.string ⟨#[112, 110, 97, 109, 101]⟩), (.int .i64 1), (.int .i64 0), (.int .i64 0), (.int .i64 0), (.int .i64 0), (.int .i64 0), (.int .i64 0), (.int .i64 0), (.int .i64 0), (.int .i64 0), (.int .i64 0), (.string ⟨#[112, 110, 117, 109]⟩), (.int .i64 0), (.int .i64 1), (.int .i64 0), (.int .i64 0), (.int .i64 0), (.int .i64 0), (.int .i64 0), (.int .i64 0), (.int .i64 0), (.int .i64 0), (.int .i64 0), (.string ⟨#[112, 99, 111, 110]⟩), (.int .i64 2), (.int .i64 0), (.int .i64 7864320), (.int .i64 0), (.int .i64 9223372036854775807), (.int .i64 0), (.int .i64 0), (.int .i64 0), (.int .i64 0), (.int .i64 0), (.int .i64 0)]
def formTab : Array Value := formL.toArray
/-- What the leaves of a kind look like: the name of the kind, what Text and Num are, the groups of kids. -/
structure Form where
  kind : ByteArray
  text : Int
  num : Int
  a : Grp
  b : Grp
  c : Grp
def form (k : Nat) : Form := match k with
  | 1 => ⟨⟨#[109, 111, 100, 117, 108, 101]⟩, 1, 0, ⟨4, 0, 9223372036854775807⟩, ⟨40, 0, 9223372036854775807⟩, ⟨0, 0, 0⟩⟩
  | 2 => ⟨⟨#[105, 109, 112, 111, 114, 116]⟩, 1, 0, ⟨256, 1, 9223372036854775807⟩, ⟨0, 0, 0⟩, ⟨0, 0, 0⟩⟩
  | 3 => ⟨⟨#[100, 97, 116, 97]⟩, 2, 0, ⟨16, 1, 9223372036854775807⟩, ⟨0, 0, 0⟩, ⟨0, 0, 0⟩⟩
  | 4 => ⟨⟨#[99, 111, 110]⟩, 2, 0, ⟨128, 0, 9223372036854775807⟩, ⟨0, 0, 0⟩, ⟨0, 0, 0⟩⟩
  | 5 => ⟨⟨#[102, 117, 110]⟩, 1, 0, ⟨64, 0, 9223372036854775807⟩, ⟨128, 1, 1⟩, ⟨392960, 1, 1⟩⟩
  | 6 => ⟨⟨#[112, 97, 114, 97, 109]⟩, 1, 2, ⟨128, 1, 1⟩, ⟨0, 0, 0⟩, ⟨0, 0, 0⟩⟩
  | 7 => ⟨⟨#[116, 121, 112, 101]⟩, 2, 0, ⟨0, 0, 0⟩, ⟨0, 0, 0⟩, ⟨0, 0, 0⟩⟩
  | 8 => ⟨⟨#[110, 97, 109, 101]⟩, 1, 0, ⟨0, 0, 0⟩, ⟨0, 0, 0⟩, ⟨0, 0, 0⟩⟩
  | 9 => ⟨⟨#[110, 117, 109]⟩, 0, 1, ⟨0, 0, 0⟩, ⟨0, 0, 0⟩, ⟨0, 0, 0⟩⟩
  | 10 => ⟨⟨#[97, 112, 112, 108, 121]⟩, 1, 0, ⟨392960, 1, 9223372036854775807⟩, ⟨0, 0, 0⟩, ⟨0, 0, 0⟩⟩
  | 11 => ⟨⟨#[98, 117, 105, 108, 100]⟩, 2, 0, ⟨392960, 0, 9223372036854775807⟩, ⟨0, 0, 0⟩, ⟨0, 0, 0⟩⟩
  | 12 => ⟨⟨#[98, 105, 110, 97, 114, 121]⟩, 0, 3, ⟨392960, 2, 2⟩, ⟨0, 0, 0⟩, ⟨0, 0, 0⟩⟩
  | 13 => ⟨⟨#[108, 101, 116]⟩, 1, 0, ⟨392960, 2, 2⟩, ⟨0, 0, 0⟩, ⟨0, 0, 0⟩⟩
  | 14 => ⟨⟨#[105, 102]⟩, 0, 0, ⟨392960, 3, 3⟩, ⟨0, 0, 0⟩, ⟨0, 0, 0⟩⟩
  | 15 => ⟨⟨#[109, 97, 116, 99, 104]⟩, 0, 4, ⟨392960, 1, 9223372036854775807⟩, ⟨131072, 1, 9223372036854775807⟩, ⟨0, 0, 0⟩⟩
  | 16 => ⟨⟨#[118, 105, 101, 119]⟩, 0, 4, ⟨392960, 1, 9223372036854775807⟩, ⟨131072, 1, 9223372036854775807⟩, ⟨0, 0, 0⟩⟩
  | 17 => ⟨⟨#[99, 108, 97, 117, 115, 101]⟩, 0, 0, ⟨7864320, 1, 9223372036854775807⟩, ⟨392960, 1, 1⟩, ⟨0, 0, 0⟩⟩
  | 18 => ⟨⟨#[99, 111, 112, 121]⟩, 0, 0, ⟨392960, 1, 1⟩, ⟨0, 0, 0⟩, ⟨0, 0, 0⟩⟩
  | 19 => ⟨⟨#[112, 119, 105, 108, 100]⟩, 0, 0, ⟨0, 0, 0⟩, ⟨0, 0, 0⟩, ⟨0, 0, 0⟩⟩
  | 20 => ⟨⟨#[112, 110, 97, 109, 101]⟩, 1, 0, ⟨0, 0, 0⟩, ⟨0, 0, 0⟩, ⟨0, 0, 0⟩⟩
  | 21 => ⟨⟨#[112, 110, 117, 109]⟩, 0, 1, ⟨0, 0, 0⟩, ⟨0, 0, 0⟩, ⟨0, 0, 0⟩⟩
  | 22 => ⟨⟨#[112, 99, 111, 110]⟩, 2, 0, ⟨7864320, 0, 9223372036854775807⟩, ⟨0, 0, 0⟩, ⟨0, 0, 0⟩⟩
  | _ => ⟨⟨#[]⟩, 0, 0, ⟨0, 0, 0⟩, ⟨0, 0, 0⟩, ⟨0, 0, 0⟩⟩
def cellsOf (f : Form) : List Value := [.string f.kind, .int .i64 f.text, .int .i64 f.num, .int .i64 f.a.set, .int .i64 f.a.least, .int .i64 f.a.most, .int .i64 f.b.set, .int .i64 f.b.least, .int .i64 f.b.most, .int .i64 f.c.set, .int .i64 f.c.least, .int .i64 f.c.most]
set_option maxRecDepth 100000 in
theorem formTab_at (k : Nat) (h : k < 23) (j : Nat) (hj : j < 12) : formTab[k * 12 + j]? = (cellsOf (form k))[j]? := by
  have hk : k = 0 ∨ k = 1 ∨ k = 2 ∨ k = 3 ∨ k = 4 ∨ k = 5 ∨ k = 6 ∨ k = 7 ∨ k = 8 ∨ k = 9 ∨ k = 10 ∨ k = 11 ∨ k = 12 ∨ k = 13 ∨ k = 14 ∨ k = 15 ∨ k = 16 ∨ k = 17 ∨ k = 18 ∨ k = 19 ∨ k = 20 ∨ k = 21 ∨ k = 22 := by omega
  have hj2 : j = 0 ∨ j = 1 ∨ j = 2 ∨ j = 3 ∨ j = 4 ∨ j = 5 ∨ j = 6 ∨ j = 7 ∨ j = 8 ∨ j = 9 ∨ j = 10 ∨ j = 11 := by omega
  rcases hk with rfl | rfl | rfl | rfl | rfl | rfl | rfl | rfl | rfl | rfl | rfl | rfl | rfl | rfl | rfl | rfl | rfl | rfl | rfl | rfl | rfl | rfl | rfl <;> rcases hj2 with rfl | rfl | rfl | rfl | rfl | rfl | rfl | rfl | rfl | rfl | rfl | rfl <;> rfl
end Sx
theorem formTab_size : Sx.formTab.size = 276 := by kernel_rfl
theorem formTab_one : Sx.formTab.all (·.oneCell') = true := by kernel_rfl
theorem infoForms : (Tryd.prog.info? 69).map (·.size) = some Sx.formTab.size := by kernel_rfl
theorem zeroForms : Tryd.zeroCells69.size = Sx.formTab.size := by kernel_rfl
theorem show_tab (l : List Value) (v : Value) (hh : l.set 275 v = Sx.formL) : l.set 275 v = Sx.formL := hh

end Go.Proofs.YtpeihgbkolihgaaDoor
