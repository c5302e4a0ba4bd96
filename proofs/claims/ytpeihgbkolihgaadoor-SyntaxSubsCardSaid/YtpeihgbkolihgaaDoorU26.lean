/- The memory of Dump. -/
import Derived.Test.YtpeihgbkolihgaaDoorU25
import Derived.Test.YtpeihgbkolihgaaDoorUB
import Derived.Lib.LaidTab
import Derived.Lib.AppendIntMem
set_option linter.unusedVariables false
set_option linter.unusedSimpArgs false
namespace Go.Proofs.YtpeihgbkolihgaaDoor
open Go.RowKit

abbrev Tab (w : World) : Prop := Lib.TabIs Tryd.prog w "internal/strconv.uint64pow10" .u64 Lib.pow10Tab
theorem tab_keep {P : Program} {w w' : World} {n : String} {k : IntKind} {zs : List Int} {B : Nat} (h : Lib.TabIs P w n k zs) (hb : Below B w w') (hB : w.heap.size ≤ B) : Lib.TabIs P w' n k zs := by
  unfold Lib.TabIs World.var? at *
  cases hg : P.globalNamed n with
  | none => simp [hg] at h
  | some g =>
    simp only [hg, Option.bind_some] at h ⊢
    have hlt : g < w.heap.size := by
      rcases Nat.lt_or_ge g w.heap.size with h' | h'
      · exact h'
      · rw [Array.getElem?_eq_none h'] at h; simp at h
    rw [hb.block g (Nat.lt_of_lt_of_le hlt hB)]
    exact h

abbrev Bd (G : Nat) (bs : List UInt8) (W : World) : Prop := Lib.IsBuilder 63 5 G G (Lib.byteCells bs) W
theorem bdAt_keep {G : Nat} {p : Value} {bs : List Value} {W W' : World} (h : Lib.BuilderAt 63 5 G G p bs W) (hb : Below W.heap.size W W') : Lib.BuilderAt 63 5 G G p bs W' := by
  obtain ⟨hB, v, hk, hown, hne⟩ := h
  refine ⟨hB, v, (hb.block _ (lt_of hk)).trans hk, own_same hown fun g hg => ?_, hne⟩
  obtain ⟨_, _, _, hlt⟩ := own_type hown hg
  exact hb.block g hlt
theorem bd_keep {G : Nat} {bs : List UInt8} {W W' : World} (h : Bd G bs W) (hb : Below W.heap.size W W') : Bd G bs W' := by
  rcases h with h | h
  · exact .inl (bdAt_keep h hb)
  · exact .inr (bdAt_keep h hb)
theorem bd_lt {G : Nat} {bs : List UInt8} {W : World} (h : Bd G bs W) : G < W.heap.size := by
  rcases h with ⟨_, v, hk, _⟩ | ⟨_, v, hk, _⟩ <;> exact lt_of hk

def dmCaps (G T F A : Nat) : Array Value := #[.pointer (some ⟨T, 0, none⟩), .pointer (some ⟨G, 0, none⟩), .pointer (some ⟨F, 0, none⟩), .pointer (some ⟨A, 0, none⟩)]
def dmFn (G T F A : Nat) : Obj := .cells #[.func (.func 34) #[] (dmCaps G T F A)] 71
/-- What lies in the variables of Dump while it writes. -/
structure DmM (G T F A : Nat) (w0 : World) (bs : List UInt8) (W : World) : Prop where
  bld : Bd G bs W
  below : Below G w0 W
  tab : W.heap[T]? = some (.cells Sx.formTab 69)
  fn : W.heap[F]? = some (dmFn G T F A)
theorem DmM.keep {G T F A : Nat} {w0 W W' : World} {bs : List UInt8} (h : DmM G T F A w0 bs W) (hb : Below W.heap.size W W') : DmM G T F A w0 bs W' :=
  ⟨bd_keep h.bld hb, h.below.trans (hb.mono (Nat.le_of_lt (bd_lt h.bld))), (hb.block _ (lt_of h.tab)).trans h.tab, (hb.block _ (lt_of h.fn)).trans h.fn⟩
theorem DmM.alloc {G T F A : Nat} {w0 W : World} {bs : List UInt8} (h : DmM G T F A w0 bs W) (o : Obj) : DmM G T F A w0 bs (W.alloc o) :=
  h.keep ((Below.refl _ W).alloc (Nat.le_refl _) o)
theorem type_ne {W : World} {j : Nat} {cs : Array Value} {t t' : TypeId} {f : Nat × Nat} (h : W.heap[j]? = some (.cells cs t f)) (ht : t ≠ t') : ∀ cur fz, W.heap[j]? ≠ some (.cells cur t' fz) := by
  intro cur fz e
  rw [h] at e
  cases e
  exact ht rfl
theorem DmM.next {G T F A : Nat} {w0 W W' : World} {bs bs' : List UInt8} (h : DmM G T F A w0 bs W) (hT : T ≠ G) (hF : F ≠ G) {p : Value} (hp : p = .pointer (some ⟨G, 0, none⟩))
    (hb : Lib.BuilderAt 63 5 G G p (Lib.byteCells bs') W') (hB : Below G W W') (hf : BF G W W') : DmM G T F A w0 bs' W' := by
  subst hp
  refine ⟨.inr hb, h.below.trans hB, ?_, ?_⟩
  · rw [hf.high T (lt_of h.tab) hT (type_ne h.tab (by decide))]; exact h.tab
  · rw [hf.high F (lt_of h.fn) hF (type_ne h.fn (by decide))]; exact h.fn

theorem cells_app (l : List UInt8) (s : ByteArray) : Lib.byteCells l ++ Lib.strCells s = Lib.byteCells (l ++ s.data.toList) := by simp [Lib.byteCells, Lib.strCells]

/-- A string, a byte is written. -/
theorem DmM.string {G T F A : Nat} {w0 W : World} {bs : List UInt8} (h : DmM G T F A w0 bs W) (hT : T ≠ G) (hF : F ≠ G) (s : ByteArray) (hl : bs.length + s.size ≤ 140737488355328) :
    Calls Tryd.prog 35 #[.pointer (some ⟨G, 0, none⟩), .string s] W fun e w' => e = .returned (.tuple #[.int .i64 s.size, .nilIface]) ∧ DmM G T F A w0 (bs ++ s.data.toList) w' ∧ BF G W w' := by
  refine (WriteString_far G G _ s W h.bld (by rw [Lib.byteCells_length]; exact hl) (Nat.le_of_lt (bd_lt h.bld))).mono ?_
  rintro e w' ⟨rfl, h1, h2, h3⟩
  rw [cells_app] at h1
  exact ⟨rfl, h.next hT hF rfl h1 h2 h3, h3⟩
theorem DmM.byte {G T F A : Nat} {w0 W : World} {bs : List UInt8} (h : DmM G T F A w0 bs W) (hT : T ≠ G) (hF : F ≠ G) (c : UInt8) (z : Int) (hz : z = c.toNat) (hl : bs.length + 1 ≤ 140737488355328) :
    Calls Tryd.prog 37 #[.pointer (some ⟨G, 0, none⟩), .int .u8 z] W fun e w' => e = .returned .nilIface ∧ DmM G T F A w0 (bs ++ [c]) w' ∧ BF G W w' := by
  subst hz
  refine (WriteByte_far G G _ c.toNat W h.bld (by rw [Lib.byteCells_length]; exact hl) (Nat.le_of_lt (bd_lt h.bld))).mono ?_
  rintro e w' ⟨rfl, h1, h2, h3⟩
  have h4 : Lib.byteCells bs ++ [Value.int .u8 c.toNat] = Lib.byteCells (bs ++ [c]) := by simp [Lib.byteCells]
  rw [h4] at h1
  exact ⟨rfl, h.next hT hF rfl h1 h2 h3, h3⟩
theorem num_any {G T F A : Nat} {w0 W : World} {bs : List UInt8} (h : DmM G T F A w0 bs W) (hw0 : Tab w0) (hG : w0.heap.size ≤ G) (z : Int) (hz : In64 z) :
    Calls Tryd.prog 36 #[.int .i64 z, .int .i64 10] W fun e w' => e = .returned (.string ⟨(Lib.itoa z).toArray⟩) ∧ DmM G T F A w0 bs w' ∧ BF G W w' := by
  refine (Tryd.strconv_FormatInt_10 z (by have := hz.1; omega) (by have := hz.2; omega) W (tab_keep hw0 h.below hG)).mono ?_
  rintro e w' ⟨rfl, k, os, rfl⟩
  have hb := Lib.below_grow W.heap.size W (Nat.le_refl _) k os
  exact ⟨rfl, h.keep hb, .of_below hb⟩

end Go.Proofs.YtpeihgbkolihgaaDoor
