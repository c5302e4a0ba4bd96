/- The words of a text, and what SplitSeq's iterator does: it yields them in order. A loop over the words of a text (SplitSeq), whose body always goes on. What read does: a form out of the words of a text. -/
import Derived.Test.YtmdppblhbmbakaaGreatDoorF17
import Derived.RangeFuncNested
import Derived.RangeFuncBound
import Derived.RangeFuncCalls
import Derived.RangeFuncLeaves
import Derived.Shelf.Abstract
import Derived.Shelf.RegionOpen
import Derived.WalkKit
import Derived.OwnWalkIn
import Derived.TacticsInMore
import Derived.LoopNIn
import Derived.LoopIn
import Derived.Maps.OwnIn
import Derived.Maps.AppendAt
import Derived.RangeFuncBox
import Derived.Lib.AtoiErrMem
set_option linter.unusedVariables false
set_option linter.unusedSimpArgs false
namespace Go.Proofs.YtmdppblhbmbakaaGreatDoor
open Go.RowKit Go.Maps Go.Shelf _root_.Go.Proofs.YtmdppblhbmbakaaGreatDoor.Nm
attribute [local go_sem] Oper.semAt_some

/-- The words of a text: what stands between its spaces. -/
def splitW : List UInt8 → List (List UInt8)
  | [] => [[]]
  | c :: l => if c = 32 then [] :: splitW l else match splitW l with
    | [] => [[c]]
    | h :: t => (c :: h) :: t
theorem splitW_ne : ∀ l, splitW l ≠ []
  | [] => by simp [splitW]
  | c :: l => by
    unfold splitW
    split
    · simp
    · split <;> simp
theorem splitW_none : ∀ l : List UInt8, (32 : UInt8) ∉ l → splitW l = [l]
  | [], _ => rfl
  | c :: l, h => by
    have h1 := splitW_none l (fun k => h (List.mem_cons_of_mem _ k))
    have h2 : c ≠ 32 := fun k => h (by rw [k]; exact List.mem_cons_self)
    unfold splitW
    rw [if_neg h2, h1]
theorem splitW_some : ∀ (a b : List UInt8), (32 : UInt8) ∉ a → splitW (a ++ 32 :: b) = a :: splitW b
  | [], b, _ => by show (if (32 : UInt8) = 32 then [] :: splitW b else _) = _; rw [if_pos rfl]
  | c :: a, b, h => by
    have h1 := splitW_some a b (fun k => h (List.mem_cons_of_mem _ k))
    have h2 : c ≠ 32 := fun k => h (by rw [k]; exact List.mem_cons_self)
    show (if c = 32 then [] :: splitW (a ++ 32 :: b) else match splitW (a ++ 32 :: b) with | [] => [[c]] | h :: t => (c :: h) :: t) = _
    rw [if_neg h2, h1]
theorem space_ex (l : List UInt8) : (32 : UInt8) ∉ l ∨ ∃ a b, l = a ++ 32 :: b ∧ (32 : UInt8) ∉ a := by
  induction l with
  | nil => exact .inl (by simp)
  | cons x l ih =>
    by_cases hx : x = 32
    · exact .inr ⟨[], l, by rw [hx]; rfl, by simp⟩
    · rcases ih with h | ⟨a, b, rfl, h⟩
      · exact .inl (by simp only [List.mem_cons, not_or]; exact ⟨fun e => hx e.symm, h⟩)
      · exact .inr ⟨x :: a, b, rfl, by simp only [List.mem_cons, not_or]; exact ⟨fun e => hx e.symm, h⟩⟩

theorem splitW_length : ∀ l : List UInt8, (splitW l).length ≤ l.length + 1
  | [] => by simp [splitW]
  | c :: l => by
    have ih := splitW_length l
    unfold splitW
    split
    · simp; omega
    · split
      · simp
      · next h t e => rw [e] at ih; simp at ih ⊢; omega

/-- How much of the text is left, read off the iterator's cell. -/
def leftAt (W : World) (b : Nat) : Nat := match W.cell? ⟨b, 0, none⟩ with
  | some (.string s) => s.size
  | _ => 0
theorem Bo.left {W : World} {b : Nat} {s : ByteArray} (h : Bo W b (.string s)) : leftAt W b = s.size := by
  unfold leftAt; rw [h.cell.1]
theorem Bo.same {W W' : World} {b : Nat} {x : Value} (h : Bo W b x) (hk : W'.heap[b]? = W.heap[b]?) : Bo W' b x := by
  obtain ⟨T, hT⟩ := h; exact ⟨T, hk.trans hT⟩

set_option maxRecDepth 100000 in
set_option maxHeartbeats 3200000 in
theorem iter_any (l b : Nat) (s0 : ByteArray) (J : List (List UInt8) → World → Prop) (W : World)
    (hJ : ∀ pre W v, J pre W → J pre (W.setCell ⟨b, 0, none⟩ v))
    (hY : ∀ pre (x : ByteArray) W, x.size ≤ s0.size → (∃ rest, pre ++ [x.data.toList] ++ rest = splitW s0.data.toList) → J pre W → YieldAt Fence.wide 1 Tryz.prog l #[.string x] W fun e W' => e = .returned (.bool true) ∧ J (pre ++ [x.data.toList]) W' ∧ ∀ k, b ≤ k → k < b + 3 → W'.heap[k]? = W.heap[k]?)
    (h0 : J [] W) (hb0 : Bo W b (.string s0)) (hb1 : Bo W (b + 1) (.string ⟨#[32]⟩)) (hb2 : Bo W (b + 1 + 1) (.int .i64 0)) (hs : s0.size ≤ 100000) :
    CallsIn Fence.wide 2 Tryz.prog 163 #[.func (.yield l) #[] #[], .pointer (some ⟨b + 1, 0, none⟩), .pointer (some ⟨b, 0, none⟩), .pointer (some ⟨b + 1 + 1, 0, none⟩)] W fun e W' => (∃ v, e = .returned v) ∧ J (splitW s0.data.toList) W' := by
  have HJ := Lib.hid hJ
  have HY := Lib.hid hY
  have H0 := Lib.hid h0
  have HB0 := Lib.hid hb0
  have HB1 := Lib.hid hb1
  have HB2 := Lib.hid hb2
  obtain ⟨a0, a1⟩ := hb1.cell
  clear hJ hY h0 hb0 hb1 hb2
  refine callsIn_of_wp Tryz.func163 rfl trivial ?_ rfl
  simp only [Tryz.ntmps163, List.size_toArray, List.length_cons, List.length_nil, Nat.reduceAdd, Nat.reduceSub, Array.replicate_succ, Array.replicate_zero, List.push_toArray, List.append_toArray, List.nil_append, List.cons_append]
  gi_wp2
  clear a0 a1
  gi_loopw [7, 8] (fun _ _ wr => ∃ (pre : List (List UInt8)) (s : ByteArray), Hid (pre ++ splitW s.data.toList = splitW s0.data.toList) ∧ s.size ≤ s0.size ∧ Hid (J pre wr) ∧ Hid (Bo wr b (.string s)) ∧ Hid (Bo wr (b + 1) (.string ⟨#[32]⟩)) ∧ Hid (Bo wr (b + 1 + 1) (.int .i64 0))) (fun _ _ wr => leftAt wr b)
  case atStart => exact ⟨[], s0, Lib.hid rfl, Nat.le_refl _, H0, HB0, HB1, HB2⟩
  case round =>
    obtain ⟨pre, s, HP, hss, HJS, HBA, HBB, HBC⟩ := hrel
    obtain ⟨a0, a1⟩ := HBB.out.cell
    obtain ⟨b0, b1⟩ := HBA.out.cell
    obtain ⟨c0, c1⟩ := HBC.out.cell
    rcases space_ex s.data.toList with hm | ⟨u, v, huv, hu⟩
    · have HI : Hid (Lib.indexByte s.data.toList 32 = -1) := Lib.hid (indexByte_miss _ _ hm)
      have HX : Hid (pre ++ [s.data.toList] = splitW s0.data.toList) := Lib.hid (by rw [← HP.out, splitW_none _ hm])
      obtain ⟨fn, tmps, assign, body, hy, hR⟩ := HY.out pre s wr hss ⟨[], by rw [List.append_nil]; exact HX.out⟩ HJS.out
      clear hm HP
      gi_wp2_with (first | (refine ⟨trivial, ?_⟩; gi_at_call 165; refine (callsIn_wide.2 (index_any s (-1) _ HI)).mono ?_; rintro e w' ⟨rfl, rfl⟩))
      refine hR.mono ?_
      rintro e W3 ⟨rfl, hj3, hk3⟩
      gi_wp2
      go_end0
      exact ⟨⟨_, rfl⟩, by rw [← HX.out]; exact hj3⟩
    · obtain ⟨A, hA⟩ : ∃ A : ByteArray, A = ⟨u.toArray⟩ := ⟨_, rfl⟩
      have hAl : A.data.toList = u := by rw [hA]
      obtain ⟨V, hV⟩ : ∃ V : ByteArray, V = ⟨v.toArray⟩ := ⟨_, rfl⟩
      have hVl : V.data.toList = v := by rw [hV]
      have hsz : s.size = A.size + 1 + V.size := by rw [Lib.size_eq, Lib.size_eq, Lib.size_eq, huv, hAl, hVl]; simp; omega
      have HI : Hid (Lib.indexByte s.data.toList 32 = (A.size : Int)) := Lib.hid (by rw [huv, indexByte_hit _ _ _ hu, Lib.size_eq, hAl])
      have h1 : (0 : Int) ≤ (A.size : Int) := by omega
      have h2 : (A.size : Int) ≤ (s.size : Int) := by omega
      have h3 : (A.size : Int) + 1 ≤ (s.size : Int) := by omega
      have hs1 : s.size ≤ 100000 := by omega
      have hx1 : s.extract 0 A.size = A := by
        apply ByteArray.ext
        rw [ByteArray.data_extract]
        apply Array.ext'
        rw [Array.toList_extract, huv, hAl, Lib.size_eq, hAl]
        simp
      have hx2 : s.extract (A.size + 1) s.size = V := by
        apply ByteArray.ext
        rw [ByteArray.data_extract]
        apply Array.ext'
        rw [Array.toList_extract, hVl, Lib.size_eq, Lib.size_eq, huv, hAl]
        simp
        exact List.take_of_length_le (by omega)
      have hw1 : wrap64 (A.size : Int) = A.size := IntWalk.wrap64_in _ (by omega)
      have hw2 : wrap64 ((A.size : Int) + 1) = A.size + 1 := IntWalk.wrap64_in _ (by omega)
      have HX : Hid (∀ W', J (pre ++ [A.data.toList]) W' → J (pre ++ [u]) W') := Lib.hid (fun W' h => by rw [hAl] at h; exact h)
      have HPV : Hid (pre ++ [u] ++ splitW V.data.toList = splitW s0.data.toList) := Lib.hid (by rw [← HP.out, huv, splitW_some _ _ hu, hVl, List.append_assoc]; rfl)
      have HSZ : Hid (V.size < s.size ∧ V.size ≤ s0.size) := Lib.hid ⟨by omega, by omega⟩
      have HLF := Lib.hid HBA.out.left
      obtain ⟨fn, tmps, assign, body, hy, hR⟩ := HY.out pre A wr (by omega) ⟨splitW V.data.toList, by rw [hAl]; exact HPV.out⟩ HJS.out
      clear hA hAl hV hVl huv hu hsz HP
      gi_wp2_with (first | (refine ⟨trivial, ?_⟩; gi_at_call 165; refine (callsIn_wide.2 (index_any s (A.size : Int) _ HI)).mono ?_; rintro e w' ⟨rfl, rfl⟩))
      refine hR.mono ?_
      rintro e W3 ⟨rfl, hj3, hk3⟩
      have HJ3 := Lib.hid (HX.out _ hj3)
      have HBA3 := Lib.hid (HBA.out.same (hk3 b (Nat.le_refl _) (by omega)))
      have HBB3 := Lib.hid (HBB.out.same (hk3 (b + 1) (by omega) (by omega)))
      have HBC3 := Lib.hid (HBC.out.same (hk3 (b + 1 + 1) (by omega) (by omega)))
      clear hj3 hk3 a0 a1 b0 b1 c0 c1 hy hR
      obtain ⟨a0, a1⟩ := HBB3.out.cell
      obtain ⟨b0, b1⟩ := HBA3.out.cell
      gi_wp2
      go_roundw
      case rel => exact ⟨pre ++ [u], V, HPV, HSZ.out.2, Lib.hid (HJ.out _ _ _ HJ3.out), Lib.hid (HBA3.out.set _), Lib.hid (HBB3.out.past _ _ (by omega)), Lib.hid (HBC3.out.past _ _ (by omega))⟩
      case measure => rw [(HBA3.out.set (.string V)).left, HLF.out]; exact HSZ.out.1

end Go.Proofs.YtmdppblhbmbakaaGreatDoor
set_option linter.unusedVariables false
set_option linter.unusedSimpArgs false
namespace Go.Proofs.YtmdppblhbmbakaaGreatDoor
open Go.RowKit Go.Maps Go.Shelf _root_.Go.Proofs.YtmdppblhbmbakaaGreatDoor.Nm

/-- The blocks of a loop over words: the iterator's three, and the two of the loop's own. -/
def LoopRow (b : Nat) (row : Option Nat) : Prop := row = none ∨ row = some b ∨ row = some (b + 3) ∨ row = some (b + 4)
/-- What a round leaves as it lay. -/
def KeepsLoop (b : Nat) (W W' : World) : Prop := ∀ k, b ≤ k → k < b + 5 → W'.heap[k]? = W.heap[k]?
/-- How a round's body is left. -/
def RoundOk (b : Nat) (I : List (List UInt8) → World → Prop) (xs : List (List UInt8)) (W : World) : Exit → Act → World → Prop
  | .normal, _, W' => KeepsLoop b W W' ∧ I xs W'
  | _, _, _ => False

set_option maxRecDepth 100000 in
set_option maxHeartbeats 3200000 in
theorem range_words {g : Operand} {ps : Array Tmp} {assign body : Code} {Q : Exit → Act → World → Prop} {a : Act} {w : World} (b : Nat) (s0 : ByteArray)
    (hg : a.eval g = .func (.func 163) #[] #[.pointer (some ⟨b + 1, 0, none⟩), .pointer (some ⟨b, 0, none⟩), .pointer (some ⟨b + 1 + 1, 0, none⟩)])
    (hD : w.heap.size = b + 3) (hb0 : Bo w b (.string s0)) (hb1 : Bo w (b + 1) (.string ⟨#[32]⟩)) (hb2 : Bo w (b + 1 + 1) (.int .i64 0)) (hs : s0.size ≤ 100000) (hps : ps.size = 1)
    (I : List (List UInt8) → World → Prop) (hI : ∀ pre W W' row, I pre W → W.grownBy W' row → LoopRow b row → I pre W') (h0 : I [] w) (a₁ : ByteArray → Act)
    (hassign : ∀ (l : Nat) (x : ByteArray) (W : World) (K : Act → World → Prop), K (a₁ x) W → assign.wpIn (Fence.wide.inRound l) 1 Tryz.prog (Exit.then K (fun _ _ _ => False)) { tmps := (ps.zip #[.string x]).foldl (fun t (p, v) => t.setIfInBounds p v) a.tmps, defers := [] } W)
    (hbody : ∀ (l : Nat) (pre : List (List UInt8)) (x : ByteArray) (W : World), x.size ≤ s0.size → (∃ rest, pre ++ [x.data.toList] ++ rest = splitW s0.data.toList) → b + 5 ≤ W.heap.size → I pre W → body.wpIn (Fence.wide.inRound l) 1 Tryz.prog (RoundOk b I (pre ++ [x.data.toList]) W) (a₁ x) W)
    (hdone : ∀ W : World, I (splitW s0.data.toList) W → W.heap[b + 3]? = some (.deferred (some [])) → Q .normal { a with defers := { target := .collected (b + 3), args := #[] } :: a.defers } W) :
    (Code.rangeFunc g ps assign body).wpIn Fence.wide 3 Tryz.prog Q a w := by
  refine wpIn_rangeFunc fun fn _ => ?_
  obtain ⟨rc, hrc⟩ : ∃ rc : LoopState → Loop, rc = fun st => { state := st, pending := none, fn, tmps := a.tmps, params := ps, assign, body, defers := b + 3 } := ⟨_, rfl⟩
  have r1 := World.alloc_heap_new w (.deferred (some []))
  rw [hD] at r1
  have r2 := World.alloc_heap_new (w.alloc (.deferred (some []))) (.loop (rc .ready))
  rw [World.size_alloc, hD] at r2
  have r3 : ((w.alloc (.deferred (some []))).alloc (.loop (rc .ready))).heap[b + 3]? = some (.deferred (some [])) := (Below.heap_alloc _ _ _ (by rw [World.size_alloc]; omega)).trans r1
  have hw : Below w.heap.size w ((w.alloc (.deferred (some []))).alloc (.loop (rc .ready))) := ((Below.refl _ w).alloc (Nat.le_refl _) _).alloc (by simp) _
  have hI1 : I [] ((w.alloc (.deferred (some []))).alloc (.loop (rc .ready))) := hI _ _ _ none (hI _ _ _ none h0 (World.grownBy_alloc _ _ none) (.inl rfl)) (World.grownBy_alloc _ _ none) (.inl rfl)
  have hall : b + 5 ≤ ((w.alloc (.deferred (some []))).alloc (.loop (rc .ready))).heap.size := by simp; omega
  have hent := run_enterLoop_outer (P := Tryz.prog) (w := w) fn a.tmps ps assign body
  rw [hD] at hent
  have hent2 : (Instr.enterLoop fn a.tmps ps assign body none).run Tryz.prog w = .ok (b + 4, [{ target := .collected (b + 3), args := #[] }]) ((w.alloc (.deferred (some []))).alloc (.loop (rc .ready))) := by rw [hrc]; exact hent
  clear hent r1
  generalize (w.alloc (.deferred (some []))).alloc (.loop (rc .ready)) = W1 at r2 r3 hw hI1 hall hent2
  refine ⟨b + 4, [{ target := .collected (b + 3), args := #[] }], W1, { target := .fn (.func 163) #[.pointer (some ⟨b + 1, 0, none⟩), .pointer (some ⟨b, 0, none⟩), .pointer (some ⟨b + 1 + 1, 0, none⟩)], args := #[.func (.yield (b + 4)) #[] #[]] }, W1, 163,
    #[.func (.yield (b + 4)) #[] #[], .pointer (some ⟨b + 1, 0, none⟩), .pointer (some ⟨b, 0, none⟩), .pointer (some ⟨b + 1 + 1, 0, none⟩)], W1, hent2, ?_, fun _ _ => trivial, ?_, fun _ => by decide, ?_⟩
  · simp only [resolve, hg]
    simp [go_sem]
  · have he := enters_of Tryz.func163 (by kernel_rfl) rfl #[.func (.yield (b + 4)) #[] #[], .pointer (some ⟨b + 1, 0, none⟩), .pointer (some ⟨b, 0, none⟩), .pointer (some ⟨b + 1 + 1, 0, none⟩)] W1
    simp [invoke, go_sem, he]
  · refine (iter_any (b + 4) b s0 (fun pre W => I pre W ∧ W.heap[b + 4]? = some (.loop (rc .ready)) ∧ W.heap[b + 3]? = some (.deferred (some [])) ∧ b + 5 ≤ W.heap.size) W1 ?_ ?_ ⟨hI1, r2, r3, hall⟩ (hb0.below hw hb0.lt) (hb1.below hw hb1.lt) (hb2.below hw hb2.lt) hs).mono ?_
    · rintro pre W v ⟨i1, i2, i3, i4⟩
      exact ⟨hI _ _ _ _ i1 (grownBy_setCell' W b v) (.inr (.inl rfl)), (Below.heap_setCell W _ v (b + 4) (by dsimp only; omega)).trans i2, (Below.heap_setCell W _ v (b + 3) (by dsimp only; omega)).trans i3, by simpa [World.setCell] using i4⟩
    · rintro pre x W hx hpx ⟨i1, i2, i3, i4⟩
      have hl : b + 4 < W.heap.size := by omega
      have hy := run_yield (P := Tryz.prog) (args := #[.string x]) i2 (by rw [hrc]; exact hps.symm)
      rw [hrc] at hy
      refine ⟨fn, _, assign, body, hy, roundIn_of_wpIn trivial (hassign _ x W _ ⟨_, run_beginRound i2 (by rw [hrc]), ?_⟩)⟩
      have k1 : (W.putObj (b + 4) (.loop { rc .ready with state := .busy })).heap[b + 4]? = some (.loop { rc .ready with state := .busy }) := World.putObj_heap_same hl
      refine wpIn_mono (hbody (b + 4) pre x _ hx hpx (by simpa using i4) (hI _ _ _ _ i1 (grownBy_putObj' W _ _) (.inr (.inr (.inr rfl))))) ?_
      rintro e a3 W3 hp
      cases e with
      | normal =>
        obtain ⟨hk, hi⟩ := hp
        have m1 := (hk (b + 4) (by omega) (by omega)).trans k1
        have m2 := run_endRound (P := Tryz.prog) none m1
        have m3 : b + 4 < W3.heap.size := (Array.getElem?_eq_some_iff.1 m1).1
        refine ⟨_, _, m2, rfl, ⟨hI _ _ _ _ hi (grownBy_putObj' W3 _ _) (.inr (.inr (.inr rfl))), ?_, ?_, by simp; omega⟩, fun k h1 h2 => ?_⟩
        · rw [World.putObj_heap_same m3, hrc]; rfl
        · rw [World.putObj_heap_other (by omega), hk (b + 3) (by omega) (by omega), World.putObj_heap_other (by omega)]; exact i3
        · rw [World.putObj_heap_other (by omega), hk k h1 (by omega), World.putObj_heap_other (by omega)]
      | ret => exact hp.elim
      | exit id => exact hp.elim
      | goto t => exact hp.elim
      | panic ch => exact hp.elim
      | outgrown => exact hp.elim
    · rintro e W2 ⟨⟨v, rfl⟩, i1, i2, i3, i4⟩
      have h := run_endLoop (P := Tryz.prog) i2 (by rw [hrc]; simp)
      have hp : (rc .ready).pending = none := by rw [hrc]
      rw [hp] at h
      refine ⟨none, _, h, hdone _ (hI _ _ _ _ i1 (grownBy_putObj' W2 _ _) (.inr (.inr (.inr rfl)))) ((World.putObj_heap_other (by omega)).trans i3)⟩

end Go.Proofs.YtmdppblhbmbakaaGreatDoor
set_option linter.unusedVariables false
set_option linter.unusedSimpArgs false
namespace Go.Proofs.YtmdppblhbmbakaaGreatDoor
open Go.RowKit Go.Maps Go.Shelf _root_.Go.Proofs.YtmdppblhbmbakaaGreatDoor.Nm
attribute [local go_sem] Oper.semAt_some

/-- The cells of strconv's two errors. -/
def ErAt (g : Nat) (w : World) : Prop := ∃ ev, w.cell? ⟨g, 0, none⟩ = some ev ∧ (ev = .nilIface ∨ ∃ te pe, ev = .iface te pe) ∧ g < w.heap.size
def Ers (w : World) : Prop := ErAt 0 w ∧ ErAt 1 w
theorem ErAt.keep {g B : Nat} {w w' : World} (h : ErAt g w) (hb : Below B w w') (hB : w.heap.size ≤ B) : ErAt g w' := by
  obtain ⟨ev, h1, h2, h3⟩ := h
  exact ⟨ev, (hb.cell (p := ⟨g, 0, none⟩) (Nat.lt_of_lt_of_le h3 hB)).trans h1, h2, Nat.lt_of_lt_of_le h3 hb.size⟩
theorem Ers.keep {B : Nat} {w w' : World} (h : Ers w) (hb : Below B w w') (hB : w.heap.size ≤ B) : Ers w' := ⟨h.1.keep hb hB, h.2.keep hb hB⟩

/-- The number that Atoi returns, whatever its error. -/
def atoiV (l : List UInt8) : Int := match Lib.atoiAll l with
  | .ok v => v
  | .«syntax» => 0
  | .range => Lib.atoiSat l
theorem atoi_any (s : ByteArray) (v : Int) (w : World) (hv : Hid (atoiV s.data.toList = v)) (hs : s.size ≤ 100000) (he : Ers w) :
    Calls Tryz.prog 105 #[.string s] w fun e w' => (∃ er, e = .returned (.tuple #[.int .i64 v, er])) ∧ Below w.heap.size w w' := by
  have h := hv.out
  unfold atoiV at h
  obtain ⟨⟨e1, c1, d1, _⟩, ⟨e2, c2, d2, _⟩⟩ := he
  cases hr : Lib.atoiAll s.data.toList with
  | ok u =>
    rw [hr] at h
    obtain rfl : u = v := h
    refine (Tryz.strconv_Atoi_ok s (by omega) u hr w).mono ?_
    rintro e w' ⟨rfl, h⟩
    refine ⟨⟨_, rfl⟩, ?_⟩
    rcases h with rfl | ⟨t, rfl⟩
    · exact Below.refl _ _
    · exact Lib.bytesWorld_below w _ t
  | «syntax» =>
    rw [hr] at h
    obtain rfl : 0 = v := h
    refine (Tryz.strconv_Atoi_syntax s (by omega) hr e1 w c1 d1).mono ?_
    rintro e w' ⟨N, rfl, _, _, hb⟩
    exact ⟨⟨_, rfl⟩, hb⟩
  | range =>
    rw [hr] at h
    obtain rfl : Lib.atoiSat s.data.toList = v := h
    refine (Tryz.strconv_Atoi_range s (by omega) hr e2 w c2 d2).mono ?_
    rintro e w' ⟨N, rfl, _, _, hb⟩
    exact ⟨⟨_, rfl⟩, hb⟩

/-- What the reading of words has come to. -/
structure RdSt where
  neg : Bool
  size : ByteArray
  terms : List Tm
def rdStep (st : RdSt) (x : List UInt8) : RdSt :=
  if x = [43] ∨ x = [45] then ⟨decide (x = [45]), st.size, st.terms⟩
  else if Lib.hasPrefix x [120] = true then ⟨st.neg, ⟨#[]⟩, st.terms ++ [(atoiV (x.drop 1), numT st.neg (orT st.size ⟨#[49]⟩))]⟩
  else ⟨st.neg, ⟨x.toArray⟩, st.terms⟩
def rdAll (st : RdSt) (l : List (List UInt8)) : RdSt := l.foldl rdStep st
theorem rdAll_snoc (st : RdSt) (l : List (List UInt8)) (x : List UInt8) : rdAll st (l ++ [x]) = rdStep (rdAll st l) x := by simp [rdAll]
def rdStart (s : List UInt8) : RdSt := ⟨negT s, ⟨#[]⟩, []⟩
def rdEnd (st : RdSt) : ByteArray × List Tm := (if st.size.data.toList = [] then ⟨#[48]⟩ else numT st.neg st.size, st.terms)
/-- The form that a text stands for, right or not. -/
def readF (s : List UInt8) : ByteArray × List Tm := rdEnd (rdAll (rdStart s) (splitW (magT s)))

/-- The cells of terms. -/
def flatB (l : List Tm) : List Value := l.flatMap fun t => [.int .i64 t.1, .string t.2]
theorem flatB_snoc (l : List Tm) (t : Tm) : flatB (l ++ [t]) = flatB l ++ [.int .i64 t.1, .string t.2] := by simp [flatB]
theorem flatB_length (l : List Tm) : (flatB l).length = l.length * 2 := by
  induction l with
  | nil => rfl
  | cons t l ih => rw [show flatB (t :: l) = [.int .i64 t.1, .string t.2] ++ flatB l from rfl, List.length_append, ih]; simp; omega
theorem flatB_get : ∀ (q : List Tm) (i : Nat) (h : i < q.length), (flatB q)[i * 2]? = some (.int .i64 q[i].1) ∧ (flatB q)[i * 2 + 1]? = some (.string q[i].2)
  | [], i, h => absurd h (Nat.not_lt_zero i)
  | p :: q, 0, h => ⟨rfl, rfl⟩
  | p :: q, i + 1, h => by
    have e1 : (i + 1) * 2 = i * 2 + 1 + 1 := by omega
    have ih := flatB_get q i (by simpa using h)
    rw [e1, show flatB (p :: q) = .int .i64 p.1 :: .string p.2 :: flatB q from rfl]
    simpa using ih
theorem terms_of_flat {W : World} {B : Nat} {ad : Option Addr} {n cap : Nat} {q : List Tm} (h : W.ownsRow B 68 2 (.slice ad n cap) q.length (flatB q)) (hn : n = q.length) : TsAt W (.slice ad n cap) q := by
  obtain ⟨h1, h2⟩ := h
  rcases h2 with ⟨h, h0⟩ | ⟨g, cap', cur, h3, h4, h5, h6, h7, h8, h9⟩
  · cases h
    exact ⟨_, _, _, rfl, hn, .inl rfl⟩
  · cases h3
    refine ⟨_, _, _, rfl, rfl, .inr ⟨g, 0, rfl, (Array.getElem?_eq_some_iff.1 h5).1, fun i hi => ?_⟩⟩
    have hf := flatB_get q i hi
    have hcur : ∀ (j : Nat), j < q.length * 2 → cur[j]? = (flatB q)[j]? := fun j hj => by
      rw [← h9, List.getElem?_take, if_pos hj]; simp
    refine ⟨?_, ?_⟩
    · simp only [World.cell?, h5]
      rw [← hf.1, ← hcur _ (by omega)]; simp
    · simp only [World.cell?, h5]
      rw [← hf.2, ← hcur _ (by omega)]; simp

/-- read's boxes, and the row of its terms. -/
structure Rdm (w W : World) (st : RdSt) (v : Value) : Prop where
  b0 : Bx W w.heap.size (.slice none 0 0) (.string ⟨#[]⟩)
  b1 : Bx W (w.heap.size + 1) v (.string ⟨#[48]⟩)
  b2 : Bo W (w.heap.size + 2) (.bool st.neg)
  b3 : Bo W (w.heap.size + 3) (.string st.size)
  b4 : Bo W (w.heap.size + 4) (.func (.func 102) #[] #[.pointer (some ⟨w.heap.size + 2, 0, none⟩)])
  row : W.ownsRow (w.heap.size + 10) 68 2 v st.terms.length (flatB st.terms)
  below : Below w.heap.size w W
theorem Bo.grown {W W' : World} {g : Nat} {x : Value} {row : Option Nat} (h : Bo W g x) (hg : W.grownBy W' row) (hr : row ≠ some g) : Bo W' g x := by
  obtain ⟨T, hT⟩ := h
  exact ⟨T, (hg.block g (Array.getElem?_eq_some_iff.1 hT).1 (fun e => hr e.symm)).trans hT⟩
theorem Rdm.grown {w W W' : World} {st : RdSt} {v : Value} {row : Option Nat} (h : Rdm w W st v) (hg : W.grownBy W' row) (hr : ∀ k, row = some k → w.heap.size + 5 ≤ k) (hn : v.ownBlock = none ∨ v.ownBlock ≠ row) : Rdm w W' st v :=
  ⟨h.b0.grown hg (fun e => by have := hr _ e; omega), h.b1.grown hg (fun e => by have := hr _ e; omega), h.b2.grown hg (fun e => by have := hr _ e; omega), h.b3.grown hg (fun e => by have := hr _ e; omega), h.b4.grown hg (fun e => by have := hr _ e; omega),
    h.row.kept hg hn, h.below.grown hg h.below.size (fun k e => by have := hr _ e; omega)⟩
theorem Rdm.keep {w W W' : World} {st : RdSt} {v : Value} (h : Rdm w W st v) (hb : Below W.heap.size W W') : Rdm w W' st v :=
  h.grown (grown_of hb none) (fun k e => by cases e) (by cases v.ownBlock <;> simp)
theorem Rdm.loop {w W W' : World} {st : RdSt} {v : Value} {row : Option Nat} (h : Rdm w W st v) (hg : W.grownBy W' row) (hr : LoopRow (w.heap.size + 5) row) : Rdm w W' st v := by
  refine h.grown hg (fun k e => ?_) ?_
  · rcases hr with rfl | rfl | rfl | rfl
    · cases e
    · have := Option.some.inj e; omega
    · have := Option.some.inj e; omega
    · have := Option.some.inj e; omega
  · cases hv : v.ownBlock with
    | none => exact .inl rfl
    | some k =>
      have hk := (h.row.lt k hv).1
      refine .inr fun e => ?_
      rcases hr with rfl | rfl | rfl | rfl
      · cases e
      · have := Option.some.inj e; omega
      · have := Option.some.inj e; omega
      · have := Option.some.inj e; omega

end Go.Proofs.YtmdppblhbmbakaaGreatDoor
