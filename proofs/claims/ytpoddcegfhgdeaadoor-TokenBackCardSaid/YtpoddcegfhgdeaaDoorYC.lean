/- What Scan does. -/
import Derived.Test.YtpoddcegfhgdeaaDoorYB
import Derived.Deep.WholeRow
set_option linter.unusedVariables false
set_option linter.unusedSimpArgs false
namespace Go.Proofs.YtpoddcegfhgdeaaDoor
open Go.RowKit

def boxCells (s : ByteArray) : Array Value := (Value.string s :: nmCells.toList ++ [Value.slice none 0 0, Value.slice none 0 0]).toArray

set_option maxRecDepth 1000000 in
theorem built_box (s : ByteArray) : Tryd.prog.built 52 [(0, .string s), (1, .agg nmCells)] = some (boxCells s) := by kernel_rfl

theorem run_box (s : ByteArray) (W : World) : (Instr.build 52 #[(0, .string s), (1, .agg nmCells)]).run Tryd.prog W = .ok (.agg (boxCells s)) W := run_build W _ _ _ (built_box s)

theorem boxCells_size (s : ByteArray) : (boxCells s).size = 259 := by
  unfold boxCells
  simp [nmCells_size]
theorem boxCells_one (s : ByteArray) : ∀ v ∈ (boxCells s).toList, v.oneCell' = true := by
  intro v hv
  unfold boxCells at hv
  simp only [List.mem_append, List.mem_cons, List.not_mem_nil, or_false] at hv
  rcases hv with (rfl | hv) | rfl | rfl
  · rfl
  · exact nmCells_one v hv
  · rfl
  · rfl
theorem zero_box : Tryd.zeroCells52.size = 259 := by kernel_rfl

theorem SS.start (W : World) (s : ByteArray) : SS (W.alloc (.cells (boxCells s) 52)) W.heap.size s [] [] := by
  refine ⟨.slice none 0 0, .slice none 0 0, ⟨boxCells s, 52, heap_alloc_new _ _, ?_, ?_, ?_, ?_⟩, ⟨rfl, .inl ⟨rfl, rfl⟩⟩, ⟨rfl, .inl ⟨rfl, rfl⟩⟩⟩
  · unfold boxCells; simp
  · intro b
    have hb := b.toNat_lt
    have h1 := nmCells_at b.toNat hb
    have e : UInt8.ofNat b.toNat = b := by simp
    rw [e] at h1
    unfold boxCells
    rw [List.getElem?_toArray, Nat.add_comm, List.cons_append, List.getElem?_cons_succ, List.getElem?_append_left (by rw [Array.length_toList, nmCells_size]; exact hb)]
    simpa using h1
  · unfold boxCells
    rw [List.getElem?_toArray, List.cons_append, List.getElem?_cons_succ, List.getElem?_append_right (by rw [Array.length_toList, nmCells_size]; omega), Array.length_toList, nmCells_size]
    rfl
  · unfold boxCells
    rw [List.getElem?_toArray, List.cons_append, List.getElem?_cons_succ, List.getElem?_append_right (by rw [Array.length_toList, nmCells_size]; omega), Array.length_toList, nmCells_size]
    rfl

theorem wpList_build_at {P : Program} {ops : Array Oper} {rest : List Oper} {o : Oper} {a : Act} {w : World} {Q : Exit → Act → World → Prop} (hg : o.guard = none) (t : TypeId) (parts : Array (Nat × Operand)) (ho : o.op = .build t parts) (vs : List (Nat × Value)) (hvs : (parts.map fun (i, x) => (i, a.eval x)).toList = vs)
    (cells : Array Value) (hb : P.built t vs = some cells) (h : wpList P ops Q rest (a.put o.dst (.agg cells)) w) : wpList P ops Q (o :: rest) a w := by
  refine wpList_build hg t parts ho ?_ ?_
  · rw [hvs, hb]; rfl
  · rw [hvs, hb]; exact h

theorem own_base {W : World} {B B' n k : Nat} {e : TypeId} {v : Value} {xs : List Value} (h : W.ownsRow B e k v n xs) (hB : B' ≤ B) : W.ownsRow B' e k v n xs := by
  refine ⟨h.1, ?_⟩
  rcases h.2 with h1 | ⟨g, cap, cur, h1, h2, h3⟩
  · exact .inl h1
  · exact .inr ⟨g, cap, cur, h1, Nat.le_trans hB h2, h3⟩

/-- What Scan returns. -/
def ScanRes (R : Sum (Nat × Nat) (List Tk.Tok × List (Nat × Nat))) (s : ByteArray) (w : World) (e : Ending) (w' : World) : Prop :=
  Below w.heap.size w w' ∧ match R with
  | .inl p => e = .returned (.tuple #[.slice none 0 0, .slice none 0 0, .int .i64 p.1, .int .i64 p.2]) ∧ p.2 ≠ 0
  | .inr q => ∃ tv nv, e = .returned (.tuple #[tv, nv, .int .i64 0, .int .i64 0]) ∧ TokRow w.heap.size w' tv s q.1 ∧ NoteRow w.heap.size w' nv q.2

set_option maxRecDepth 100000 in
set_option maxHeartbeats 25600000 in
theorem Scan_any (s : ByteArray) (R : Sum (Nat × Nat) (List Tk.Tok × List (Nat × Nat))) (w : World) (her : Erg w) (hs : s.size ≤ 1000000) (hR : Hid (Tk.scanF s.data.toList = R)) :
    Calls Tryd.prog 11 #[.string s] w (ScanRes R s w) := by
  have hR1 := hR.out
  unfold Tk.scanF at hR1
  rw [← Lib.size_eq] at hR1
  by_cases hbig : 65536 < s.size
  · rw [if_pos hbig] at hR1
    subst hR1
    have hsi : (65536 : Int) < s.size := by omega
    go_enter Tryd.func11, Tryd.ntmps11
    go_wp2
    exact bodyPost_ret (v := .tuple #[.slice none 0 0, .slice none 0 0, .int .i64 0, .int .i64 5]) (by simp [results, Tryd.results11, go_sem]) rfl ⟨Below.refl _ _, rfl, (show (5 : Nat) ≠ 0 by decide)⟩
  · rw [if_neg hbig] at hR1
    have hsi : ¬ (65536 : Int) < s.size := by omega
    obtain ⟨i, hi⟩ : ∃ i, badAt s.data.toList = i := ⟨_, rfl⟩
    have HI := Lib.hid hi
    unfold badAt at hi
    cases hf : s.data.toList.findIdx? (fun b => !Tk.okB b) with
    | some j =>
      rw [hf] at hR1 hi
      dsimp only at hR1 hi
      subst hR1
      subst hi
      clear hf hR
      have hj : (0 : Int) ≤ j := by omega
      go_enter Tryd.func11, Tryd.ntmps11
      go_wp2_with (first | (go_at_call 20; refine (indexFunc_any s j _ HI).mono ?_; rintro e w1 ⟨rfl, hb1⟩; have HB1 := Lib.hid hb1; clear hb1))
      exact bodyPost_ret (v := .tuple #[.slice none 0 0, .slice none 0 0, .int .i64 j, .int .i64 25]) (by simp [results, Tryd.results11, go_sem]) rfl ⟨HB1.out, rfl, (show (25 : Nat) ≠ 0 by decide)⟩
    | none =>
      rw [hf] at hR1 hi
      dsimp only at hR1 hi
      subst hi
      clear hf hR
      have HR := Lib.hid hR1
      have HER := Lib.hid her
      clear hR1 her
      go_enter Tryd.func11, Tryd.ntmps11
      go_wp2_with (first | (go_at_call 20; refine (indexFunc_any s (-1) _ HI).mono ?_; rintro e w1 ⟨rfl, hb1⟩; have HB1 := Lib.hid hb1; clear hb1) | (go_at_call 22; refine (nameBytes_any _).mono ?_; rintro e w2 ⟨rfl, hb2⟩; have HB2 := Lib.hid hb2; clear hb2; refine hold ?_))
      refine go_on ?_
      refine (‹∀ (a : Act) (w : World), wpList _ _ _ _ a w → _›) _ _ ?_
      refine wpList_build_at rfl 52 #[(0, .tmp 18), (1, .tmp 19)] rfl [(0, .string s), (1, .agg nmCells)] ?hvs (boxCells s) (built_box s) ?_
      case hvs => simp [Act.eval]
      go_wp2_with fail
      have hst := run_storeCells_from (P := Tryd.prog) w2.heap.size 52 (boxCells s).toList 0 Tryd.zeroCells52 (w2.alloc (.cells Tryd.zeroCells52 52)) (heap_alloc_new _ _) (by rw [zero_box, Array.length_toList, boxCells_size]) (boxCells_one s)
      rw [List.take_zero, List.nil_append, Array.toArray_toList, World.setRow_alloc_new] at hst
      rw [hst]
      simp only [Result.andThen]
      rw [Oper.upon_skip]
      clear hst
      have hS3 := SS.start w2 s
      have hA3 := (Below.refl w2.heap.size w2).alloc (Nat.le_refl _) (.cells (boxCells s) 52)
      have hb02 := HB1.out.trans (HB2.out.mono HB1.out.size)
      have hb03 := hb02.trans (hA3.mono hb02.size)
      have hge : 2 < w.heap.size := by obtain ⟨_, _, _, h⟩ := HER.out; exact h
      have hgG : 2 < w2.heap.size := Nat.lt_of_lt_of_le hge hb02.size
      have HSC := Lib.hid (scan_any w2.heap.size s R (w2.alloc (.cells (boxCells s) 52)) hS3 (HER.out.keep hge hb03) hgG (by omega) HR)
      have HB03 := Lib.hid hb03
      have HWG : Hid (w.heap.size ≤ w2.heap.size) := Lib.hid hb02.size
      clear hS3 hA3 hb02 hb03 hge hgG
      cases R with
      | inl p =>
        obtain ⟨p1, p2⟩ := p
        go_wp2_with fail
        refine HSC.out.mono ?_
        rintro e w4 ⟨hfar, rfl, hp2, _⟩
        dsimp only at hp2
        have hp3 : ((p2 : Int) != 0) = true := by simp only [bne_iff_ne, ne_eq]; omega
        have HE := Lib.hid (HB03.out.trans (hfar.low.mono HWG.out))
        have HP := Lib.hid hp2
        clear hfar hp2
        dsimp only
        go_wp2
        exact bodyPost_ret (v := .tuple #[.slice none 0 0, .slice none 0 0, .int .i64 p1, .int .i64 p2]) (by simp [results, Tryd.results11, go_sem]) rfl ⟨HE.out, rfl, HP.out⟩
      | inr q =>
        obtain ⟨ts, ns⟩ := q
        go_wp2_with fail
        refine HSC.out.mono ?_
        rintro e w4 ⟨hfar, rfl, hss⟩
        dsimp only at hss
        obtain ⟨tv, nv, hsb⟩ := hss
        have HE := Lib.hid (HB03.out.trans (hfar.low.mono HWG.out))
        have HT : Hid (TokRow w.heap.size w4.drew tv s ts) := Lib.hid (own_base (own_same hsb.toks fun g _ => rfl) (by have := HWG.out; omega))
        have HN : Hid (NoteRow w.heap.size w4.drew nv ns) := Lib.hid (own_base (own_same hsb.notes fun g _ => rfl) (by have := HWG.out; omega))
        obtain ⟨c0, c1, c2⟩ := hsb.box.cell
        clear hfar hsb
        dsimp only
        go_wp2_with fail
        go_region
        go_wp2
        exact bodyPost_ret (v := .tuple #[tv, nv, .int .i64 0, .int .i64 0]) (by simp [results, Tryd.results11, go_sem]) rfl ⟨HE.out.drew, tv, nv, rfl, HT.out, HN.out⟩

end Go.Proofs.YtpoddcegfhgdeaaDoor
