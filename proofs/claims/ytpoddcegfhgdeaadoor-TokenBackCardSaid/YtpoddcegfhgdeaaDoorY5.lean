/- The table of the bytes of names. -/
import Derived.Test.YtpoddcegfhgdeaaDoorY4
import Derived.Laws.Tables
import Derived.Laws.Rows
import Derived.Laws.CopyOwn
set_option linter.unusedVariables false
set_option linter.unusedSimpArgs false
namespace Go.Proofs.YtpoddcegfhgdeaaDoor
open Go.RowKit

def nmCells : Array Value := Array.ofFn (n := 256) (fun i => Value.bool (Tk.inNm (UInt8.ofNat i.1)))
theorem nmCells_size : nmCells.size = 256 := by simp [nmCells]
theorem nmCells_at (k : Nat) (h : k < 256) : nmCells[k]? = some (.bool (Tk.inNm (UInt8.ofNat k))) := by
  unfold nmCells
  rw [Array.getElem?_ofFn, dif_pos h]

theorem nmCells_one : ∀ v ∈ nmCells.toList, v.oneCell' = true := by
  intro v hv
  rw [Array.mem_toList_iff] at hv
  unfold nmCells at hv
  rw [Array.mem_ofFn] at hv
  obtain ⟨i, rfl⟩ := hv
  rfl

theorem isDigit_at (k : Nat) (b : Bool) (w : World) (hk : k < 256) (hb : Hid (Tk.isDg (UInt8.ofNat k) = b)) : Calls Tryd.prog 36 #[.int .u8 k] w fun e w' => e = .returned (.bool b) ∧ w = w' := by
  have h := isDigit_any (UInt8.ofNat k) w
  rw [hb.out] at h
  have e : (UInt8.ofNat k).toNat = k := by rw [UInt8.toNat_ofNat']; omega
  rw [e] at h
  exact h

def TabAt (W : World) (g k : Nat) : Prop := ∃ cur, W.heap[g]? = some (.cells cur 49 (0, 0)) ∧ cur.size = 256 ∧ ∀ j, j < k → cur[j]? = nmCells[j]?
theorem TabAt.set {W : World} {g k : Nat} (h : TabAt W g k) (hk : k < 256) (b : Bool) (hb : Tk.inNm (UInt8.ofNat k) = b) : TabAt (W.setCell ⟨g, k, none⟩ (.bool b)) g (k + 1) := by
  obtain ⟨cur, h0, h1, h2⟩ := h
  refine ⟨_, set_heap W g k cur _ _ h0, by simpa using h1, fun j hj => ?_⟩
  by_cases e : j = k
  · subst e
    rw [Array.getElem?_setIfInBounds_self_of_lt (by omega), nmCells_at j hk, hb]
  · rw [Array.getElem?_setIfInBounds_ne (by omega)]
    exact h2 j (by omega)
theorem TabAt.cell {W : World} {g k : Nat} (h : TabAt W g k) (j : Nat) (hj : j < 256) : ∃ v, W.cell? ⟨g, j, none⟩ = some v := by
  obtain ⟨cur, h0, h1, h2⟩ := h
  exact ⟨cur[j]'(by omega), by rw [cell_of_row W g j cur _ _ h0]; exact Array.getElem?_eq_getElem _⟩
theorem TabAt.froz {W : World} {g k : Nat} (h : TabAt W g k) (j : Nat) : W.frozen? ⟨g, j, none⟩ = false := by
  obtain ⟨cur, h0, _⟩ := h
  simp [World.frozen?, h0]
theorem TabAt.full {W : World} {g : Nat} (h : TabAt W g 256) : W.heap[g]? = some (.cells nmCells 49 (0, 0)) := by
  obtain ⟨cur, h0, h1, h2⟩ := h
  have e : cur = nmCells := by
    apply Array.ext_getElem?
    intro j
    by_cases hj : j < 256
    · exact h2 j hj
    · rw [Array.getElem?_eq_none (by omega), Array.getElem?_eq_none (by rw [nmCells_size]; omega)]
  rw [h0, e]

theorem infoTab : (Tryd.prog.info? 49).map (·.size) = some nmCells.size := by rw [nmCells_size]; kernel_rfl

theorem zero_tab : Tryd.zeroCells49.size = 256 := by kernel_rfl

set_option maxRecDepth 100000 in
set_option maxHeartbeats 25600000 in
theorem nameBytes_any (w : World) : Calls Tryd.prog 22 #[] w fun e w' => e = .returned (.agg nmCells) ∧ Below w.heap.size w w' := by
  have HW0 := Lib.hid (((Below.refl w.heap.size w).alloc (Nat.le_refl _) (.cells Tryd.zeroCells49 49)).alloc (by simp) (.cells Tryd.zeroCells49 49))
  have HT0 : Hid (TabAt ((w.alloc (.cells Tryd.zeroCells49 49)).alloc (.cells Tryd.zeroCells49 49)) (w.heap.size + 1) 0) := Lib.hid ⟨_, (by have := heap_alloc_new (w.alloc (.cells Tryd.zeroCells49 49)) (.cells Tryd.zeroCells49 49); rw [World.size_alloc] at this; exact this), zero_tab, fun j h => absurd h (Nat.not_lt_zero j)⟩
  have HR0 : Hid (TabAt ((w.alloc (.cells Tryd.zeroCells49 49)).alloc (.cells Tryd.zeroCells49 49)) w.heap.size 0) := Lib.hid ⟨_, (by rw [Lib.alloc_old _ _ _ (by simp)]; exact heap_alloc_new _ _), zero_tab, fun j h => absurd h (Nat.not_lt_zero j)⟩
  go_enter Tryd.func22, Tryd.ntmps22
  go_wp2
  go_loopw [4] (fun i wr => ∃ k : Nat, k ≤ 256 ∧ i = .int .i64 k ∧ Hid (TabAt wr (w.heap.size + 1) k) ∧ Hid (TabAt wr w.heap.size 0) ∧ Hid (Below w.heap.size w wr)) (fun i _ => 256 - (intOf i).toNat)
  case atStart => exact ⟨0, Nat.zero_le _, rfl, HT0, HR0, HW0⟩
  case round =>
    obtain ⟨k, hk, rfl, HT, HR, HW⟩ := hrel
    by_cases hlt : k < 256
    · obtain ⟨v0, hc⟩ := HT.out.cell k hlt
      have hf := HT.out.froz k
      have g0 : (0 : Int) ≤ k := by omega
      have g1 : (k : Int) < 256 := by omega
      obtain ⟨d, hd⟩ : ∃ d, Tk.isDg (UInt8.ofNat k) = d := ⟨_, rfl⟩
      have ek : (UInt8.ofNat k).toNat = k := by rw [UInt8.toNat_ofNat']; omega
      have hin : Tk.inNm (UInt8.ofNat k) = ((decide (97 ≤ k) && decide (k ≤ 122)) || (decide (65 ≤ k) && decide (k ≤ 90)) || d || decide (k = 95)) := by
        unfold Tk.inNm
        rw [ek, hd]
        congr 1
        have : (UInt8.ofNat k == 95) = decide (UInt8.ofNat k = 95) := rfl
        rw [this]
        congr 1
        apply propext
        constructor
        · intro h; have := congrArg UInt8.toNat h; rw [ek] at this; exact this
        · rintro rfl; rfl
      have hdg : d = (decide (48 ≤ k) && decide (k ≤ 57)) := by rw [← hd]; unfold Tk.isDg; rw [ek]
      have HD := Lib.hid hd
      have HIN := Lib.hid hin
      have HDG := Lib.hid hdg
      clear hd hin hdg ek
      by_cases c1 : (97 : Int) ≤ k
      · by_cases c2 : (k : Int) ≤ 122
        · have HV : Hid (Tk.inNm (UInt8.ofNat k) = true) := Lib.hid (by rw [HIN.out]; simp <;> omega)
          go_wp2_with (go_at_call 36; refine (isDigit_at k _ _ hlt HD).mono ?_; rintro e w' ⟨rfl, rfl⟩)
          go_roundw
          case rel => exact ⟨k + 1, by omega, by go_num, Lib.hid (HT.out.set hlt _ HV.out), Lib.hid (show TabAt _ w.heap.size 0 from by obtain ⟨c, h0, h1, h2⟩ := HR.out; exact ⟨c, (Below.heap_setCell wr ⟨w.heap.size + 1, k, none⟩ _ w.heap.size (by dsimp only; omega)).trans h0, h1, h2⟩), Lib.hid (HW.out.setCell (p := ⟨w.heap.size + 1, k, none⟩) (by dsimp only; omega) _)⟩
          case measure => simp [intOf]; omega
        · obtain rfl : d = false := by rw [HDG.out]; simp; omega
          have c5 : ((k : Int) == 95) = false := by simp; omega
          have c3 : (65 : Int) ≤ k := by omega
          have c4 : ¬ (k : Int) ≤ 90 := by omega
          have HV : Hid (Tk.inNm (UInt8.ofNat k) = false) := Lib.hid (by rw [HIN.out]; simp <;> omega)
          go_wp2_with (go_at_call 36; refine (isDigit_at k _ _ hlt HD).mono ?_; rintro e w' ⟨rfl, rfl⟩)
          go_roundw
          case rel => exact ⟨k + 1, by omega, by go_num, Lib.hid (HT.out.set hlt _ HV.out), Lib.hid (show TabAt _ w.heap.size 0 from by obtain ⟨c, h0, h1, h2⟩ := HR.out; exact ⟨c, (Below.heap_setCell wr ⟨w.heap.size + 1, k, none⟩ _ w.heap.size (by dsimp only; omega)).trans h0, h1, h2⟩), Lib.hid (HW.out.setCell (p := ⟨w.heap.size + 1, k, none⟩) (by dsimp only; omega) _)⟩
          case measure => simp [intOf]; omega
      · by_cases c3 : (65 : Int) ≤ k
        · by_cases c4 : (k : Int) ≤ 90
          · have HV : Hid (Tk.inNm (UInt8.ofNat k) = true) := Lib.hid (by rw [HIN.out]; simp <;> omega)
            go_wp2_with (go_at_call 36; refine (isDigit_at k _ _ hlt HD).mono ?_; rintro e w' ⟨rfl, rfl⟩)
            go_roundw
            case rel => exact ⟨k + 1, by omega, by go_num, Lib.hid (HT.out.set hlt _ HV.out), Lib.hid (show TabAt _ w.heap.size 0 from by obtain ⟨c, h0, h1, h2⟩ := HR.out; exact ⟨c, (Below.heap_setCell wr ⟨w.heap.size + 1, k, none⟩ _ w.heap.size (by dsimp only; omega)).trans h0, h1, h2⟩), Lib.hid (HW.out.setCell (p := ⟨w.heap.size + 1, k, none⟩) (by dsimp only; omega) _)⟩
            case measure => simp [intOf]; omega
          · obtain rfl : d = false := by rw [HDG.out]; simp; omega
            by_cases c6 : k = 95
            · obtain rfl : 95 = k := c6.symm
              have HD95 : Hid (Calls Tryd.prog 36 #[.int .u8 95] wr fun e w' => e = .returned (.bool false) ∧ wr = w') := Lib.hid (isDigit_at 95 false wr hlt HD)
              have HV : Hid (Tk.inNm (UInt8.ofNat 95) = true) := Lib.hid (by decide)
              clear c1 c3 c4 g0 g1
              go_wp2_with (go_at_call 36; refine HD95.out.mono ?_; rintro e w' ⟨rfl, rfl⟩)
              go_roundw
              case rel => exact ⟨96, by omega, by go_num, Lib.hid (HT.out.set hlt _ HV.out), Lib.hid (show TabAt _ w.heap.size 0 from by obtain ⟨c, h0, h1, h2⟩ := HR.out; exact ⟨c, (Below.heap_setCell wr ⟨w.heap.size + 1, 95, none⟩ _ w.heap.size (by dsimp only; omega)).trans h0, h1, h2⟩), Lib.hid (HW.out.setCell (p := ⟨w.heap.size + 1, 95, none⟩) (by dsimp only; omega) _)⟩
              case measure => simp [intOf]
            · have c5 : ((k : Int) == 95) = false := by simp; omega
              have HV : Hid (Tk.inNm (UInt8.ofNat k) = false) := Lib.hid (by rw [HIN.out]; simp <;> omega)
              go_wp2_with (go_at_call 36; refine (isDigit_at k _ _ hlt HD).mono ?_; rintro e w' ⟨rfl, rfl⟩)
              go_roundw
              case rel => exact ⟨k + 1, by omega, by go_num, Lib.hid (HT.out.set hlt _ HV.out), Lib.hid (show TabAt _ w.heap.size 0 from by obtain ⟨c, h0, h1, h2⟩ := HR.out; exact ⟨c, (Below.heap_setCell wr ⟨w.heap.size + 1, k, none⟩ _ w.heap.size (by dsimp only; omega)).trans h0, h1, h2⟩), Lib.hid (HW.out.setCell (p := ⟨w.heap.size + 1, k, none⟩) (by dsimp only; omega) _)⟩
              case measure => simp [intOf]; omega
        · have c5 : ((k : Int) == 95) = false := by simp; omega
          cases d
          · have HV : Hid (Tk.inNm (UInt8.ofNat k) = false) := Lib.hid (by rw [HIN.out]; simp <;> omega)
            go_wp2_with (go_at_call 36; refine (isDigit_at k _ _ hlt HD).mono ?_; rintro e w' ⟨rfl, rfl⟩)
            go_roundw
            case rel => exact ⟨k + 1, by omega, by go_num, Lib.hid (HT.out.set hlt _ HV.out), Lib.hid (show TabAt _ w.heap.size 0 from by obtain ⟨c, h0, h1, h2⟩ := HR.out; exact ⟨c, (Below.heap_setCell wr ⟨w.heap.size + 1, k, none⟩ _ w.heap.size (by dsimp only; omega)).trans h0, h1, h2⟩), Lib.hid (HW.out.setCell (p := ⟨w.heap.size + 1, k, none⟩) (by dsimp only; omega) _)⟩
            case measure => simp [intOf]; omega
          · have HV : Hid (Tk.inNm (UInt8.ofNat k) = true) := Lib.hid (by rw [HIN.out]; simp <;> omega)
            go_wp2_with (go_at_call 36; refine (isDigit_at k _ _ hlt HD).mono ?_; rintro e w' ⟨rfl, rfl⟩)
            go_roundw
            case rel => exact ⟨k + 1, by omega, by go_num, Lib.hid (HT.out.set hlt _ HV.out), Lib.hid (show TabAt _ w.heap.size 0 from by obtain ⟨c, h0, h1, h2⟩ := HR.out; exact ⟨c, (Below.heap_setCell wr ⟨w.heap.size + 1, k, none⟩ _ w.heap.size (by dsimp only; omega)).trans h0, h1, h2⟩), Lib.hid (HW.out.setCell (p := ⟨w.heap.size + 1, k, none⟩) (by dsimp only; omega) _)⟩
            case measure => simp [intOf]; omega
    · obtain rfl : k = 256 := by omega
      obtain ⟨old, o0, o1, _⟩ := HR.out
      have hfull := HT.out.full
      have HO := Lib.hid (And.intro o0 o1)
      have HF := Lib.hid hfull
      clear o0 o1 hfull
      go_wp2_with (fail)
      refine wp_load_row 49 (.tmp 1) rfl (w.heap.size + 1) rfl _ nmCells _ _ HF.out Tryd.underlying49 rfl infoTab ?_
      go_wp2_with (fail)
      have hst := run_storeCells_from (P := Tryd.prog) w.heap.size 49 nmCells.toList 0 old wr HO.out.1 (by rw [HO.out.2, Array.length_toList, nmCells_size]) nmCells_one
      rw [List.take_zero, List.nil_append, Array.toArray_toList] at hst
      rw [hst]
      simp only [Result.andThen]
      rw [Oper.upon_skip]
      clear hst
      have HG := Lib.hid (setRow_heap wr w.heap.size old nmCells _ _ HO.out.1)
      have HE := Lib.hid (below_setRow HW.out (Nat.le_refl _) nmCells)
      go_wp2
      refine bodyPost_ret (v := .agg nmCells) (results_cell_row Tryd.results22 _ _ w.heap.size _ nmCells _ _ (by rfl) HG.out Tryd.underlying49 rfl infoTab) rfl ⟨rfl, HE.out⟩

end Go.Proofs.YtpoddcegfhgdeaaDoor
