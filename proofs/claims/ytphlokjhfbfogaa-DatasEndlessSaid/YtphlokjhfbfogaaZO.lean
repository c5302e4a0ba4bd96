/- awake. -/
import Derived.Test.YtphlokjhfbfogaaZN
set_option linter.unusedVariables false
set_option linter.unusedSimpArgs false
namespace Go.Proofs.Ytphlokjhfbfogaa
open Go.RowKit Go.Shelf

theorem Dt.seq_data (x y : ByteArray) : Dt.seq x y = (x.data.toList == y.data.toList) := by unfold Dt.seq; rw [ByteArray.toList_eq, ByteArray.toList_eq]

theorem ex_sm : Sm exTable := by
  unfold Sm SmD SmC In64 exTable
  simp
  decide
theorem ex_many : Dt.many exTable = false := by decide +kernel
theorem ex_typed : Dt.typed exTable = true := by decide +kernel
theorem ex_form : Dt.form exTable = true := by
  unfold Dt.form exTable Dt.isBool Dt.pairB
  simp only [Dt.seq_data]
  decide +kernel
theorem ex_twice : Dt.twice exTable = false := by
  unfold Dt.twice exTable
  simp only [Dt.twF, Dt.conStep, Dt.inS, Dt.seq_data]
  decide +kernel
theorem ex_fin : AllFin exTable := by
  have h1 : HasFin exTable 1 := HasFin.data 0 (by decide) ⟨⟨#[70, 97, 108, 115, 101]⟩, []⟩ (by simp [exTable]) (by simp)
  have h2 : HasFin exTable 2 := HasFin.data 1 (by decide) ⟨⟨#[78, 105, 108]⟩, []⟩ (by simp [exTable]) (by simp)
  have h3 : HasFin exTable 3 := HasFin.data 2 (by decide) ⟨⟨#[82, 101, 100]⟩, []⟩ (by simp [exTable]) (by simp)
  have h4 : HasFin exTable 4 := HasFin.data 3 (by decide) ⟨⟨#[78, 111, 110, 101]⟩, []⟩ (by simp [exTable]) (by simp)
  intro i hi
  match i, hi with
  | 0, _ => exact h1
  | 1, _ => exact h2
  | 2, _ => exact h3
  | 3, _ => exact h4
  | i + 4, h => exact absurd h (by simp [exTable])
theorem ex_check : Dt.check exTable = 0 := by
  unfold Dt.check
  rw [ex_many, ex_form, ex_twice, ex_typed, (Dt.finB_iff exTable).2 ex_fin]
  rfl
theorem ex_reach : Dt.reach exTable 4 = [4, 2, 0] := by decide +kernel
theorem ex_rec2 : Dt.recB exTable 2 = true := by decide +kernel
theorem ex_rec4 : Dt.recB exTable 4 = false := by decide +kernel
theorem ex_flat3 : Dt.flat exTable 3 = true := by decide +kernel
theorem ex_flat2 : Dt.flat exTable 2 = false := by decide +kernel
theorem ex_cells : Dt.cells exTable 2 1 = 1 := by decide +kernel

set_option maxRecDepth 100000 in
set_option maxHeartbeats 6400000 in
theorem awake_any (w : World) : Calls Try.prog 4 #[] w fun e w' => e = .returned (.bool true) ∧ Below w.heap.size w w' := by
  go_enter Try.func4, Try.ntmps4
  go_wp2_with fail
  refine (table_any w).mono ?_
  rintro e w1 ⟨⟨u, rfl, hu⟩, hb⟩
  have HB1 := Lib.hid hb
  obtain ⟨ad, cap, hE⟩ := hu.slice
  have hlen : exTable.length = 4 := rfl
  rw [hlen] at hE
  have HU := Lib.hid hu
  subst hE
  clear hu hb hlen
  go_wp2_with fail
  refine (Reach_any _ exTable 4 w1 HU.out ex_sm (by unfold In64; omega)).mono ?_
  rintro e w2 ⟨⟨l, rfl, hl⟩, hb⟩
  have HB2 := Lib.hid (HB1.out.trans (hb.mono HB1.out.size))
  have HU2 := Lib.hid (HU.out.keep hb (Nat.le_refl _))
  rw [ex_reach] at hl
  obtain ⟨al, cl, hE⟩ := hl.slice
  have hlen : ([4, 2, 0] : List Int).length = 3 := rfl
  rw [hlen] at hE
  subst hE
  obtain ⟨bl, ol, rfl, hbl, c0⟩ := hl.at 0 (by decide)
  obtain ⟨bl', ol', e1, hbl1, c1⟩ := hl.at 1 (by decide)
  cases e1
  obtain ⟨bl', ol', e2, hbl2, c2⟩ := hl.at 2 (by decide)
  cases e2
  simp only [List.getElem_cons_zero, List.getElem_cons_succ] at c0 c1 c2
  clear hl hb hlen hbl1 hbl2
  go_wp2_with fail
  refine (Check_any _ exTable w2 HU2.out ex_sm).mono ?_
  rintro e w3 ⟨rfl, hb⟩
  rw [ex_check]
  have HB3 := Lib.hid (HB2.out.trans (hb.mono HB2.out.size))
  have HU3 := Lib.hid (HU2.out.keep hb (Nat.le_refl _))
  replace c0 := (hb.cell (p := ⟨bl, ol + 0, none⟩) hbl).trans c0
  replace c1 := (hb.cell (p := ⟨bl, ol + 1, none⟩) hbl).trans c1
  replace c2 := (hb.cell (p := ⟨bl, ol + 2, none⟩) hbl).trans c2
  rw [Nat.add_zero] at c0
  clear hb hbl
  go_wp2_with fail
  refine (Recursive_any _ exTable 2 true w3 HU3.out ex_sm (by unfold In64; omega) (Lib.hid ex_rec2)).mono ?_
  rintro e w4 ⟨rfl, hb⟩
  have HB4 := Lib.hid (HB3.out.trans (hb.mono HB3.out.size))
  have HU4 := Lib.hid (HU3.out.keep hb (Nat.le_refl _))
  clear hb c0 c1 c2
  go_wp2_with fail
  refine (Recursive_any _ exTable 4 false w4 HU4.out ex_sm (by unfold In64; omega) (Lib.hid ex_rec4)).mono ?_
  rintro e w5 ⟨rfl, hb⟩
  have HB5 := Lib.hid (HB4.out.trans (hb.mono HB4.out.size))
  have HU5 := Lib.hid (HU4.out.keep hb (Nat.le_refl _))
  clear hb
  go_wp2_with fail
  refine (Flat_any _ exTable 3 true w5 HU5.out ex_sm (Lib.hid ex_flat3)).mono ?_
  rintro e w6 ⟨rfl, hb⟩
  have HB6 := Lib.hid (HB5.out.trans (hb.mono HB5.out.size))
  have HU6 := Lib.hid (HU5.out.keep hb (Nat.le_refl _))
  clear hb
  go_wp2_with fail
  refine (Flat_any _ exTable 2 false w6 HU6.out ex_sm (Lib.hid ex_flat2)).mono ?_
  rintro e w7 ⟨rfl, hb⟩
  have HB7 := Lib.hid (HB6.out.trans (hb.mono HB6.out.size))
  have HU7 := Lib.hid (HU6.out.keep hb (Nat.le_refl _))
  clear hb
  go_wp2_with fail
  refine (Cells_any _ exTable 2 1 w7 HU7.out ex_sm (by unfold In64; omega)).mono ?_
  rintro e w8 ⟨rfl, hb⟩
  rw [ex_cells]
  have HB8 := Lib.hid (HB7.out.trans (hb.mono HB7.out.size))
  clear hb
  go_wp2
  go_ret
  exact ⟨rfl, HB8.out⟩

end Go.Proofs.Ytphlokjhfbfogaa
