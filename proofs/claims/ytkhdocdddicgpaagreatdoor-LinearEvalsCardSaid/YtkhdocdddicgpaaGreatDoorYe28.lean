/- Part 28: what the law's walk leans on. -/
import Derived.Test.YtkhdocdddicgpaaGreatDoorYe27
import Derived.Test.YtkhdocdddicgpaaGreatDoorYe21
set_option linter.unusedVariables false
set_option linter.unusedSimpArgs false
namespace Go.Proofs.YtkhdocdddicgpaaGreatDoor
open Go.RowKit Go.Maps _root_.Go.Proofs.YtkhdocdddicgpaaGreatDoor.Nm

/-- What Read returns, whatever it is. -/
theorem ReadRes.form {c : ByteArray} {l : List Tm} {w w' : World} {e : Ending} (h : ReadRes c l w e w') : ∃ a m cp n1 a1 l1 c1 n2 a2 l2 c2 er, e = .returned (.tuple #[.agg #[.slice a m cp, .bool n1, .slice a1 l1 c1, .bool n2, .slice a2 l2 c2], .int .i64 er]) ∧ ((partsErr c l ≠ 0 ∧ er = partsErr c l) ∨ (partsErr c l = 0 ∧ (er = 5 ∨ er = 0))) := by
  obtain ⟨_, h⟩ := h
  by_cases hp : partsErr c l ≠ 0
  · rw [if_pos hp] at h
    exact ⟨_, _, _, _, _, _, _, _, _, _, _, _, h, .inl ⟨hp, rfl⟩⟩
  · rw [if_neg hp] at h
    have hp0 : partsErr c l = 0 := Decidable.byContradiction fun e => hp e
    obtain ⟨qc, q, h1, h2, h3, h4⟩ := partsErr_zero hp0
    have h := h qc q h2 h1 h3 h4
    cases ha : acc (fun _ => 0) q with
    | none =>
      rw [ha] at h
      exact ⟨_, _, _, _, _, _, _, _, _, _, _, _, h, .inr ⟨hp0, .inl rfl⟩⟩
    | some f =>
      rw [ha] at h
      obtain ⟨v, he, s, cs, c4, rfl, hrow, hnum⟩ := h
      obtain ⟨a, cp, rfl⟩ := hrow.slice
      obtain ⟨n1, a1, l1, c1, n2, a2, l2, c2, rfl⟩ := hnum.expl
      exact ⟨_, _, _, _, _, _, _, _, _, _, _, _, he, .inr ⟨hp0, .inr rfl⟩⟩

theorem partsErr_cases (c : ByteArray) (l : List Tm) : partsErr c l = 0 ∨ partsErr c l = 2 ∨ partsErr c l = 3 := by
  unfold partsErr
  split
  · exact .inr (.inr rfl)
  · split
    · exact .inr (.inl rfl)
    · exact .inl rfl

set_option maxRecDepth 100000 in
set_option maxHeartbeats 6400000 in
theorem fCheck_any (c : ByteArray) (ad : Option Addr) (n cap : Nat) (l : List Tm) (r : Int) (w : World) (hv : TsAt w (.slice ad n cap) l) (hc : c.size ≤ 100000) (hl : ∀ t ∈ l, t.2.size ≤ 100000) (hn : l.length ≤ 500) (hr : Hid (checkErr c l = r)) :
    Calls Tryz.prog 34 #[.string c, .slice ad n cap] w fun e w' => e = .returned (.int .i64 r) ∧ Below w.heap.size w w' := by
  have HV := Lib.hid hv
  have HL := Lib.hid (And.intro hl hn)
  clear hv hl hn
  go_enter Tryz.func34, Tryz.ntmps34
  go_wp2_with fail
  refine (fRead_any c ad n cap l w HV.out hc HL.out.1 HL.out.2).mono ?_
  intro e w1 h
  obtain ⟨a, m, cp, n1, a1, l1, c1, n2, a2, l2, c2, er, rfl, hcase⟩ := h.form
  have HB1 := Lib.hid h.1
  have hA := (Below.refl w1.heap.size w1).alloc (Nat.le_refl _) (.cells #[.slice a m cp, .bool n1, .slice a1 l1 c1, .bool n2, .slice a2 l2 c2] 35)
  have HW1 := Lib.hid (h.1.trans (hA.mono h.1.size))
  have hr2 := hr.out
  unfold checkErr at hr2
  have HCASE := Lib.hid hcase
  clear h hA hcase
  rcases HCASE.out with ⟨hp, rfl⟩ | ⟨hp, her⟩
  · rw [if_pos hp] at hr2
    have hpe := partsErr_cases c l
    rw [hr2] at hpe hp
    have HP := Lib.hid hp
    rw [hr2]
    clear hr2 hp
    rcases hpe with rfl | rfl | rfl
    · exact absurd rfl HP.out
    · go_wp2
      go_ret
      exact ⟨rfl, HW1.out⟩
    · go_wp2
      go_ret
      exact ⟨rfl, HW1.out⟩
  · rw [if_neg (by rw [hp]; decide)] at hr2
    have HR := Lib.hid hr2
    clear hr2 hp HCASE
    have hwhole : Hid (True) := Lib.hid trivial
    rcases her with rfl | rfl
    · go_wp2
      go_loopw [7] (fun i wr => ∃ k : Nat, k ≤ n ∧ i = .int .i64 k ∧ Hid (AscUp l k) ∧ Hid (Below w.heap.size w wr)) (fun i _ => n - (intOf i).toNat)
      case atStart => exact ⟨0, Nat.zero_le _, rfl, Lib.hid (fun i _ h => absurd h (Nat.not_lt_zero i)), HW1⟩
      case round =>
        obtain ⟨k, hk, rfl, HAS, HW⟩ := hrel
        obtain ⟨ad', n', cap', e1, e2, hv⟩ := HV.out.keep HW.out (Nat.le_refl _)
        cases e1
        have HLEN := Lib.hid (And.intro trivial e2)
        have hn1 : n ≤ 1000 := by rw [e2]; have := HL.out.2; omega
        clear e2
        by_cases hlt : k < n
        · have hkl : k < l.length := by rw [← HLEN.out.2]; exact hlt
          obtain ⟨g, off, rfl, hg, hcc⟩ : ∃ g off, ad = some ⟨g, off, none⟩ ∧ g < wr.heap.size ∧ ∀ (i : Nat) (h : i < l.length), wr.cell? ⟨g, off + i * 2, none⟩ = some (.int .i64 l[i].1) ∧ wr.cell? ⟨g, off + i * 2 + 1, none⟩ = some (.string l[i].2) := by
            rcases hv with h | h
            · omega
            · exact h
          obtain ⟨hcell0, hcell1⟩ := hcc k hkl
          obtain ⟨col, hcol⟩ : ∃ col, l[k].1 = col := ⟨_, rfl⟩
          obtain ⟨x, hx⟩ : ∃ x, l[k].2 = x := ⟨_, rfl⟩
          rw [hcol] at hcell0
          rw [hx] at hcell1
          have HCOL := Lib.hid hcol
          have HX := Lib.hid hx
          have HCC := Lib.hid hcc
          clear hv hcc hcol hx hg
          have h1 : (0 : Int) ≤ k := by omega
          have h2 : (k : Int) < n := by omega
          by_cases hz : (x.toList == [48]) = true
          · have hbad : asc l = false := asc_bad k hkl (.inl (by rw [HX.out, ← Lib.toList_data]; exact hz))
            have hr3 : r = 3 := by have := HR.out; rw [hbad] at this; simpa using this.symm
            subst hr3
            clear hbad
            go_wp2_with fail
            go_quiet (fail)
            go_wp2
            go_ret
            exact ⟨rfl, Bel.drewN HW.out _⟩
          · have hzf : (x.toList == [48]) = false := by simpa using hz
            have hok1 : (l[k].2.data.toList == [48]) = false := by rw [HX.out, ← Lib.toList_data]; exact hzf
            clear hz
            by_cases hk0 : k = 0
            · have hg0 : decide (0 < k) = false := by rw [hk0]; rfl
              have HAS2 : Hid (AscUp l (k + 1)) := Lib.hid (fun i h hik => by
                obtain rfl : i = k := by omega
                exact ⟨hok1, fun h0 => by omega⟩)
              clear hok1 hk0
              go_wp2_with fail
              go_quiet (fail)
              go_wp2
              go_roundw
              case rel => exact ⟨k + 1, by omega, by go_num, HAS2, Lib.hid (Bel.drewN HW.out _)⟩
              case measure => simp [intOf]; omega
            · have hg0 : decide (0 < k) = true := by simp; omega
              obtain ⟨j, hj⟩ : ∃ j, k = j + 1 := ⟨k - 1, by omega⟩
              have hjl : j < l.length := by omega
              have hprev := (HCC.out j hjl).1
              obtain ⟨pc, hpc⟩ : ∃ pc, l[j].1 = pc := ⟨_, rfl⟩
              rw [hpc] at hprev
              have hwj : IntKind.i64.wrap ((k : Int) - 1) = (j : Int) := by rw [show (k : Int) - 1 = (j : Int) from by omega]; exact IntWalk.i64_in _ (by omega)
              have hj1 : (0 : Int) ≤ j := by omega
              have hj2 : (j : Int) < n := by omega
              have HKJ := Lib.hid hj
              by_cases hge : col ≤ pc
              · have hgeb : decide (col ≤ pc) = true := by simpa using hge
                have hbad : asc l = false := asc_bad k hkl (.inr ⟨by omega, by
                  have e : l[k - 1].1 = pc := by rw [← hpc]; congr 2; omega
                  rw [e, HCOL.out]; omega⟩)
                have hr3 : r = 3 := by have := HR.out; rw [hbad] at this; simpa using this.symm
                subst hr3
                clear hbad hge hok1 hj hk0 hpc
                go_wp2_with fail
                go_quiet (fail)
                go_wp2
                go_ret
                exact ⟨rfl, Bel.drewN HW.out _⟩
              · have hgeb : decide (col ≤ pc) = false := by simpa using hge
                have HAS2 : Hid (AscUp l (k + 1)) := Lib.hid (fun i h hik => by
                  rcases Nat.lt_or_ge i k with h2 | h2
                  · exact HAS.out i h h2
                  · obtain rfl : i = k := by omega
                    refine ⟨hok1, fun h0 => ?_⟩
                    have e : l[i - 1].1 = pc := by rw [← hpc]; congr 2; omega
                    rw [e, HCOL.out]; omega)
                clear hge hok1 hj hk0 hpc
                go_wp2_with fail
                go_quiet (fail)
                go_wp2
                go_roundw
                case rel => exact ⟨k + 1, by omega, by go_num, HAS2, Lib.hid (Bel.drewN HW.out _)⟩
                case measure => simp [intOf]; omega
        · obtain rfl : n = k := by omega
          have hall : asc l = true := asc_all (fun i h h2 => HAS.out i h (by rw [HLEN.out.2]; exact h2))
          have hr0 : r = 0 := by have := HR.out; rw [hall] at this; simpa using this.symm
          subst hr0
          have hnn : ¬ (n : Int) < n := by omega
          clear hv hall
          go_wp2
          go_ret
          exact ⟨rfl, HW.out⟩
    · go_wp2
      go_loopw [7] (fun i wr => ∃ k : Nat, k ≤ n ∧ i = .int .i64 k ∧ Hid (AscUp l k) ∧ Hid (Below w.heap.size w wr)) (fun i _ => n - (intOf i).toNat)
      case atStart => exact ⟨0, Nat.zero_le _, rfl, Lib.hid (fun i _ h => absurd h (Nat.not_lt_zero i)), HW1⟩
      case round =>
        obtain ⟨k, hk, rfl, HAS, HW⟩ := hrel
        obtain ⟨ad', n', cap', e1, e2, hv⟩ := HV.out.keep HW.out (Nat.le_refl _)
        cases e1
        have HLEN := Lib.hid (And.intro trivial e2)
        have hn1 : n ≤ 1000 := by rw [e2]; have := HL.out.2; omega
        clear e2
        by_cases hlt : k < n
        · have hkl : k < l.length := by rw [← HLEN.out.2]; exact hlt
          obtain ⟨g, off, rfl, hg, hcc⟩ : ∃ g off, ad = some ⟨g, off, none⟩ ∧ g < wr.heap.size ∧ ∀ (i : Nat) (h : i < l.length), wr.cell? ⟨g, off + i * 2, none⟩ = some (.int .i64 l[i].1) ∧ wr.cell? ⟨g, off + i * 2 + 1, none⟩ = some (.string l[i].2) := by
            rcases hv with h | h
            · omega
            · exact h
          obtain ⟨hcell0, hcell1⟩ := hcc k hkl
          obtain ⟨col, hcol⟩ : ∃ col, l[k].1 = col := ⟨_, rfl⟩
          obtain ⟨x, hx⟩ : ∃ x, l[k].2 = x := ⟨_, rfl⟩
          rw [hcol] at hcell0
          rw [hx] at hcell1
          have HCOL := Lib.hid hcol
          have HX := Lib.hid hx
          have HCC := Lib.hid hcc
          clear hv hcc hcol hx hg
          have h1 : (0 : Int) ≤ k := by omega
          have h2 : (k : Int) < n := by omega
          by_cases hz : (x.toList == [48]) = true
          · have hbad : asc l = false := asc_bad k hkl (.inl (by rw [HX.out, ← Lib.toList_data]; exact hz))
            have hr3 : r = 3 := by have := HR.out; rw [hbad] at this; simpa using this.symm
            subst hr3
            clear hbad
            go_wp2_with fail
            go_quiet (fail)
            go_wp2
            go_ret
            exact ⟨rfl, Bel.drewN HW.out _⟩
          · have hzf : (x.toList == [48]) = false := by simpa using hz
            have hok1 : (l[k].2.data.toList == [48]) = false := by rw [HX.out, ← Lib.toList_data]; exact hzf
            clear hz
            by_cases hk0 : k = 0
            · have hg0 : decide (0 < k) = false := by rw [hk0]; rfl
              have HAS2 : Hid (AscUp l (k + 1)) := Lib.hid (fun i h hik => by
                obtain rfl : i = k := by omega
                exact ⟨hok1, fun h0 => by omega⟩)
              clear hok1 hk0
              go_wp2_with fail
              go_quiet (fail)
              go_wp2
              go_roundw
              case rel => exact ⟨k + 1, by omega, by go_num, HAS2, Lib.hid (Bel.drewN HW.out _)⟩
              case measure => simp [intOf]; omega
            · have hg0 : decide (0 < k) = true := by simp; omega
              obtain ⟨j, hj⟩ : ∃ j, k = j + 1 := ⟨k - 1, by omega⟩
              have hjl : j < l.length := by omega
              have hprev := (HCC.out j hjl).1
              obtain ⟨pc, hpc⟩ : ∃ pc, l[j].1 = pc := ⟨_, rfl⟩
              rw [hpc] at hprev
              have hwj : IntKind.i64.wrap ((k : Int) - 1) = (j : Int) := by rw [show (k : Int) - 1 = (j : Int) from by omega]; exact IntWalk.i64_in _ (by omega)
              have hj1 : (0 : Int) ≤ j := by omega
              have hj2 : (j : Int) < n := by omega
              have HKJ := Lib.hid hj
              by_cases hge : col ≤ pc
              · have hgeb : decide (col ≤ pc) = true := by simpa using hge
                have hbad : asc l = false := asc_bad k hkl (.inr ⟨by omega, by
                  have e : l[k - 1].1 = pc := by rw [← hpc]; congr 2; omega
                  rw [e, HCOL.out]; omega⟩)
                have hr3 : r = 3 := by have := HR.out; rw [hbad] at this; simpa using this.symm
                subst hr3
                clear hbad hge hok1 hj hk0 hpc
                go_wp2_with fail
                go_quiet (fail)
                go_wp2
                go_ret
                exact ⟨rfl, Bel.drewN HW.out _⟩
              · have hgeb : decide (col ≤ pc) = false := by simpa using hge
                have HAS2 : Hid (AscUp l (k + 1)) := Lib.hid (fun i h hik => by
                  rcases Nat.lt_or_ge i k with h2 | h2
                  · exact HAS.out i h h2
                  · obtain rfl : i = k := by omega
                    refine ⟨hok1, fun h0 => ?_⟩
                    have e : l[i - 1].1 = pc := by rw [← hpc]; congr 2; omega
                    rw [e, HCOL.out]; omega)
                clear hge hok1 hj hk0 hpc
                go_wp2_with fail
                go_quiet (fail)
                go_wp2
                go_roundw
                case rel => exact ⟨k + 1, by omega, by go_num, HAS2, Lib.hid (Bel.drewN HW.out _)⟩
                case measure => simp [intOf]; omega
        · obtain rfl : n = k := by omega
          have hall : asc l = true := asc_all (fun i h h2 => HAS.out i h (by rw [HLEN.out.2]; exact h2))
          have hr0 : r = 0 := by have := HR.out; rw [hall] at this; simpa using this.symm
          subst hr0
          have hnn : ¬ (n : Int) < n := by omega
          clear hv hall
          go_wp2
          go_ret
          exact ⟨rfl, HW.out⟩

end Go.Proofs.YtkhdocdddicgpaaGreatDoor

set_option linter.unusedVariables false
set_option linter.unusedSimpArgs false
namespace Go.Proofs.YtkhdocdddicgpaaGreatDoor
open Go.RowKit Go.Maps _root_.Go.Proofs.YtkhdocdddicgpaaGreatDoor.Nm

set_option maxRecDepth 100000 in
set_option maxHeartbeats 3200000 in
theorem lread_bad (x : ByteArray) (ad : Option Addr) (n cap : Nat) (l : List Tm) (w : World) (h : InF w ad n cap x l) (hbad : checkErr x l ≠ 0) :
    Calls Tryz.prog 12 #[.agg #[.slice ad n cap, .string x]] w fun e w' => e = .returned (.tuple #[.agg #[.slice none 0 0, .bool false, .slice none 0 0, .bool false, .slice none 0 0], .int .i64 3]) ∧ Below w.heap.size w w' := by
  have hA := (Below.refl w.heap.size w).alloc (Nat.le_refl _) (.cells #[.slice ad n cap, .string x] 24)
  have hA2 := hA.alloc (by simp) (.cells #[.slice none 0 0, .bool false, .slice none 0 0, .bool false, .slice none 0 0] 35)
  have hR := B5.new (w.alloc (.cells #[.slice ad n cap, .string x] 24)) (.slice none 0 0) (.bool false) (.slice none 0 0) (.bool false) (.slice none 0 0) 35
  simp only [World.size_alloc] at hR
  have HB0 := Lib.hid ((Bx.new w (.slice ad n cap) (.string x) 24).alloc (.cells #[.slice none 0 0, .bool false, .slice none 0 0, .bool false, .slice none 0 0] 35))
  have HR0 := Lib.hid hR
  have HW0 := Lib.hid hA2
  have HV := Lib.hid (h.keep hA2 (Nat.le_refl _))
  obtain ⟨r1, hr1⟩ : ∃ r, checkErr x l = r := ⟨_, rfl⟩
  rw [hr1] at hbad
  have HR1 := Lib.hid hr1
  have hg1 : (r1 != 0) = true := by simpa using hbad
  clear hA hA2 hR h hr1 hbad
  obtain ⟨a0, a1, a2, a3⟩ := HB0.out.cell
  go_enter Tryz.func12, Tryz.ntmps12
  go_wp2_with fail
  refine (fCheck_any x ad n cap l r1 _ HV.out.at_ HV.out.size HV.out.sizes HV.out.len HR1).mono ?_
  rintro e w1 ⟨rfl, hb⟩
  have HRX := Lib.hid (HR0.out.keep hb)
  have HW1 := Lib.hid (HW0.out.trans (hb.mono HW0.out.size))
  clear hb a0 a1 a2 a3
  obtain ⟨b0, b1, b2, b3, b4⟩ := HRX.out.cell
  obtain ⟨f0, f1, f2, f3, f4⟩ := HRX.out.froz
  go_wp2
  obtain ⟨e0, e1, e2, e3, e4⟩ := (HRX.out.store (.slice none 0 0) (.bool false) (.slice none 0 0) (.bool false) (.slice none 0 0)).cell
  refine bodyPost_ret (v := .tuple #[.agg #[.slice none 0 0, .bool false, .slice none 0 0, .bool false, .slice none 0 0], .int .i64 3]) (by simp only [results, Tryz.results12]; simp [go_sem, e0, e1, e2, e3, e4]) rfl ?_
  exact ⟨rfl, ((((HW1.out.setCell (Nat.le_succ _) _).setCell (Nat.le_succ _) _).setCell (Nat.le_succ _) _).setCell (Nat.le_succ _) _).setCell (Nat.le_succ _) _⟩

set_option maxRecDepth 100000 in
set_option maxHeartbeats 3200000 in
theorem lread_good (qc : Rat) (x : ByteArray) (ad : Option Addr) (n cap : Nat) (q : List Qm) (w : World) (h : InV w ad n cap qc x q) :
    Calls Tryz.prog 12 #[.agg #[.slice ad n cap, .string x]] w fun e w' => (∃ v, e = .returned (.tuple #[v, .int .i64 0]) ∧ FormQ w' w.heap.size v (rowOf (co q) (colsOf q)) qc) ∧ Below w.heap.size w w' := by
  have hA := (Below.refl w.heap.size w).alloc (Nat.le_refl _) (.cells #[.slice ad n cap, .string x] 24)
  have hA2 := hA.alloc (by simp) (.cells #[.slice none 0 0, .bool false, .slice none 0 0, .bool false, .slice none 0 0] 35)
  have hR := B5.new (w.alloc (.cells #[.slice ad n cap, .string x] 24)) (.slice none 0 0) (.bool false) (.slice none 0 0) (.bool false) (.slice none 0 0) 35
  simp only [World.size_alloc] at hR
  have HB0 := Lib.hid ((Bx.new w (.slice ad n cap) (.string x) 24).alloc (.cells #[.slice none 0 0, .bool false, .slice none 0 0, .bool false, .slice none 0 0] 35))
  have HR0 := Lib.hid hR
  have HW0 := Lib.hid hA2
  have HV := Lib.hid (h.keep hA2 (Nat.le_refl _))
  have HOK := Lib.hid h.ok
  clear hA hA2 hR h
  obtain ⟨a0, a1, a2, a3⟩ := HB0.out.cell
  go_enter Tryz.func12, Tryz.ntmps12
  go_wp2_with fail
  refine (fCheck_any x ad n cap (tms q) 0 _ HV.out.in_.at_ HV.out.in_.size HV.out.in_.sizes HV.out.in_.len HOK).mono ?_
  rintro e w1 ⟨rfl, hb⟩
  have HRX := Lib.hid (HR0.out.keep hb)
  have HBX := Lib.hid (HB0.out.below hb HB0.out.lt)
  have HW1 := Lib.hid (HW0.out.trans (hb.mono HW0.out.size))
  have HV1 := Lib.hid (HV.out.keep hb (Nat.le_refl _))
  clear hb a0 a1 a2 a3
  obtain ⟨a0, a1, a2, a3⟩ := HBX.out.cell
  go_wp2_with fail
  refine (fRead_any x ad n cap (tms q) _ HV1.out.in_.at_ HV1.out.in_.size HV1.out.in_.sizes HV1.out.in_.len).mono ?_
  intro e w2 hres
  obtain ⟨hb, hres⟩ := hres
  have hp0 : partsErr x (tms q) = 0 := by rw [← HV1.out.is_]; exact partsErr_tms HV1.out.short HV1.out.terms
  rw [if_neg (by rw [hp0]; decide)] at hres
  have hres := hres qc q HV1.out.short HV1.out.is_.symm rfl HV1.out.terms
  rw [acc_fo HV1.out.fo] at hres
  obtain ⟨v, rfl, s, cs, c4, rfl, hrow, hnum⟩ := hres
  obtain ⟨as', cap', hs⟩ := hrow.slice
  subst hs
  obtain ⟨n1, a1', l1, c1, n2, a2', l2, c2, rfl⟩ := hnum.expl
  have HROW := Lib.hid hrow
  have HNUM := Lib.hid hnum
  have HRY := Lib.hid (HRX.out.keep hb)
  have HW2 := Lib.hid (HW1.out.trans (hb.mono HW1.out.size))
  have HLT : Hid (w.heap.size + 1 < w1.heap.size) := Lib.hid HRX.out.lt
  clear hb a0 a1 a2 a3 hrow hnum hp0
  obtain ⟨b0, b1, b2, b3, b4⟩ := HRY.out.cell
  obtain ⟨f0, f1, f2, f3, f4⟩ := HRY.out.froz
  dsimp only
  obtain ⟨ln, hln⟩ : ∃ ln, (rowOf (co q) (colsOf q)).length = ln := ⟨_, rfl⟩
  rw [hln]
  go_wp2
  obtain ⟨e0, e1, e2, e3, e4⟩ := (HRY.out.store (.slice as' ln cap') (.bool n1) (.slice a1' l1 c1) (.bool n2) (.slice a2' l2 c2)).cell
  refine bodyPost_ret (v := .tuple #[.agg #[.slice as' ln cap', .bool n1, .slice a1' l1 c1, .bool n2, .slice a2' l2 c2], .int .i64 0]) (by simp only [results, Tryz.results12]; simp [go_sem, e0, e1, e2, e3, e4]) rfl ?_
  have hrow := HROW.out
  rw [hln] at hrow
  have hka : Ka w1.heap.size w2 (w.heap.size + 1) (.slice as' ln cap') (rowOf (co q) (colsOf q)) cs (.bool n1, .slice a1' l1 c1, .bool n2, .slice a2' l2 c2) qc := ⟨hrow, HNUM.out, HRY.out.bn (ni5 (ni_slice _ _ _) _ _ _ _ _ _ _ _), fun b hb => by have := (hrow.own.lt b hb).1; have := HLT.out; omega⟩
  have hk5 := ((((hka.set 0 (ni_slice as' ln cap')).set 1 (ni_bool n1)).set 2 (ni_slice a1' l1 c1)).set 3 (ni_bool n2)).set 4 (ni_slice a2' l2 c2)
  exact ⟨⟨_, rfl, _, cs, (.bool n1, .slice a1' l1 c1, .bool n2, .slice a2' l2 c2), rfl, hk5.row.base (by have := HLT.out; omega), hk5.num⟩, ((((HW2.out.setCell (Nat.le_succ _) _).setCell (Nat.le_succ _) _).setCell (Nat.le_succ _) _).setCell (Nat.le_succ _) _).setCell (Nat.le_succ _) _⟩

end Go.Proofs.YtkhdocdddicgpaaGreatDoor

set_option linter.unusedVariables false
set_option linter.unusedSimpArgs false
namespace Go.Proofs.YtkhdocdddicgpaaGreatDoor
open Go.RowKit Go.Maps _root_.Go.Proofs.YtkhdocdddicgpaaGreatDoor.Nm

set_option maxRecDepth 100000 in
set_option maxHeartbeats 3200000 in
theorem rCoef_any (s : Value) (n1 n2 : Bool) (p1 p2 : Option Addr) (l1 c1 l2 c2 B m : Nat) (f : Int → Rat) (cs : List C4) (col : Int) (r : Rat) (w : World) (h : RowQ B w s (rowOf f m) cs) (hr : Hid ((if 0 ≤ col ∧ col < (m : Int) then f col else 0) = r)) :
    Calls Tryz.prog 20 #[.agg #[s, .bool n1, .slice p1 l1 c1, .bool n2, .slice p2 l2 c2], .int .i64 col] w (RRPost r w) := by
  obtain ⟨as', cap', rfl⟩ := h.slice
  rw [rowOf_length]
  rw [rowOf_length] at h
  have hA := (Below.refl w.heap.size w).alloc (Nat.le_refl _) (.cells #[.slice as' m cap', .bool n1, .slice p1 l1 c1, .bool n2, .slice p2 l2 c2] 35)
  have hA2 := hA.alloc (by simp) (.cells #[.bool false, .slice none 0 0, .bool false, .slice none 0 0] 33)
  have hR := B4.new (w.alloc (.cells #[.slice as' m cap', .bool n1, .slice p1 l1 c1, .bool n2, .slice p2 l2 c2] 35)) (.bool false) (.slice none 0 0) (.bool false) (.slice none 0 0) 33
  simp only [World.size_alloc] at hR
  have HR0 := Lib.hid hR
  have HW0 := Lib.hid hA2
  have HF0 := Lib.hid ((B5.new w (.slice as' m cap') (.bool n1) (.slice p1 l1 c1) (.bool n2) (.slice p2 l2 c2) 35).keep ((Below.refl _ _).alloc (Nat.le_refl _) (.cells #[.bool false, .slice none 0 0, .bool false, .slice none 0 0] 33)))
  have HQ0 := Lib.hid (h.keep hA)
  have HAA := Lib.hid hA
  clear hA hA2 hR h
  obtain ⟨a0, a1, a2, a3, a4⟩ := HF0.out.cell
  go_enter Tryz.func20, Tryz.ntmps20
  by_cases hneg : col < 0
  · obtain rfl : (0 : Rat) = r := by rw [← hr.out, if_neg (by omega)]
    go_wp2_with fail
    refine (rrInt_zero _).mono ?_
    rintro e w1 ⟨v1, rfl, hr1, hb⟩
    obtain ⟨m1, b1, j1, d1, m2, b2, j2, d2, rfl, hz1, hz2⟩ := hr1
    have HV : Hid (RRef w1 (.agg #[.bool m1, .slice b1 j1 d1, .bool m2, .slice b2 j2 d2]) 0) := Lib.hid ⟨_, _, _, _, _, _, _, _, rfl, hz1, hz2⟩
    have HR1 := Lib.hid (HR0.out.below hb HR0.out.lt)
    have HW1 := Lib.hid (HW0.out.trans (hb.mono HW0.out.size))
    clear hb hz1 hz2 a0 a1 a2 a3 a4
    obtain ⟨k0, k1, k2, k3⟩ := HR1.out.cell
    obtain ⟨f0, f1, f2, f3⟩ := HR1.out.froz
    go_wp2
    obtain ⟨l0, l1', l2', l3'⟩ := (HR1.out.put (.bool m1) (.slice b1 j1 d1) (.bool m2) (.slice b2 j2 d2)).cell
    refine bodyPost_ret (v := .agg #[.bool m1, .slice b1 j1 d1, .bool m2, .slice b2 j2 d2]) (by simp only [results, Tryz.results20]; simp [go_sem, l0, l1', l2', l3']) rfl ?_
    exact RRPost.boxed HV.out HR1.out HW1.out (by omega) _ _ _ _
  · by_cases hbig : (m : Int) ≤ col
    · obtain rfl : (0 : Rat) = r := by rw [← hr.out, if_neg (by omega)]
      go_wp2_with fail
      refine (rrInt_zero _).mono ?_
      rintro e w1 ⟨v1, rfl, hr1, hb⟩
      obtain ⟨m1, b1, j1, d1, m2, b2, j2, d2, rfl, hz1, hz2⟩ := hr1
      have HV : Hid (RRef w1 (.agg #[.bool m1, .slice b1 j1 d1, .bool m2, .slice b2 j2 d2]) 0) := Lib.hid ⟨_, _, _, _, _, _, _, _, rfl, hz1, hz2⟩
      have HR1 := Lib.hid (HR0.out.below hb HR0.out.lt)
      have HW1 := Lib.hid (HW0.out.trans (hb.mono HW0.out.size))
      clear hb hz1 hz2 a0 a1 a2 a3 a4
      obtain ⟨k0, k1, k2, k3⟩ := HR1.out.cell
      obtain ⟨f0, f1, f2, f3⟩ := HR1.out.froz
      go_wp2
      obtain ⟨l0, l1', l2', l3'⟩ := (HR1.out.put (.bool m1) (.slice b1 j1 d1) (.bool m2) (.slice b2 j2 d2)).cell
      refine bodyPost_ret (v := .agg #[.bool m1, .slice b1 j1 d1, .bool m2, .slice b2 j2 d2]) (by simp only [results, Tryz.results20]; simp [go_sem, l0, l1', l2', l3']) rfl ?_
      exact RRPost.boxed HV.out HR1.out HW1.out (by omega) _ _ _ _
    · obtain ⟨j, rfl⟩ : ∃ j : Nat, col = (j : Int) := ⟨col.toNat, (Int.toNat_of_nonneg (by omega)).symm⟩
      have hjm : j < m := by omega
      have hrv : f (j : Int) = r := by rw [← hr.out, if_pos (by omega)]
      obtain ⟨gr, capr, cr, ev, t0, t1, t2, t3, hrr⟩ := HQ0.out.at j (by rw [rowOf_length]; exact hjm)
      rw [rowOf_get, hrv] at hrr
      rw [rowOf_length] at ev
      simp only [Value.slice.injEq, true_and] at ev
      obtain ⟨rfl, rfl⟩ := ev
      obtain ⟨q1, q2, q3, q4, q5, q6, q7, q8, rfl⟩ := hrr.expl
      dsimp only at t0 t1 t2 t3
      have HRR := Lib.hid hrr
      have hgr := World.block_lt_of_cell? _ _ t0
      have hB := (Below.refl (w.alloc (.cells #[.slice (some ⟨gr, 0, none⟩) m cap', .bool n1, .slice p1 l1 c1, .bool n2, .slice p2 l2 c2] 35)).heap.size (w.alloc (.cells #[.slice (some ⟨gr, 0, none⟩) m cap', .bool n1, .slice p1 l1 c1, .bool n2, .slice p2 l2 c2] 35))).alloc (Nat.le_refl _) (.cells #[.bool false, .slice none 0 0, .bool false, .slice none 0 0] 33)
      have t0 := (hB.cell (p := ⟨gr, j * 4, none⟩) hgr).trans t0
      have t1 := (hB.cell (p := ⟨gr, j * 4 + 1, none⟩) hgr).trans t1
      have t2 := (hB.cell (p := ⟨gr, j * 4 + 2, none⟩) hgr).trans t2
      have t3 := (hB.cell (p := ⟨gr, j * 4 + 3, none⟩) hgr).trans t3
      have h1 : (0 : Int) ≤ j := by omega
      have h2 : (j : Int) < m := by omega
      clear hrr hrv hr hB hgr
      obtain ⟨k0, k1, k2, k3⟩ := HR0.out.cell
      obtain ⟨f0, f1, f2, f3⟩ := HR0.out.froz
      go_wp2
      have hN := B4.new (w.alloc (.cells #[.slice (some ⟨gr, 0, none⟩) m cap', .bool n1, .slice p1 l1 c1, .bool n2, .slice p2 l2 c2] 35)) (.bool q1) (.slice q2 q3 q4) (.bool q5) (.slice q6 q7 q8) 33
      simp only [World.size_alloc] at hN
      obtain ⟨e0, e1', e2', e3'⟩ := hN.cell
      refine bodyPost_ret (v := .agg #[.bool q1, .slice q2 q3 q4, .bool q5, .slice q6 q7 q8]) (by simp only [results, Tryz.results20]; simp [go_sem, e0, e1', e2', e3']) rfl ?_
      exact ⟨_, rfl, HRR.out.keep ((Below.refl _ _).alloc (Nat.le_refl _) _) (Nat.le_refl _), HAA.out.alloc HAA.out.size _⟩

end Go.Proofs.YtkhdocdddicgpaaGreatDoor

set_option linter.unusedVariables false
set_option linter.unusedSimpArgs false
namespace Go.Proofs.YtkhdocdddicgpaaGreatDoor
open Go.RowKit Go.Maps _root_.Go.Proofs.YtkhdocdddicgpaaGreatDoor.Nm

/-- What Values yields. -/
def ValsRes (l : List ByteArray) (w : World) (e : Ending) (w' : World) : Prop :=
  Below w.heap.size w w' ∧ ((l.any noNum = true ∧ e = .returned (.tuple #[.slice none 0 0, .bool false])) ∨ ∃ vs v cs, l = valsQ vs ∧ (∀ x ∈ vs, rshort x = true) ∧ e = .returned (.tuple #[v, .bool true]) ∧ RowQ w.heap.size w' v vs cs)

set_option maxRecDepth 100000 in
set_option maxHeartbeats 6400000 in
theorem rVals_any (ad : Option Addr) (n cap : Nat) (l : List ByteArray) (w : World) (h : SsAt w (.slice ad n cap) l) (hl : ∀ s ∈ l, s.size ≤ 100000) (hn : n ≤ 1000) :
    Calls Tryz.prog 23 #[.slice ad n cap] w (ValsRes l w) := by
  have hnl : n = l.length := by obtain ⟨_, _, _, e1, e2, _⟩ := h; cases e1; exact e2
  have HNL := Lib.hid (And.intro trivial hnl)
  have HV := Lib.hid h
  have HL := Lib.hid hl
  clear h hl hnl
  go_enter Tryz.func23, Tryz.ntmps23
  go_wp2
  go_loopw [4, 5] (fun x i wr => ∃ (k : Nat) (v : Value) (vs : List Rat) (cs : List C4), k ≤ n ∧ v = x ∧ i = .int .i64 k ∧ Hid (l.take k = valsQ vs ∧ ∀ x ∈ vs, rshort x = true) ∧ Hid (RowQ w.heap.size wr v vs cs) ∧ Hid (Below w.heap.size w wr)) (fun _ i _ => n - (intOf i).toNat)
  case atStart => exact ⟨0, .slice none 0 0, [], [], Nat.zero_le _, rfl, rfl, Lib.hid ⟨rfl, by simp⟩, Lib.hid (RowQ.nil _ _), Lib.hid (Below.refl _ _)⟩
  case round =>
    obtain ⟨k, v, vs, cs, hk, rfl, rfl, HK, HQ, HW⟩ := hrel
    by_cases hlt : k < n
    · have hkl : k < l.length := by rw [← HNL.out.2]; exact hlt
      obtain ⟨ad', n', cap', e1, e2, hv⟩ := HV.out.keep HW.out (Nat.le_refl _)
      cases e1
      clear e2
      obtain ⟨g, off, rfl, hg, hcc⟩ : ∃ g off, ad = some ⟨g, off, none⟩ ∧ g < wr.heap.size ∧ ∀ (i : Nat) (h : i < l.length), wr.cell? ⟨g, off + i, none⟩ = some (.string l[i]) := by
        rcases hv with h | h
        · omega
        · exact h
      have hcell := hcc k hkl
      obtain ⟨y, hy⟩ : ∃ y, l[k] = y := ⟨_, rfl⟩
      rw [hy] at hcell
      have HY := Lib.hid hy
      obtain ⟨oy, hoy⟩ : ∃ oy, rval y.data.toList = oy := ⟨_, rfl⟩
      have HOY := Lib.hid hoy
      have hys : y.size ≤ 100000 := by rw [← hy]; exact HL.out _ (List.getElem_mem hkl)
      have h1 : (0 : Int) ≤ k := by omega
      have h2 : (k : Int) < n := by omega
      clear hv hcc hy hoy hg
      go_wp2_with fail
      refine (rrRead_any y oy _ HOY hys).mono ?_
      rintro e w2 ⟨m1, b1, j1, d1, m2, b2, j2, d2, rfl, hq, hb⟩
      have hA := (Below.refl w2.heap.size w2).alloc (Nat.le_refl _) (.cells #[.bool m1, .slice b1 j1 d1, .bool m2, .slice b2 j2 d2] 33)
      have HW2 := Lib.hid (HW.out.trans ((hb.trans (hA.mono hb.size)).mono HW.out.size))
      cases oy with
      | none =>
        rw [show (none : Option Rat).isSome = false from rfl]
        have HBAD : Hid (l.any noNum = true) := Lib.hid (List.any_eq_true.2 ⟨y, by rw [← HY.out]; exact List.getElem_mem hkl, by unfold noNum; rw [HOY.out]; rfl⟩)
        clear hq hb hA hcell
        go_wp2
        go_ret2
        exact ⟨HW2.out, .inl ⟨HBAD.out, rfl⟩⟩
      | some qy =>
        rw [show (some qy : Option Rat).isSome = true from rfl]
        have hr2 := hq qy rfl
        have hys2 : rshort qy = true := (RIs.of HOY.out).2
        have hyt : y = txt qy := (RIs.of HOY.out).1
        have hA2 := hA.alloc (by simp) (.cells #[.bool m1, .slice b1 j1 d1, .bool m2, .slice b2 j2 d2] 33)
        have hAll : Below wr.heap.size wr _ := hb.trans (hA2.mono hb.size)
        have HQ3 := Lib.hid (HQ.out.keep hAll)
        have HR3 := Lib.hid (show RRef _ (agg4 (.bool m1, .slice b1 j1 d1, .bool m2, .slice b2 j2 d2)) qy from hr2.keep hA2 (Nat.le_refl _))
        have HW3 := Lib.hid (HW.out.trans (hAll.mono HW.out.size))
        have hvl : vs.length = k := by
          have h := congrArg List.length HK.out.1
          rw [List.length_take, valsQ, List.length_map] at h
          omega
        have HVL := Lib.hid hvl
        have hnw := four_new (w2.alloc (.cells #[.bool m1, .slice b1 j1 d1, .bool m2, .slice b2 j2 d2] 33)) (.bool m1) (.slice b1 j1 d1) (.bool m2) (.slice b2 j2 d2) 33
        simp only [World.size_alloc] at hnw
        have HNW := Lib.hid hnw
        have HK2 : Hid (l.take (k + 1) = valsQ (vs ++ [qy]) ∧ ∀ x ∈ vs ++ [qy], rshort x = true) := Lib.hid ⟨by
          rw [List.take_succ_eq_append_getElem hkl, HK.out.1, HY.out, hyt]; simp [valsQ], fun x hx => by
          rcases List.mem_append.1 hx with hx | hx
          · exact HK.out.2 x hx
          · rw [List.mem_singleton.1 hx]; exact hys2⟩
        obtain ⟨i0, hi, hz0, hz1, hz2⟩ := info_parts infoRat
        have HI := Lib.hid (And.intro hi (And.intro hz0 (And.intro hz1 hz2)))
        obtain ⟨c0, c1, c2, c3⟩ := (B4.new w2 (.bool m1) (.slice b1 j1 d1) (.bool m2) (.slice b2 j2 d2) 33).cell
        have hbase : w.heap.size ≤ w2.heap.size := Nat.le_trans HW.out.size hb.size
        clear hq hb hA hA2 hAll hr2 hyt hcell hvl hnw hi hz0 hz1 hz2
        go_wp2_with (first | (at_builtin; refine wpList_append_p _ NI rfl _ _ 28 rfl w.heap.size 33 i0 (.agg #[.bool false, .slice none 0 0, .bool false, .slice none 0 0]) 4 64 Tryz.underlying28 HI.out.1 HI.out.2.1 HI.out.2.2.1 HI.out.2.2.2 rfl (by decide) v vs.length (flat4 cs) rfl HQ3.out.own _ 1 1 (cells4 (.bool m1, .slice b1 j1 d1, .bool m2, .slice b2 j2 d2)) rfl rfl HNW.out (by simp [cells4, Value.oneCell']) (by decide) (by have := HVL.out; unfold maxLen; omega) (by have := HVL.out; omega) (by simp; omega) HQ3.out.ni HQ3.out.niAll HR3.out.ni (by simp [Value.cells, NI]) ?_; intro g2 cap2 w4 hown hgrow hrp; refine hold ?_))
        have hq4 := HQ3.out.push HR3.out hown hgrow hrp
        have hW4 := HW3.out.grown hgrow HW3.out.size (fun j e => (HQ3.out.own.lt j e).1)
        have HQ4 := Lib.hid hq4
        have HW4 := Lib.hid hW4
        clear hq4 hW4 hown hgrow hrp c0 c1 c2 c3
        refine go_on ?_
        go_wp2
        go_roundw
        case rel => exact ⟨k + 1, _, vs ++ [qy], cs ++ [(.bool m1, .slice b1 j1 d1, .bool m2, .slice b2 j2 d2)], by omega, rfl, by go_num, HK2, HQ4, HW4⟩
        case measure => simp [intOf]; omega
    · obtain rfl : n = k := by omega
      have hfull : l = valsQ vs := by
        have h := HK.out.1
        rwa [List.take_of_length_le (by rw [← HNL.out.2]; exact Nat.le_refl _)] at h
      have HFULL := Lib.hid hfull
      have hnn : ¬ (n : Int) < n := by omega
      clear hfull
      go_wp2
      go_ret2
      exact ⟨HW.out, .inr ⟨vs, v, cs, HFULL.out, HK.out.2, rfl, HQ.out⟩⟩

end Go.Proofs.YtkhdocdddicgpaaGreatDoor

set_option linter.unusedVariables false
set_option linter.unusedSimpArgs false
namespace Go.Proofs.YtkhdocdddicgpaaGreatDoor
open Go.RowKit Go.Maps _root_.Go.Proofs.YtkhdocdddicgpaaGreatDoor.Nm

theorem evalQ_append : ∀ (a b : List Qm) (t : Rat) (v : Int → Rat), evalQ t (a ++ b) v = (evalQ t a v).bind fun t' => evalQ t' b v
  | [], b, t, v => rfl
  | p :: a, b, t, v => by
    by_cases h : (rshort (p.2 * v p.1) && rshort (t + p.2 * v p.1)) = true
    · rw [show evalQ t (p :: a ++ b) v = evalQ (t + p.2 * v p.1) (a ++ b) v from if_pos h, show evalQ t (p :: a) v = evalQ (t + p.2 * v p.1) a v from if_pos h]
      exact evalQ_append a b _ v
    · rw [show evalQ t (p :: a ++ b) v = none from if_neg h, show evalQ t (p :: a) v = none from if_neg h]
      rfl
/-- The terms of the columns below n. -/
def formUp (f : Int → Rat) (n : Nat) : List Qm := ((List.range n).filter fun (c : Nat) => decide (f (c : Int) ≠ 0)).map fun (c : Nat) => ((c : Int), f c)
theorem formUp_skip {f : Int → Rat} {n : Nat} (h : f (n : Int) = 0) : formUp f (n + 1) = formUp f n := by
  unfold formUp
  rw [List.range_succ, List.filter_append, List.filter_cons, if_neg (by simp [h])]
  simp
theorem formUp_add {f : Int → Rat} {n : Nat} (h : f (n : Int) ≠ 0) : formUp f (n + 1) = formUp f n ++ [((n : Int), f n)] := by
  unfold formUp
  rw [List.range_succ, List.filter_append, List.filter_cons, if_pos (by simp [h])]
  simp
theorem co_beyond {q : List Qm} (hq : ∀ p ∈ q, 0 ≤ p.1) {c : Nat} (h : colsOf q ≤ c) : co q (c : Int) = 0 := by
  refine co_none q _ fun p hp e => ?_
  have h1 := colsUp_mem q 0 p hp
  have h2 := hq p hp
  unfold colsOf at h
  omega
theorem formUp_beyond {q : List Qm} (hq : ∀ p ∈ q, 0 ≤ p.1) : ∀ d : Nat, formUp (co q) (colsOf q + d) = formUp (co q) (colsOf q)
  | 0 => rfl
  | d + 1 => by
    rw [← Nat.add_assoc, formUp_skip (co_beyond hq (Nat.le_add_right _ _)), formUp_beyond hq d]
theorem formUp_all {q : List Qm} (h : Fo q) : formUp (co q) (colsOf q) = q := by
  have hq : ∀ p ∈ q, 0 ≤ p.1 := fun p hp => (h.1 p hp).1.1
  have hb : colsOf q ≤ 2048 := colsUp_bound q 0 (by omega) (fun p hp => (h.1 p hp).1)
  have h1 := formUp_beyond hq (2048 - colsOf q)
  rw [show colsOf q + (2048 - colsOf q) = 2048 from by omega] at h1
  rw [← h1]
  exact h.same
/-- One column more. -/
theorem evalUp_skip {f v : Int → Rat} {qc : Rat} {n : Nat} (h : f (n : Int) = 0) : evalQ qc (formUp f (n + 1)) v = evalQ qc (formUp f n) v := by rw [formUp_skip h]
theorem evalUp_add {f v : Int → Rat} {qc t : Rat} {n : Nat} (h : f (n : Int) ≠ 0) (ht : evalQ qc (formUp f n) v = some t) :
    evalQ qc (formUp f (n + 1)) v = if (rshort (f n * v n) && rshort (t + f n * v n)) = true then some (t + f n * v n) else none := by
  rw [formUp_add h, evalQ_append, ht]
  rfl
/-- A stop is a stop for the whole. -/
theorem evalUp_none {f v : Int → Rat} {qc : Rat} : ∀ {n : Nat} (d : Nat), evalQ qc (formUp f n) v = none → evalQ qc (formUp f (n + d)) v = none
  | n, 0, h => h
  | n, d + 1, h => by
    have ih := evalUp_none d h
    rw [← Nat.add_assoc]
    by_cases hz : f ((n + d : Nat) : Int) = 0
    · rw [evalUp_skip hz]; exact ih
    · rw [formUp_add hz, evalQ_append, ih]; rfl
/-- The columns of a form reach beyond the values exactly if a term does. -/
theorem cols_beyond {q : List Qm} (hq : ∀ p ∈ q, 0 ≤ p.1) (n : Nat) : n < colsOf q ↔ ∃ p ∈ q, (n : Int) ≤ p.1 := by
  have key : ∀ (q : List Qm) (m : Nat), (∀ p ∈ q, 0 ≤ p.1) → (n < colsUp m q ↔ n < m ∨ ∃ p ∈ q, (n : Int) ≤ p.1) := by
    intro q
    induction q with
    | nil => intro m _; simp [colsUp]
    | cons p q ih =>
      intro m h
      have hp := h p (by simp)
      show n < colsUp (max m (p.1.toNat + 1)) q ↔ _
      rw [ih _ (fun x hx => h x (by simp [hx]))]
      constructor
      · rintro (h1 | ⟨x, hx, h2⟩)
        · by_cases hm : n < m
          · exact .inl hm
          · exact .inr ⟨p, by simp, by omega⟩
        · exact .inr ⟨x, by simp [hx], h2⟩
      · rintro (h1 | ⟨x, hx, h2⟩)
        · exact .inl (by omega)
        · rcases List.mem_cons.1 hx with rfl | hx
          · exact .inl (by omega)
          · exact .inr ⟨x, hx, h2⟩
  unfold colsOf
  rw [key q 0 hq]
  simp

end Go.Proofs.YtkhdocdddicgpaaGreatDoor
