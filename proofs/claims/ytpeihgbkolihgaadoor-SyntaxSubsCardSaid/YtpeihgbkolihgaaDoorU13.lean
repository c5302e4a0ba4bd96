/- haveForms. -/
import Derived.Test.YtpeihgbkolihgaaDoorU12F
import Derived.Test.YtpeihgbkolihgaaDoorU10
import Derived.Deep.Cut
import Derived.Deep.DeepCutAuto
set_option linter.unusedVariables false
set_option linter.unusedSimpArgs false
namespace Go.Proofs.YtpeihgbkolihgaaDoor
open Go.RowKit

namespace Sx
def leafOk (L : List LeafM) (x : LeafM) : Bool :=
  inSet 8388606 x.kind && (decide (0 ≤ x.frm) && (decide (x.frm ≤ x.to) && (decide (x.to ≤ 65536) &&
    (fitsText (form x.kind.toNat).text x.text && (kidsFit L [(form x.kind.toNat).a, (form x.kind.toNat).b, (form x.kind.toNat).c] x.kids && fitsNum (form x.kind.toNat).num L x)))))
def forms (L : List LeafM) : Bool := L.all (leafOk L)
theorem inSet_all (k : Int) (h : inSet 8388606 k = true) : 0 ≤ k ∧ k < 23 := by
  unfold inSet at h
  rw [Bool.and_eq_true, decide_eq_true_eq] at h
  obtain ⟨h0, h1⟩ := h
  refine ⟨h0, ?_⟩
  apply Classical.byContradiction
  intro hn
  obtain ⟨i, rfl⟩ := Int.eq_ofNat_of_zero_le h0
  have hm : 23 ≤ min i 64 := by
    rw [Nat.le_min]
    omega
  rw [Int.toNat_natCast] at h1
  obtain ⟨m, hm'⟩ : ∃ m, min i 64 = m := ⟨_, rfl⟩
  rw [hm'] at h1 hm
  have hp : (8388608 : Int) ≤ 2 ^ m := by
    have h2 : (2 : Nat) ^ 23 ≤ 2 ^ m := Nat.pow_le_pow_right (by decide) hm
    have h3 : ((2 ^ 23 : Nat) : Int) ≤ ((2 ^ m : Nat) : Int) := Int.ofNat_le.2 h2
    simpa using h3
  have hz : (8388606 : Int) / 2 ^ m = 0 := Int.ediv_eq_zero_of_lt (by decide) (by omega)
  rw [hz] at h1
  revert h1
  decide
end Sx

set_option maxRecDepth 100000 in
set_option maxHeartbeats 6400000 in
theorem haveForms_any (v : Value) (L : List LeafM) (root : Int) (r : Bool) (w : World) (hv : LsAt w v L) (hS : SmT L) (hin : ∀ x ∈ L, Sx.inside L x.kids) (hr : Hid (Sx.forms L = r)) :
    Calls Tryd.prog 42 #[.agg #[v, .int .i64 root]] w fun e w' => e = .returned (.bool r) ∧ Below w.heap.size w w' := by
  obtain ⟨ad, cap, rfl⟩ := hv.slice
  obtain ⟨n, hn⟩ : ∃ n, L.length = n := ⟨_, rfl⟩
  have hnb : n ≤ 100000 := by have := hS.1; omega
  rw [hn] at hv ⊢
  have HV := Lib.hid hv
  have HS := Lib.hid hS
  have HN := Lib.hid hn
  have HIN := Lib.hid hin
  have HF := Lib.hid (forms_any (w.alloc (treeO (.slice ad n cap) root)))
  unfold treeO at HF
  clear hv hS hn hin
  go_enter Tryd.func42, Tryd.ntmps42
  go_wp2_with fail
  refine HF.out.mono ?_
  rintro e w1 ⟨rfl, hb⟩
  have hA1 := ((Below.refl w.heap.size w).alloc (Nat.le_refl _) (treeO (.slice ad n cap) root)).trans (hb.mono (by simp))
  have t1 : w1.heap[w.heap.size]? = some (treeO (.slice ad n cap) root) := (hb.block _ (by simp)).trans (World.alloc_heap_new w _)
  have HA1 := Lib.hid hA1
  have HT1 := Lib.hid t1
  have hst := run_storeCells_new (P := Tryd.prog) w1 69 Tryd.zeroCells69 Sx.formTab infoForms zeroForms formTab_one
  have HST := Lib.hid hst
  clear hb hA1 t1 hst
  go_wp2_with fail
  rw [HST.out]
  simp only [Result.andThen]
  rw [Oper.upon_skip]
  have hA2 := HA1.out.alloc HA1.out.size (.cells Sx.formTab 69)
  have hW2 : Below w1.heap.size w1 (w1.alloc (.cells Sx.formTab 69)) := (Below.refl _ _).alloc (Nat.le_refl _) _
  have tb := World.alloc_heap_new w1 (.cells Sx.formTab 69)
  have tr := (hW2.block w.heap.size (lt_of HT1.out)).trans HT1.out
  have HV1 := HV.out.keep hA2 (Nat.le_refl _)
  generalize w1.alloc (.cells Sx.formTab 69) = W2 at hA2 hW2 tb tr HV1 ⊢
  generalize w1.heap.size = TB at tb ⊢
  have HA := Lib.hid hA2
  have HTB := Lib.hid tb
  have HTR := Lib.hid tr
  have HL := Lib.hid HV1
  have c0 := cell_at (i := 0) tr rfl
  have c1 := cell_at (i := 1) tr rfl
  clear hA2 hW2 tb tr HV1 HT1 HA1 HST HF HV
  go_wp2_with fail
  clear c0 c1
  go_loopw [11] (fun iv wr => ∃ c : Nat, c ≤ n ∧ iv = .int .i64 c ∧ Hid ((L.take c).all (Sx.leafOk L) = true) ∧ Hid (Below W2.heap.size W2 wr)) (fun iv _ => n - (intOf iv).toNat)
  case atStart => exact ⟨0, Nat.zero_le _, rfl, Lib.hid (by rw [List.take_zero]; rfl), Lib.hid (Below.refl _ _)⟩
  case round =>
    obtain ⟨c, hc, rfl, HC, HB⟩ := hrel
    by_cases hlt : c < n
    · have hcl : c < L.length := by rw [HN.out]; exact hlt
      obtain ⟨b, off, fa, fc, rfl, hbl, ⟨e0, e1, e2, e3, e4, e5⟩, hks⟩ := HL.out.at c hcl
      have hin := HIN.out L[c] (List.getElem_mem _)
      have hkl := (HS.out.2 L[c] (List.getElem_mem _)).2.1
      have hall : (L.take (c + 1)).all (Sx.leafOk L) = Sx.leafOk L L[c] := by rw [← List.take_append_getElem hcl, List.all_append, HC.out]; simp
      have hfr : Sx.leafOk L L[c] = false → r = false := fun h => by
        rw [← hr.out]
        unfold Sx.forms
        rw [List.all_eq_false]
        exact ⟨L[c], List.getElem_mem _, by rw [h]; simp⟩
      obtain ⟨y, hy⟩ : ∃ y, L[c] = y := ⟨_, rfl⟩
      rw [hy] at e0 e1 e2 e3 e4 e5 hks hin hkl hall hfr
      have f0 := (HB.out.cell (p := ⟨b, off + c * 6, none⟩) hbl).trans e0
      have f1 := (HB.out.cell (p := ⟨b, off + c * 6 + 1, none⟩) hbl).trans e1
      have f2 := (HB.out.cell (p := ⟨b, off + c * 6 + 2, none⟩) hbl).trans e2
      have f3 := (HB.out.cell (p := ⟨b, off + c * 6 + 3, none⟩) hbl).trans e3
      have f4 := (HB.out.cell (p := ⟨b, off + c * 6 + 4, none⟩) hbl).trans e4
      have f5 := (HB.out.cell (p := ⟨b, off + c * 6 + 5, none⟩) hbl).trans e5
      have h1 : (0 : Int) ≤ c := by omega
      have h2 : (c : Int) < n := by omega
      have HKS := Lib.hid (hks.keep HB.out (Nat.le_refl _))
      have HIY := Lib.hid hin
      have HKL := Lib.hid hkl
      have HALL := Lib.hid hall
      have HFR := Lib.hid hfr
      generalize hm : y.kids.length = m at f3 HKS
      have HM := Lib.hid hm
      clear e0 e1 e2 e3 e4 e5 hks hin hkl hall hfr hy hbl hcl hm
      go_upto_region 5 with fail
      have hB3 := (Below.refl wr.heap.size wr).alloc (Nat.le_refl _) (leafO y.kind y.text y.num (.slice fa m fc) y.frm y.to)
      have lf := World.alloc_heap_new wr (leafO y.kind y.text y.num (.slice fa m fc) y.frm y.to)
      have HB3 := Lib.hid (HB.out.trans (hB3.mono HB.out.size))
      have HK3 := Lib.hid (HKS.out.keep hB3 (Nat.le_refl _))
      unfold leafO at hB3 lf HB3 HK3
      generalize wr.alloc (.cells #[.int .i64 y.kind, .string y.text, .int .i64 y.num, .slice fa m fc, .int .i64 y.frm, .int .i64 y.to] 38) = W3 at hB3 lf HB3 HK3 ⊢
      generalize wr.heap.size = gB at lf ⊢
      have HLF := Lib.hid lf
      have l0 : W3.cell? ⟨gB, 0, none⟩ = some (.int .i64 y.kind) := cell_at lf rfl
      have l1 : W3.cell? ⟨gB, 1, none⟩ = some (.string y.text) := cell_at lf rfl
      have l2 : W3.cell? ⟨gB, 2, none⟩ = some (.int .i64 y.num) := cell_at lf rfl
      have l3 : W3.cell? ⟨gB, 3, none⟩ = some (.slice fa m fc) := cell_at lf rfl
      have l4 : W3.cell? ⟨gB, 4, none⟩ = some (.int .i64 y.frm) := cell_at lf rfl
      have l5 : W3.cell? ⟨gB, 5, none⟩ = some (.int .i64 y.to) := cell_at lf rfl
      clear hB3 lf f0 f1 f2 f3 f4 f5 HKS
      obtain ⟨AL, hAL⟩ : ∃ AL, (L.take (c + 1)).all (Sx.leafOk L) = AL := ⟨_, rfl⟩
      have hok := HALL.out
      rw [hAL] at hok
      have HAL := Lib.hid hAL
      clear hAL
      unfold Sx.leafOk at hok
      have hlk : Sx.leafOk L y = false → r = false := HFR.out
      unfold Sx.leafOk at hlk
      obtain ⟨b1, hb1⟩ : ∃ b, Sx.inSet 8388606 y.kind = b := ⟨_, rfl⟩
      have HB1 := Lib.hid hb1
      rw [hb1] at hlk hok
      cases b1 with
      | false =>
        obtain rfl : r = false := hlk rfl
        clear hlk hok hb1
        go_wp2_with fail
        refine (isIn_any 8388606 y.kind false W3 HB1).mono ?_
        rintro e w5 ⟨rfl, h⟩
        rw [h]
        clear h w5
        go_wp2
        go_ret
        exact ⟨rfl, HA.out.trans (HB3.out.mono HA.out.size)⟩
      | true =>
        have hkr := Sx.inSet_all _ hb1
        rw [Bool.true_and] at hlk hok
        clear hb1
        by_cases gfrm : 0 ≤ y.frm
        rotate_left
        · obtain rfl : r = false := hlk (by rw [decide_eq_false gfrm]; rfl)
          have kfrm : y.frm < 0 := by omega
          clear hlk hok hkr
          go_wp2_with fail
          refine (isIn_any 8388606 y.kind true W3 HB1).mono ?_
          rintro e w5 ⟨rfl, h⟩
          rw [h]
          clear h w5
          go_wp2
          go_ret
          exact ⟨rfl, HA.out.trans (HB3.out.mono HA.out.size)⟩
        rw [decide_eq_true gfrm, Bool.true_and] at hlk hok
        by_cases gfto : y.frm ≤ y.to
        rotate_left
        · obtain rfl : r = false := hlk (by rw [decide_eq_false gfto]; rfl)
          have kfto : y.to < y.frm := by omega
          have kfrm : ¬ y.frm < 0 := by omega
          clear hlk hok hkr
          go_wp2_with fail
          refine (isIn_any 8388606 y.kind true W3 HB1).mono ?_
          rintro e w5 ⟨rfl, h⟩
          rw [h]
          clear h w5
          go_wp2
          go_ret
          exact ⟨rfl, HA.out.trans (HB3.out.mono HA.out.size)⟩
        rw [decide_eq_true gfto, Bool.true_and] at hlk hok
        by_cases gmax : y.to ≤ 65536
        rotate_left
        · obtain rfl : r = false := hlk (by rw [decide_eq_false gmax]; rfl)
          have kmax : 65536 < y.to := by omega
          have kfrm : ¬ y.frm < 0 := by omega
          have kfto : ¬ y.to < y.frm := by omega
          clear hlk hok hkr
          go_wp2_with fail
          refine (isIn_any 8388606 y.kind true W3 HB1).mono ?_
          rintro e w5 ⟨rfl, h⟩
          rw [h]
          clear h w5
          go_wp2
          go_ret
          exact ⟨rfl, HA.out.trans (HB3.out.mono HA.out.size)⟩
        rw [decide_eq_true gmax, Bool.true_and] at hlk hok
        have kfrm : ¬ y.frm < 0 := by omega
        have kfto : ¬ y.to < y.frm := by omega
        have kmax : ¬ 65536 < y.to := by omega
        go_wp2_with fail
        refine (isIn_any 8388606 y.kind true W3 HB1).mono ?_
        rintro e w5 ⟨rfl, h⟩
        rw [h]
        clear h w5
        go_upto_region 7 with fail
        trace "R7"
        clear l0 l1 l2 l3 l4 l5
        obtain ⟨k, hk⟩ := Int.eq_ofNat_of_zero_le hkr.1
        have hk23 : k < 23 := by omega
        have hkn : y.kind.toNat = k := by rw [hk, Int.toNat_natCast]
        rw [hkn] at hlk hok
        obtain ⟨F, hF⟩ : ∃ F, Sx.form k = F := ⟨_, rfl⟩
        rw [hF] at hlk hok
        have htab := fun j hj => Sx.formTab_at k hk23 j hj
        rw [hF] at htab
        have tbW := (HB3.out.block TB (lt_of HTB.out)).trans HTB.out
        have m0 : W3.cell? ⟨TB, k * 12, none⟩ = some (.string F.kind) := cell_at tbW (htab 0 (by decide))
        have m1 : W3.cell? ⟨TB, k * 12 + 1, none⟩ = some (.int .i64 F.text) := cell_at tbW (htab 1 (by decide))
        have m2 : W3.cell? ⟨TB, k * 12 + 2, none⟩ = some (.int .i64 F.num) := cell_at tbW (htab 2 (by decide))
        have m3 : W3.cell? ⟨TB, k * 12 + 3, none⟩ = some (.int .i64 F.a.set) := cell_at tbW (htab 3 (by decide))
        have m4 : W3.cell? ⟨TB, k * 12 + 4, none⟩ = some (.int .i64 F.a.least) := cell_at tbW (htab 4 (by decide))
        have m5 : W3.cell? ⟨TB, k * 12 + 5, none⟩ = some (.int .i64 F.a.most) := cell_at tbW (htab 5 (by decide))
        have m6 : W3.cell? ⟨TB, k * 12 + 6, none⟩ = some (.int .i64 F.b.set) := cell_at tbW (htab 6 (by decide))
        have m7 : W3.cell? ⟨TB, k * 12 + 7, none⟩ = some (.int .i64 F.b.least) := cell_at tbW (htab 7 (by decide))
        have m8 : W3.cell? ⟨TB, k * 12 + 8, none⟩ = some (.int .i64 F.b.most) := cell_at tbW (htab 8 (by decide))
        have m9 : W3.cell? ⟨TB, k * 12 + 9, none⟩ = some (.int .i64 F.c.set) := cell_at tbW (htab 9 (by decide))
        have m10 : W3.cell? ⟨TB, k * 12 + 10, none⟩ = some (.int .i64 F.c.least) := cell_at tbW (htab 10 (by decide))
        have m11 : W3.cell? ⟨TB, k * 12 + 11, none⟩ = some (.int .i64 F.c.most) := cell_at tbW (htab 11 (by decide))
        have q0 : (0 : Int) ≤ k := by omega
        have q1 : (k : Int) < 23 := by omega
        have HLK := Lib.hid hlk
        have HOK := Lib.hid hok
        have HKK := Lib.hid (And.intro trivial hk)
        have l0k : W3.cell? ⟨gB, 0, none⟩ = some (.int .i64 (k : Int)) := by rw [← hk]; exact cell_at (i := 0) HLF.out rfl
        clear htab tbW hlk hok hkr hkn hF gfrm gfto gmax
        go_upto_region 8 with fail
        clear m0 m1 m2 m3 m4 m5 m6 m7 m8 m9 m10 m11 l0k q0 q1
        have hB4 := (Below.refl W3.heap.size W3).alloc (Nat.le_refl _) (.cells #[.string F.kind, .int .i64 F.text, .int .i64 F.num, .int .i64 F.a.set, .int .i64 F.a.least, .int .i64 F.a.most, .int .i64 F.b.set, .int .i64 F.b.least, .int .i64 F.b.most, .int .i64 F.c.set, .int .i64 F.c.least, .int .i64 F.c.most] 68)
        have fm := World.alloc_heap_new W3 (.cells #[.string F.kind, .int .i64 F.text, .int .i64 F.num, .int .i64 F.a.set, .int .i64 F.a.least, .int .i64 F.a.most, .int .i64 F.b.set, .int .i64 F.b.least, .int .i64 F.b.most, .int .i64 F.c.set, .int .i64 F.c.least, .int .i64 F.c.most] 68)
        have lf := (hB4.block gB (lt_of HLF.out)).trans HLF.out
        have hW4 := HB3.out.trans (hB4.mono HB3.out.size)
        have hk4 := HK3.out.keep hB4 (Nat.le_refl _)
        generalize W3.alloc (.cells #[.string F.kind, .int .i64 F.text, .int .i64 F.num, .int .i64 F.a.set, .int .i64 F.a.least, .int .i64 F.a.most, .int .i64 F.b.set, .int .i64 F.b.least, .int .i64 F.b.most, .int .i64 F.c.set, .int .i64 F.c.least, .int .i64 F.c.most] 68) = W4 at hB4 fm lf hW4 hk4 ⊢
        generalize W3.heap.size = fB at fm ⊢
        have tr := (hW4.block w.heap.size (lt_of HTR.out)).trans HTR.out
        have HV4 := Lib.hid (HL.out.keep hW4 (Nat.le_refl _))
        have HW4 := Lib.hid hW4
        have HFM4 := Lib.hid fm
        have HLF4 := Lib.hid lf
        have HTR4 := Lib.hid tr
        have HK4 := Lib.hid hk4
        obtain ⟨t1, ht1⟩ : ∃ t, Sx.fitsText F.text y.text = t := ⟨_, rfl⟩
        obtain ⟨t2, ht2⟩ : ∃ t, Sx.kidsFit L [F.a, F.b, F.c] y.kids = t := ⟨_, rfl⟩
        obtain ⟨t3, ht3⟩ : ∃ t, Sx.fitsNum F.num L y = t := ⟨_, rfl⟩
        have hlk := HLK.out
        have hok := HOK.out
        rw [ht1, ht2, ht3] at hlk hok
        have HT1' := Lib.hid ht1
        have HT2' := Lib.hid ht2
        have HT3' := Lib.hid ht3
        have x1 : W4.cell? ⟨fB, 1, none⟩ = some (.int .i64 F.text) := cell_at fm rfl
        have y1 : W4.cell? ⟨gB, 1, none⟩ = some (.string y.text) := cell_at lf rfl
        clear hB4 fm lf hW4 hk4 tr ht1 ht2 ht3 HLK HOK
        have HLK2 := Lib.hid hlk
        have HOK2 := Lib.hid hok
        clear hlk hok
        go_wp2_with fail
        refine (fitsText_any F.text y.text t1 W4 HT1').mono ?_
        rintro e w5 ⟨rfl, hb⟩
        clear x1 y1
        have HW5 := Lib.hid (HW4.out.trans (hb.mono HW4.out.size))
        cases t1 with
        | false =>
          obtain rfl : r = false := HLK2.out rfl
          clear hb
          go_wp2
          go_ret
          exact ⟨rfl, HA.out.trans (HW5.out.mono HA.out.size)⟩
        | true =>
          have fm := (hb.block fB (lt_of HFM4.out)).trans HFM4.out
          have lf := (hb.block gB (lt_of HLF4.out)).trans HLF4.out
          have tr := (hb.block w.heap.size (lt_of HTR4.out)).trans HTR4.out
          have HFM5 := Lib.hid fm
          have HLF5 := Lib.hid lf
          have HTR5 := Lib.hid tr
          have HV5 := Lib.hid (HV4.out.keep hb (Nat.le_refl _))
          have HK5 := Lib.hid (HK4.out.keep hb (Nat.le_refl _))
          have x3 : w5.cell? ⟨fB, 3, none⟩ = some (.int .i64 F.a.set) := cell_at fm rfl
          have x4 : w5.cell? ⟨fB, 4, none⟩ = some (.int .i64 F.a.least) := cell_at fm rfl
          have x5 : w5.cell? ⟨fB, 5, none⟩ = some (.int .i64 F.a.most) := cell_at fm rfl
          have x6 : w5.cell? ⟨fB, 6, none⟩ = some (.int .i64 F.b.set) := cell_at fm rfl
          have x7 : w5.cell? ⟨fB, 7, none⟩ = some (.int .i64 F.b.least) := cell_at fm rfl
          have x8 : w5.cell? ⟨fB, 8, none⟩ = some (.int .i64 F.b.most) := cell_at fm rfl
          have x9 : w5.cell? ⟨fB, 9, none⟩ = some (.int .i64 F.c.set) := cell_at fm rfl
          have x10 : w5.cell? ⟨fB, 10, none⟩ = some (.int .i64 F.c.least) := cell_at fm rfl
          have x11 : w5.cell? ⟨fB, 11, none⟩ = some (.int .i64 F.c.most) := cell_at fm rfl
          have y0 : w5.cell? ⟨gB, 0, none⟩ = some (.int .i64 (k : Int)) := by rw [← HKK.out.2]; exact cell_at (i := 0) lf rfl
          have y1 : w5.cell? ⟨gB, 1, none⟩ = some (.string y.text) := cell_at lf rfl
          have y2 : w5.cell? ⟨gB, 2, none⟩ = some (.int .i64 y.num) := cell_at lf rfl
          have y3 : w5.cell? ⟨gB, 3, none⟩ = some (.slice fa m fc) := cell_at lf rfl
          have y4 : w5.cell? ⟨gB, 4, none⟩ = some (.int .i64 y.frm) := cell_at lf rfl
          have y5 : w5.cell? ⟨gB, 5, none⟩ = some (.int .i64 y.to) := cell_at lf rfl
          have z0 : w5.cell? ⟨w.heap.size, 0, none⟩ = some (.slice (some ⟨b, off, none⟩) n cap) := cell_at tr rfl
          have z1 : w5.cell? ⟨w.heap.size, 1, none⟩ = some (.int .i64 root) := cell_at tr rfl
          have hfk := fitsKids_any F.a F.b F.c _ L root y _ t2 w5 HV5.out HK5.out HKL.out HIY.out HT2'
          unfold Sx.grpsV leafV at hfk
          rw [HKK.out.2] at hfk
          have HFK := Lib.hid hfk
          clear hfk
          clear hb fm lf tr
          go_wp2_with fail
          refine HFK.out.mono ?_
          rintro e w6 ⟨rfl, hb⟩
          clear x3 x4 x5 x6 x7 x8 x9 x10 x11 y0 y1 y2 y3 y4 y5 z0 z1
          have HW6 := Lib.hid (HW5.out.trans (hb.mono HW5.out.size))
          cases t2 with
          | false =>
            obtain rfl : r = false := HLK2.out rfl
            clear hb
            go_wp2
            go_ret
            exact ⟨rfl, HA.out.trans (HW6.out.mono HA.out.size)⟩
          | true =>
            have fm := (hb.block fB (lt_of HFM5.out)).trans HFM5.out
            have lf := (hb.block gB (lt_of HLF5.out)).trans HLF5.out
            have tr := (hb.block w.heap.size (lt_of HTR5.out)).trans HTR5.out
            have HV6 := HV5.out.keep hb (Nat.le_refl _)
            have HK6 := HK5.out.keep hb (Nat.le_refl _)
            have x2 : w6.cell? ⟨fB, 2, none⟩ = some (.int .i64 F.num) := cell_at fm rfl
            have y0 : w6.cell? ⟨gB, 0, none⟩ = some (.int .i64 (k : Int)) := by rw [← HKK.out.2]; exact cell_at (i := 0) lf rfl
            have y1 : w6.cell? ⟨gB, 1, none⟩ = some (.string y.text) := cell_at lf rfl
            have y2 : w6.cell? ⟨gB, 2, none⟩ = some (.int .i64 y.num) := cell_at lf rfl
            have y3 : w6.cell? ⟨gB, 3, none⟩ = some (.slice fa m fc) := cell_at lf rfl
            have y4 : w6.cell? ⟨gB, 4, none⟩ = some (.int .i64 y.frm) := cell_at lf rfl
            have y5 : w6.cell? ⟨gB, 5, none⟩ = some (.int .i64 y.to) := cell_at lf rfl
            have z0 : w6.cell? ⟨w.heap.size, 0, none⟩ = some (.slice (some ⟨b, off, none⟩) n cap) := cell_at tr rfl
            have z1 : w6.cell? ⟨w.heap.size, 1, none⟩ = some (.int .i64 root) := cell_at tr rfl
            have hfn := fitsNum_any F.num _ L root y _ t3 w6 HV6 HS.out HK6 HKL.out HIY.out HT3'
            unfold leafV at hfn
            rw [HKK.out.2] at hfn
            have HFN := Lib.hid hfn
            clear hfn
            clear hb fm lf tr HV6 HK6
            go_wp2_with fail
            refine HFN.out.mono ?_
            rintro e w7 ⟨rfl, hb⟩
            clear x2 y0 y1 y2 y3 y4 y5 z0 z1
            have HW7 := Lib.hid (HW6.out.trans (hb.mono HW6.out.size))
            clear hb
            cases t3 with
            | false =>
              obtain rfl : r = false := HLK2.out rfl
              go_wp2
              go_ret
              exact ⟨rfl, HA.out.trans (HW7.out.mono HA.out.size)⟩
            | true =>
              have HCN : Hid ((L.take (c + 1)).all (Sx.leafOk L) = true) := Lib.hid (HAL.out.trans HOK2.out)
              go_wp2
              go_roundw
              case rel => exact ⟨c + 1, by omega, by go_num, HCN, HW7⟩
              case measure => simp [intOf]; omega
    · obtain rfl : n = c := by omega
      have hnn : ¬ (n : Int) < n := by omega
      have hrt : r = true := by
        rw [← hr.out]
        have h := HC.out
        rw [List.take_of_length_le (by rw [HN.out]; exact Nat.le_refl _)] at h
        exact h
      subst hrt
      go_wp2
      go_ret
      exact ⟨rfl, HA.out.trans (HB.out.mono HA.out.size)⟩

end Go.Proofs.YtpeihgbkolihgaaDoor
