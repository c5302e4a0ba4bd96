/- What hasFiniteValues does. -/
import Derived.Test.YtphlokjhfbfogaaZB
import Derived.Laws.OwnMore
import Derived.RangeFuncBox
set_option linter.unusedVariables false
set_option linter.unusedSimpArgs false
namespace Go.Proofs.Ytphlokjhfbfogaa
open Go.RowKit Go.Shelf

/-- Where a mark is so, something holds (hidden from the walk's simp). -/
def Imp (f b : Bool) (p : Prop) : Prop := f = b → p

theorem infoBool : (Try.prog.info? 4).map (fun i => (i.zero, i.size, i.bytes)) = some (some (.bool false), 1, 1) := by kernel_rfl

set_option maxRecDepth 100000 in
set_option maxHeartbeats 1600000 in
theorem indexB_any (g n : Nat) (m : List Bool) (w : World) (hm : MarksAt w g m) (hn : m.length = n) (hn2 : n ≤ 100000) :
    Calls Try.prog 54 #[.slice (some ⟨g, 0, none⟩) n n, .bool false] w fun e w' => e = .returned (.int .i64 (Dt.fidx (fun x => !x) m)) ∧ w' = w := by
  have HM := Lib.hid hm
  have HN := Lib.hid hn
  clear hm hn
  go_enter Try.func54, Try.ntmps54
  go_wp2
  go_loop [8] (fun i => ∃ k : Nat, k ≤ n ∧ i = .int .i64 k ∧ Hid (∀ j (h : j < k) (h2 : j < m.length), (!m[j]'h2) = false)) (fun i => n - (intOf i).toNat)
  case atStart => exact ⟨0, Nat.zero_le _, rfl, Lib.hid (fun j h => absurd h (Nat.not_lt_zero _))⟩
  case round =>
    obtain ⟨k, hk, rfl, A⟩ := hrel
    by_cases hlt : k < n
    · have hltz : (k : Int) < (n : Int) := by omega
      have hkm : k < m.length := by rw [HN.out]; exact hlt
      have c0 := HM.out.cell k hkm
      rw [List.getD_eq_getElem?_getD, List.getElem?_eq_getElem hkm, Option.getD_some] at c0
      obtain ⟨q, hq⟩ : ∃ q, m[k] = q := ⟨_, rfl⟩
      rw [hq] at c0
      have HQ := Lib.hid hq
      clear hq
      cases q with
      | false =>
        go_wp2
        go_ret
        exact ⟨by rw [Dt.fidx_hit (fun x => !x) m k hkm (by rw [HQ.out]; rfl) (fun j h => A.out j h _)] <;> rfl, rfl⟩
      | true =>
        go_wp2
        go_round
        case rel =>
          refine ⟨k + 1, by omega, by go_num, Lib.hid (fun j h h2 => ?_)⟩
          by_cases e : j = k
          · subst e; rw [HQ.out]; rfl
          · exact A.out j (by omega) h2
        case measure => simp [intOf]; omega
    · obtain rfl : n = k := by omega
      have hnn : ¬ (n : Int) < n := by omega
      go_wp2
      go_ret
      exact ⟨by rw [Dt.fidx_miss (fun x => !x) m (fun j h => A.out j (by rw [← HN.out]; exact h) h)] <;> rfl, rfl⟩

set_option maxRecDepth 100000 in
set_option maxHeartbeats 1600000 in
theorem containsB_any (g n : Nat) (m : List Bool) (r : Bool) (w : World) (hm : MarksAt w g m) (hn : m.length = n) (hn2 : n ≤ 100000) (hr : Hid (m.any (fun x => !x) = r)) :
    Calls Try.prog 46 #[.slice (some ⟨g, 0, none⟩) n n, .bool false] w fun e w' => e = .returned (.bool r) ∧ w' = w := by
  obtain ⟨i, hi⟩ : ∃ i, Dt.fidx (fun x => !x) m = i := ⟨_, rfl⟩
  have h := indexB_any g n m w hm hn hn2
  rw [hi] at h
  have hd : decide (0 ≤ i) = r := by rw [← hi, Dt.fidx_any, hr.out]
  have HC := Lib.hid h
  clear h hm hi hr
  go_enter Try.func46, Try.ntmps46
  go_wp2_with fail
  refine HC.out.mono ?_
  rintro e w1 ⟨rfl, rfl⟩
  go_wp2
  go_ret
  exact ⟨by rw [← hd] <;> rfl, rfl⟩

theorem allFin_of {d : List DataM} {m : List Bool} (hs : Dt.Sound d m) (h0 : m.getD 0 false = true) (hc : ∀ i, i < d.length → Dt.ClosedAt d m i) : (!m.any (fun x => !x)) = true ↔ AllFin d := by
  constructor
  · intro h i hi
    have h1 : m.getD (i + 1) false = true := by
      rw [List.getD_eq_getElem?_getD, List.getElem?_eq_getElem (by rw [hs.1]; omega), Option.getD_some]
      have h2 : false ∉ m := by simpa using h
      cases hb : m[i + 1]'(by rw [hs.1]; omega) with
      | true => rfl
      | false => exact absurd (hb ▸ List.getElem_mem _) h2
    exact hs.2 (i + 1) h1
  · intro h
    have h2 : false ∉ m := by
      intro hx
      obtain ⟨j, hj, e⟩ := List.getElem_of_mem hx
      rcases j with _ | j
      · rw [List.getD_eq_getElem?_getD, List.getElem?_eq_getElem hj, Option.getD_some, e] at h0
        cases h0
      · have h1 := Dt.closed_fin h0 hc (h j (by rw [hs.1] at hj; omega))
        rw [Dt.mk, show ((j : Int) + 1).toNat = j + 1 by omega, List.getD_eq_getElem?_getD, List.getElem?_eq_getElem hj, Option.getD_some, e] at h1
        cases h1
    simpa using h2

theorem sound_start (d : List DataM) : Dt.Sound d ((List.replicate (d.length + 1) false).set 0 true) := by
  refine ⟨by simp, fun t ht => ?_⟩
  rcases t with _ | t
  · exact HasFin.int
  · rw [List.replicate_succ, List.set_cons_zero, List.getD_cons_succ] at ht
    rw [List.getD_eq_getElem?_getD, List.getElem?_replicate] at ht
    split at ht <;> simp at ht

theorem madeBool (n : Nat) : (madeCells (Value.bool false).cells (n * 1)).toList = (List.replicate n false).map Value.bool := by
  rw [Nat.mul_one]
  exact (toList_madeCells_one (.bool false) n).trans (by simp)

theorem lt_succ_cast {k n K1 N1 : Nat} (h : k < n) (h1 : k + 1 = K1) (h2 : n + 1 = N1) : (K1 : Int) < (N1 : Int) := by omega
theorem wrap_succ (k : Nat) (h : k ≤ 1000) : IntKind.i64.wrap ((k : Int) + 1) = ((k + 1 : Nat) : Int) := by rw [IntWalk.i64_in _ (by omega)]; omega
theorem wrap_succ2 (k : Nat) (h : k ≤ 1000) : wrap64 ((k : Int) + 1) = ((k + 1 : Nat) : Int) := by rw [IntWalk.wrap64_in _ (by omega)]; omega

set_option maxRecDepth 100000 in
set_option maxHeartbeats 12800000 in
theorem hasFinite_any (v : Value) (d : List DataM) (r : Bool) (w : World) (hv : DsAt w v d) (hd : Sm d) (hty : Dt.typed d = true) (hr : Hid (r = true ↔ AllFin d)) :
    Calls Try.prog 18 #[v] w fun e w' => e = .returned (.bool r) ∧ Below w.heap.size w w' := by
  obtain ⟨ad, cap, rfl⟩ := hv.slice
  have hl := hd.1
  have hok : ∀ x ∈ d, ∀ c ∈ x.cons, ∀ f ∈ c.fields, Dt.ok d f = true := by
    simp [Dt.typed, Dt.offD, Dt.offC, Dt.offT] at hty
    exact hty
  have HSS := Lib.hid (sound_start d)
  have HF0 : Hid (((List.replicate (d.length + 1) false).set 0 true).getD 0 false = true) := Lib.hid (by simp [List.replicate_succ])
  have HFL : Hid (Dt.falses ((List.replicate (d.length + 1) false).set 0 true) ≤ d.length) := Lib.hid (by
    rw [List.replicate_succ, List.set_cons_zero]
    simp [Dt.falses])
  obtain ⟨n, hln⟩ : ∃ n, d.length = n := ⟨_, rfl⟩
  rw [hln] at hv hl HSS HF0 HFL ⊢
  have HL := Lib.hid hln
  have HV := Lib.hid hv
  have HD := Lib.hid hd
  have HOK := Lib.hid hok
  obtain ⟨i0, hi, hz0, hz1, hz2⟩ := info_parts infoBool
  have HI := Lib.hid hi
  have HZ0 := Lib.hid hz0
  have HZ1 := Lib.hid hz1
  have HZ2 := Lib.hid hz2
  clear hv hd hln hok hty hi hz0 hz1 hz2
  have hwn : IntKind.i64.wrap ((n : Int) + 1) = ((n + 1 : Nat) : Int) := by rw [IntWalk.i64_in _ (by omega)]; omega
  go_enter Try.func18, Try.ntmps18
  go_wp2_with (refine wpList_make_full _ rfl (.tmp 10) (.tmp 10) 62 rfl w.heap.size 4 i0 (.bool false) 1 Try.underlying62 HI.out HZ0.out HZ1.out .i64 .i64 _ _ (n + 1) rfl rfl (by simp) (by simp) (by rw [HZ2.out]; omega) (by unfold maxLen; omega) (Nat.le_refl _) ?_; intro w1 hown hgrow; refine hold ?_)
  rw [madeBool] at hown
  have hm1 := marks_of_row hown
  have hb1 := (Below.refl w.heap.size w).grown hgrow (Nat.le_refl _) (fun k e => by cases e)
  have hne := hm1.lt
  have hc0 := hm1.cell 0 (by simp)
  have hf0 := hm1.frozen 0
  rw [show (List.replicate (n + 1) false).getD 0 false = false from by rw [List.replicate_succ]; rfl] at hc0
  have HM1 := Lib.hid hm1
  have HB1 := Lib.hid hb1
  clear hown hgrow hm1 hb1
  have hne2 : w.heap.size ≠ w1.heap.size := by omega
  refine go_on ?_
  go_wp2
  have hm2 := HM1.out.set 0 (by simp)
  have hsz1 : (w1.setCell ⟨w.heap.size, 0, none⟩ (.bool true)).heap.size = w1.heap.size := by simp [World.setCell]
  have HM2 := Lib.hid (hm2.keep (Below.heap_alloc (w1.setCell ⟨w.heap.size, 0, none⟩ (.bool true)) (.cells #[.slice (some ⟨w.heap.size, 0, none⟩) (n + 1) (n + 1)] 62) _ hm2.lt))
  have HB2 := Lib.hid ((HB1.out.setCell (p := ⟨w.heap.size, 0, none⟩) (Nat.le_refl _) (.bool true)).alloc (by rw [hsz1]; exact HB1.out.size) (.cells #[.slice (some ⟨w.heap.size, 0, none⟩) (n + 1) (n + 1)] 62))
  have HC2 := Lib.hid (World.alloc_heap_new (w1.setCell ⟨w.heap.size, 0, none⟩ (.bool true)) (.cells #[.slice (some ⟨w.heap.size, 0, none⟩) (n + 1) (n + 1)] 62))
  rw [hsz1] at HC2
  generalize hW2 : (w1.setCell ⟨w.heap.size, 0, none⟩ (.bool true)).alloc (.cells #[.slice (some ⟨w.heap.size, 0, none⟩) (n + 1) (n + 1)] 62) = w2 at HM2 HB2 HC2 ⊢
  clear hm2 hsz1
  clear hW2 hne2 hc0 hf0 HM1 HB1 HI HZ0 HZ1 HZ2 hwn
  obtain ⟨B, hB⟩ : ∃ B, w1.heap.size = B := ⟨_, rfl⟩
  rw [hB] at HC2 hne ⊢
  clear hB w1
  generalize hm0 : (List.replicate (n + 1) false).set 0 true = m0 at HM2 HSS HF0 HFL
  clear hm0
  obtain ⟨N1, hN1⟩ : ∃ N1, n + 1 = N1 := ⟨_, rfl⟩
  rw [hN1] at HC2 ⊢
  have HN1 := Lib.hid hN1
  clear hN1
  go_loopg [5] (2 * n + 1) (fun gg f5 wr => ∃ (m : List Bool) (f : Bool), f5 = .bool f ∧ Dt.falses m * 2 + (if f then 1 else 0) ≤ gg ∧ Hid (MarksAt wr w.heap.size m) ∧ Hid (Dt.Sound d m) ∧ Hid (m.getD 0 false = true) ∧ Hid (Imp f false (∀ i, i < n → Dt.ClosedAt d m i)) ∧ Hid (Below w.heap.size w wr) ∧ Hid (wr.heap[B]? = some (.cells #[.slice (some ⟨w.heap.size, 0, none⟩) N1 N1] 62 (0, 0))))
  case atStart => exact ⟨m0, true, rfl, by have := HFL.out; simp; omega, HM2, HSS, HF0, Lib.hid (fun h => by cases h), HB2, HC2⟩
  case round =>
    obtain ⟨m, f, rfl, hmu, HM, HS, H0, HCl, HW, HX⟩ := hrel
    have hbx : Boxed wr B 62 (.slice (some ⟨w.heap.size, 0, none⟩) N1 N1) := HX.out
    have hlen : m.length = N1 := by rw [HS.out.1, HL.out, HN1.out]
    cases f with
    | false =>
      have hcell := hbx.cell
      obtain ⟨q, hq⟩ : ∃ q, m.any (fun x => !x) = q := ⟨_, rfl⟩
      have HFI := Lib.hid (allFin_of HS.out H0.out (fun i hi => HCl.out rfl i (by rw [← HL.out]; exact hi)))
      have HQ := Lib.hid hq
      have HLN := Lib.hid hlen
      clear hq hbx hlen hmu
      go_wp2_with fail
      refine (containsB_any w.heap.size N1 m q wr HM.out HLN.out (by have := HN1.out; omega) HQ).mono ?_
      rintro e w' ⟨rfl, rfl⟩
      obtain rfl : r = !q := by
        have h1 := hr.out
        have h2 := HFI.out
        rw [HQ.out] at h2
        cases r <;> cases q <;> simp_all
      go_wp2
      go_ret
      exact ⟨rfl, HW.out⟩
    | true =>
      have HLN := Lib.hid hlen
      obtain ⟨g', rfl⟩ : ∃ g', gk = g' + 1 := ⟨gk - 1, by simp at hmu; omega⟩
      have hmu2 : Dt.falses m * 2 ≤ g' := by simp at hmu; omega
      have HMU := Lib.hid hmu2
      clear hmu hmu2 hbx hlen HCl
      go_wp2
      go_loopw [5, 18] (fun f5 i wx => ∃ (k : Nat) (m' : List Bool) (f : Bool), k ≤ n ∧ i = .int .i64 k ∧ f5 = .bool f ∧ Hid (MarksAt wx w.heap.size m') ∧ Hid (Dt.Sound d m') ∧ Hid (m'.getD 0 false = true) ∧ Hid (Imp f false (m' = m ∧ ∀ i, i < k → Dt.ClosedAt d m i)) ∧ Hid (Imp f true (Dt.falses m' < Dt.falses m)) ∧ Hid (Below w.heap.size w wx) ∧ Hid (wx.heap[B]? = some (.cells #[.slice (some ⟨w.heap.size, 0, none⟩) N1 N1] 62 (0, 0)))) (fun _ i _ => n - (intOf i).toNat)
      case atStart => exact ⟨0, m, false, Nat.zero_le _, rfl, rfl, HM, HS, H0, (Lib.hid (fun _ => ⟨rfl, fun i hi => absurd hi (Nat.not_lt_zero _)⟩) : Hid (Imp false false (m = m ∧ ∀ i, i < 0 → Dt.ClosedAt d m i))), Lib.hid (fun h => by cases h), HW, HX⟩
      case round =>
        obtain ⟨k, m', f', hk, rfl, rfl, HM', HS', H0', HCl', HD', HW', HX'⟩ := hrel
        have hlen' : m'.length = N1 := by rw [HS'.out.1, HL.out, HN1.out]
        by_cases hlt : k < n
        · have hltz : (k : Int) < (n : Int) := by omega
          have hkd : k < d.length := by rw [HL.out]; exact hlt
          obtain ⟨b, off, fa, fc, rfl, hb, c0, c1, hcs⟩ := HV.out.at k hkd
          obtain ⟨y, hy⟩ : ∃ y, d[k] = y := ⟨_, rfl⟩
          rw [hy] at c0 c1 hcs
          have hyd : y ∈ d := by rw [← hy]; exact List.getElem_mem hkd
          have HY := Lib.hid hy
          have hys := HD.out.2 y hyd
          have hyok := HOK.out y hyd
          have d0 := (HW'.out.cell (p := ⟨b, off + k * 2, none⟩) hb).trans c0
          have d1 := (HW'.out.cell (p := ⟨b, off + k * 2 + 1, none⟩) hb).trans c1
          have hbx' : Boxed wr B 62 (.slice (some ⟨w.heap.size, 0, none⟩) N1 N1) := HX'.out
          have hA : ∀ T, Below w.heap.size w (wr.alloc (.cells #[.string y.name, .slice fa y.cons.length fc] T)) := fun T => HW'.out.alloc HW'.out.size _
          have hx1 := hbx'.alloc (.cells #[.string y.name, .slice fa y.cons.length fc] 37)
          have hm1' := HM'.out.keep (Below.heap_alloc wr (.cells #[.string y.name, .slice fa y.cons.length fc] 37) _ HM'.out.lt)
          obtain ⟨q, hq⟩ : ∃ q, y.cons.any (Dt.finC m') = q := ⟨_, rfl⟩
          have HC := Lib.hid (containsC 44 #[.pointer (some ⟨B, 0, none⟩)] (Dt.finC m') (.slice fa y.cons.length fc) y.cons q (wr.alloc (.cells #[.string y.name, .slice fa y.cons.length fc] 37)) eFin1 (fin1_pred y.cons hys.2.2 B w.heap.size N1 m' _ hx1.lt hx1.cell hm1' hlen' (fun c hc t ht => by
            have := hyok c hc t ht
            rw [ok_iff, HL.out] at this
            have h1 := HN1.out
            omega)) (hcs.keep (hA _) (Nat.le_refl _)) (by have := hys.2.1; omega) (Lib.hid hq))
          have cM := hm1'.cell (k + 1) (by have := HN1.out; omega)
          have hcB := hx1.cell
          have HA := Lib.hid (hA 37)
          have HX1 := Lib.hid hx1
          have HM1' := Lib.hid hm1'
          have HLN' := Lib.hid hlen'
          have HQ := Lib.hid hq
          have HYOK := Lib.hid hyok
          obtain ⟨mk1, hmk1⟩ : ∃ mk1, m'.getD (k + 1) false = mk1 := ⟨_, rfl⟩
          rw [hmk1] at cM
          have HMK := Lib.hid hmk1
          obtain ⟨nm, hnm⟩ : ∃ nm, y.name = nm := ⟨_, rfl⟩
          rw [hnm] at d0 cM hcB HC HA HX1 HM1'
          obtain ⟨cl, hcl⟩ : ∃ cl, y.cons.length = cl := ⟨_, rfl⟩
          rw [hcl] at d1 cM hcB HC HA HX1 HM1'
          obtain ⟨K1, hK1⟩ : ∃ K1, k + 1 = K1 := ⟨_, rfl⟩
          have hwk : IntKind.i64.wrap ((k : Int) + 1) = (K1 : Int) := by rw [← hK1]; exact wrap_succ k (by omega)
          have hwk2 : wrap64 ((k : Int) + 1) = (K1 : Int) := by rw [← hK1]; exact wrap_succ2 k (by omega)
          have hkn1 : (K1 : Int) < (N1 : Int) := lt_succ_cast hlt hK1 HN1.out
          rw [hK1] at cM
          have HK1 := Lib.hid hK1
          clear hK1
          have hBne : w.heap.size ≠ wr.heap.size := by have := HM'.out.lt; omega
          have hBne2 : B ≠ wr.heap.size := by have := hbx'.lt; omega
          clear hy hys hyok hyd c0 c1 hcs hbx' hA hx1 hm1' hq hmk1 hnm hcl hlen'
          cases mk1 with
          | true =>
            go_wp2
            go_roundw
            case rel =>
              have hK := HK1.out
              refine ⟨K1, m', f', by omega, by first | rfl | exact congrArg (Value.int .i64) hwk | exact congrArg (Value.int .i64) hwk2, rfl, HM1', HS', H0', Lib.hid (fun e => ⟨(HCl'.out e).1, fun i hi => ?_⟩), HD', HA, HX1⟩
              by_cases hik : i = k
              · subst hik
                intro h _
                rw [← (HCl'.out e).1]
                exact HMK.out
              · exact (HCl'.out e).2 i (by omega)
            case measure => have hK := HK1.out; simp [intOf]; omega
          | false =>
            go_wp2_with fail
            refine HC.out.mono ?_
            rintro e w4 ⟨rfl, hb4⟩
            have HM4 := Lib.hid (HM1'.out.keep (hb4.block _ HM1'.out.lt))
            have HX4 : Hid (Boxed w4 B 62 (.slice (some ⟨w.heap.size, 0, none⟩) N1 N1)) := Lib.hid ((hb4.block _ HX1.out.lt).trans HX1.out)
            have HW4 := Lib.hid (HA.out.trans (hb4.mono HA.out.size))
            clear hb4 d0 d1 hcB cM HC
            cases q with
            | false =>
              go_wp2
              go_roundw
              case rel =>
                have hK := HK1.out
                refine ⟨K1, m', f', by omega, by first | rfl | exact congrArg (Value.int .i64) hwk | exact congrArg (Value.int .i64) hwk2, rfl, HM4, HS', H0', Lib.hid (fun e => ⟨(HCl'.out e).1, fun i hi => ?_⟩), HD', HW4, HX4⟩
                by_cases hik : i = k
                · subst hik
                  intro h h2
                  rw [HY.out, ← (HCl'.out e).1, HQ.out] at h2
                  cases h2
                · exact (HCl'.out e).2 i (by omega)
              case measure => have hK := HK1.out; simp [intOf]; omega
            | true =>
              have hcB4 := HX4.out.cell
              have hcM4 := HM4.out.cell K1 (by have h1 := HLN'.out; have h2 := HN1.out; have h3 := HK1.out; omega)
              have hfM4 := HM4.out.frozen K1
              have HM5 := Lib.hid (HM4.out.set K1 (by have h1 := HLN'.out; have h2 := HN1.out; have h3 := HK1.out; omega))
              have HX5 : Hid (Boxed (w4.setCell ⟨w.heap.size, K1, none⟩ (.bool true)) B 62 (.slice (some ⟨w.heap.size, 0, none⟩) N1 N1)) := Lib.hid ((Below.heap_setCell w4 ⟨w.heap.size, K1, none⟩ (.bool true) B (by intro e; have e2 : B = w.heap.size := e; omega)).trans HX4.out)
              have HW5 := Lib.hid (HW4.out.setCell (p := ⟨w.heap.size, K1, none⟩) (Nat.le_refl _) (.bool true))
              have HS5 : Hid (Dt.Sound d (m'.set K1 true)) := Lib.hid (by
                rw [← HK1.out]
                refine Dt.sound_set HS'.out k hkd ?_ ?_
                · intro c hc f hf; rw [HY.out] at hc; exact HYOK.out c hc f hf
                · rw [HY.out]; exact HQ.out)
              have HMV : Hid (m'.getD K1 false = false) := Lib.hid (by rw [← HK1.out]; exact HMK.out)
              have hmv := HMV.out
              rw [hmv] at hcM4
              clear hmv
              go_wp2
              go_roundw
              case rel =>
                have hK := HK1.out
                refine ⟨K1, m'.set K1 true, true, by omega, by first | rfl | exact congrArg (Value.int .i64) hwk | exact congrArg (Value.int .i64) hwk2, rfl, HM5, HS5, Lib.hid ?_, Lib.hid (fun e => by cases e), Lib.hid (fun _ => ?_), HW5, HX5⟩
                · rw [List.getD_eq_getElem?_getD, List.getElem?_set_ne (by omega), ← List.getD_eq_getElem?_getD]
                  exact H0'.out
                · have hk1 : K1 < m'.length := by rw [HLN'.out, ← HN1.out, ← hK]; omega
                  have h1 := HMV.out
                  rw [List.getD_eq_getElem?_getD, List.getElem?_eq_getElem hk1, Option.getD_some] at h1
                  have h2 := Dt.falses_set m' K1 hk1 h1
                  have h3 : Dt.falses m' ≤ Dt.falses m := by
                    cases f' with
                    | false => rw [(HCl'.out rfl).1]; exact Nat.le_refl _
                    | true => exact Nat.le_of_lt (HD'.out rfl)
                  omega
              case measure => have hK := HK1.out; simp [intOf]; omega
        · obtain rfl : n = k := by omega
          have hnn : ¬ (n : Int) < n := by omega
          go_wp2
          go_roundg g'
          case measure => omega
          case rel =>
            refine ⟨m', f', rfl, ?_, HM', HS', H0', Lib.hid (fun e i hi => ?_), HW', HX'⟩
            · cases f' with
              | false => have h := (HCl'.out rfl).1; subst h; simpa using HMU.out
              | true => have h := HD'.out rfl; have h2 := HMU.out; simp; omega
            · have h := HCl'.out e
              rw [h.1]
              exact h.2 i hi

end Go.Proofs.Ytphlokjhfbfogaa
