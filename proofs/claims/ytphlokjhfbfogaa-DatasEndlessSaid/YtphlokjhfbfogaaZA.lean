/- What hasTwice does. -/
import Derived.Test.YtphlokjhfbfogaaZ9
set_option linter.unusedVariables false
set_option linter.unusedSimpArgs false
namespace Go.Proofs.Ytphlokjhfbfogaa
open Go.RowKit Go.Shelf Go.Maps
open Go.WideMaps (keyOf_string_mk)

theorem MapSet.below {w w' : World} {k : TypeId} {b n B : Nat} {S : Lit → Bool} (h : MapSet w k b n S) (hb : Below B w w') (hB : b < B) : MapSet w' k b n S := h.keep (hb.block b hB)

def Dt.afterC (T : List ByteArray) (l : List DataM) : Option (List ByteArray) → Bool
  | none => true
  | some S' => Dt.twF T S' l
theorem Dt.twF_cons (T S : List ByteArray) (x : DataM) (l : List DataM) : Dt.twF T S (x :: l) = if Dt.inS T x.name then true else Dt.afterC (T ++ [x.name]) l (Dt.conStep S x.cons) := by
  rw [Dt.twF]
  split
  · rfl
  · cases Dt.conStep S x.cons <;> rfl

set_option maxRecDepth 100000 in
set_option maxHeartbeats 12800000 in
theorem hasTwice_any (v : Value) (d : List DataM) (r : Bool) (w : World) (hv : DsAt w v d) (hd : Sm d) (hr : Hid (Dt.twice d = r)) :
    Calls Try.prog 16 #[v] w fun e w' => e = .returned (.bool r) ∧ Below w.heap.size w w' := by
  obtain ⟨ad, cap, rfl⟩ := hv.slice
  have hl := hd.1
  obtain ⟨n, hln⟩ : ∃ n, d.length = n := ⟨_, rfl⟩
  rw [hln] at hv hl ⊢
  have HL := Lib.hid hln
  have HV := Lib.hid hv
  have HD := Lib.hid hd
  clear hv hln hd
  have hmm := @run_makeMap Try.prog
  have HM0 := Lib.hid ((MapSet.new w 9).to Dt.keyS_nil)
  have HB0 := Lib.hid ((Below.refl w.heap.size w).alloc (Nat.le_refl _) (.map #[] 0))
  have hsz0 : (w.alloc (.map #[] 0)).heap.size = w.heap.size + 1 := by simp
  obtain ⟨w1, hrun, hs1, hg1⟩ := HM0.out.store (t := 61) lawStr Try.underlying61 (by unfold maxLen; omega) (keyOf_string_mk Try.underlying9 (s := ⟨#[73, 110, 116]⟩) (by unfold maxLen; decide)) trivial
  have HB1 := Lib.hid (HB0.out.grown hg1 (by rw [hsz0]; omega) (fun k e => by cases e; exact Nat.le_refl _))
  have HS1 : Hid (MapSet w1 9 w.heap.size 1 (Dt.keyS [Dt.intN])) := Lib.hid (hs1.to (Dt.keyS_snoc [] Dt.intN))
  have hB2 : w.heap.size < w1.heap.size := hs1.lt
  clear hs1 hg1 hsz0 HM0 HB0
  go_enter Try.func16, Try.ntmps16
  go_wp2
  have HM2 := Lib.hid ((MapSet.new w1 9).to Dt.keyS_nil)
  have HS2 := Lib.hid (HS1.out.keep (Below.heap_alloc w1 (.map #[] 0) _ hB2))
  have HB2 := Lib.hid (HB1.out.alloc HB1.out.size (.map #[] 0))
  obtain ⟨B2, hB2e⟩ : ∃ B2, w1.heap.size = B2 := ⟨_, rfl⟩
  rw [hB2e] at hB2 HM2 ⊢
  clear hB2e hmm hrun HS1 HB1
  generalize w1.alloc (.map #[] 0) = w2 at HM2 HS2 HB2 ⊢
  clear w1
  go_loopw [14] (fun i wr => ∃ (k : Nat) (T S : List ByteArray), k ≤ n ∧ i = .int .i64 k ∧ Hid (Dt.twF T S (d.drop k) = r) ∧ Hid (MapSet wr 9 w.heap.size (k + 1) (Dt.keyS T)) ∧ Hid (MapSet wr 9 B2 (k * 100) (Dt.keyS S)) ∧ Hid (Below w.heap.size w wr)) (fun i _ => n - (intOf i).toNat)
  case atStart => exact ⟨0, [Dt.intN], [], Nat.zero_le _, rfl, hr, HS2, HM2, HB2⟩
  case round =>
    obtain ⟨k, T, S, hk, rfl, HR, HT, HS, HW⟩ := hrel
    by_cases hlt : k < n
    · have hltz : (k : Int) < (n : Int) := by omega
      have hkd : k < d.length := by rw [HL.out]; exact hlt
      obtain ⟨b, off, fa, fc, rfl, hb, c0, c1, hcs⟩ := HV.out.at k hkd
      obtain ⟨y, hy⟩ : ∃ y, d[k] = y := ⟨_, rfl⟩
      rw [hy] at c0 c1 hcs
      have hst := HR.out
      rw [List.drop_eq_getElem_cons hkd, hy, Dt.twF_cons] at hst
      have hys : SmD y := by rw [← hy]; exact HD.out.2 _ (List.getElem_mem hkd)
      obtain ⟨q, hq⟩ : ∃ q, Dt.inS T y.name = q := ⟨_, rfl⟩
      rw [hq] at hst
      have HQ := Lib.hid (show Dt.keyS T (.string y.name.data.toList) = q by rw [Dt.keyS_in]; exact hq)
      have HNM : Hid (y.name.size ≤ maxLen) := Lib.hid (by have := hys.1; unfold maxLen; omega)
      have d0 := (HW.out.cell (p := ⟨b, off + k * 2, none⟩) hb).trans c0
      have d1 := (HW.out.cell (p := ⟨b, off + k * 2 + 1, none⟩) hb).trans c1
      have hwsz := HW.out.size
      have hTA := HT.out.keep (Below.heap_alloc wr (.cells #[.string y.name, .slice fa y.cons.length fc] 37) _ HT.out.lt)
      have hSA := HS.out.keep (Below.heap_alloc wr (.cells #[.string y.name, .slice fa y.cons.length fc] 37) _ HS.out.lt)
      have hWA := HW.out.alloc hwsz (.cells #[.string y.name, .slice fa y.cons.length fc] 37)
      have HTA := Lib.hid hTA
      have HSA := Lib.hid hSA
      have HWA := Lib.hid hWA
      have HLT := Lib.hid HS.out.lt
      have hfl := hys.2.1
      have HST := Lib.hid hst
      have HCS := Lib.hid hcs
      have HYS := Lib.hid hys.2.2
      clear hy hst hq hys c0 c1 hTA hSA hWA hcs hkd HR
      obtain ⟨nm, hnm⟩ : ∃ nm, y.name = nm := ⟨_, rfl⟩
      obtain ⟨cs, hcse⟩ : ∃ cs, y.cons = cs := ⟨_, rfl⟩
      rw [hnm] at HQ HNM d0 HTA HSA HWA HST
      rw [hcse] at HCS HYS hfl d1 HTA HSA HWA HST
      clear hnm hcse
      obtain ⟨m, hm⟩ : ∃ m, cs.length = m := ⟨_, rfl⟩
      rw [hm] at HCS hfl d1 HTA HSA HWA
      have HCL := Lib.hid hm
      clear hm
      cases q with
      | true =>
        obtain rfl : r = true := HST.out.symm
        go_wp2_with (first | (at_lookup; refine wpList_set_look _ rfl _ _ 61 rfl 9 lawStr Try.underlying61 w.heap.size _ _ rfl HTA.out _ _ rfl (keyOf_string_mk Try.underlying9 HNM.out) true HQ.out ?_))
        go_ret
        exact ⟨rfl, HWA.out⟩
      | false =>
        go_wp2_with (first | (at_lookup; refine wpList_set_look _ rfl _ _ 61 rfl 9 lawStr Try.underlying61 w.heap.size _ _ rfl HTA.out _ _ rfl (keyOf_string_mk Try.underlying9 HNM.out) false HQ.out ?_) | (at_mapUpdate; refine wpList_set_store _ rfl _ _ _ 61 rfl 9 lawStr Try.underlying61 w.heap.size _ _ rfl HTA.out (by unfold maxLen; omega) _ _ rfl rfl (keyOf_string_mk Try.underlying9 HNM.out) trivial ?_; intro w3 hs3 hg3; refine hold ?_))
        have HT3 := Lib.hid (hs3.to (Dt.keyS_snoc T nm))
        have hne : B2 ≠ w.heap.size := by omega
        have HS3 := Lib.hid (HSA.out.keep (hg3.block _ (by rw [World.size_alloc]; exact Nat.lt_succ_of_lt HLT.out) (by intro e; cases e; exact hne rfl)))
        have HW3 := Lib.hid (HWA.out.grown hg3 (by rw [World.size_alloc]; omega) (fun k e => by cases e; exact Nat.le_refl _))
        have e1 : w3.cell? ⟨wr.heap.size, 1, none⟩ = some (.slice fa m fc) := by
          rw [World.cell?_of_block (w := wr.alloc (.cells #[.string nm, .slice fa m fc] 37)) (hg3.block wr.heap.size (by rw [World.size_alloc]; omega) (by intro e; injection e with e; have h1 := HLT.out; omega)), World.cell?_alloc_new]
          rfl
        clear hs3 hg3 HTA HSA HWA HS HT HQ d0 d1
        refine go_on ?_
        go_wp2
        obtain ⟨R, hR⟩ : ∃ R, Dt.conStep S cs = R := ⟨_, rfl⟩
        have HST2 : Hid (Dt.afterC (T ++ [nm]) (d.drop (k + 1)) R = r) := Lib.hid (by rw [← hR]; exact HST.out)
        have HR0 : Hid (Dt.conStep S (cs.drop 0) = R) := Lib.hid hR
        clear hR e1 HST HLT HW HNM
        have HS30 : Hid (MapSet w3 9 B2 (k * 100 + 0) (Dt.keyS S)) := HS3
        clear HS3
        have hk100 : k ≤ 100 := by omega
        go_loopw [28] (fun i wx => ∃ (j : Nat) (S' : List ByteArray), j ≤ m ∧ i = .int .i64 j ∧ Hid (Dt.conStep S' (cs.drop j) = R) ∧ Hid (MapSet wx 9 w.heap.size (k + 2) (Dt.keyS (T ++ [nm]))) ∧ Hid (MapSet wx 9 B2 (k * 100 + j) (Dt.keyS S')) ∧ Hid (Below w.heap.size w wx)) (fun i _ => m - (intOf i).toNat)
        case atStart => exact ⟨0, S, Nat.zero_le _, rfl, HR0, HT3, HS30, HW3⟩
        case round =>
          obtain ⟨j, S', hj, rfl, HR', HT', HS', HW'⟩ := hrel
          by_cases hjlt : j < m
          · have hjltz : (j : Int) < (m : Int) := by omega
            have hjl : j < cs.length := by rw [HCL.out]; exact hjlt
            obtain ⟨b2, off2, ga, gc, rfl, hb2, c0, c1, hfs⟩ := HCS.out.at j hjl
            obtain ⟨z, hz⟩ : ∃ z, cs[j] = z := ⟨_, rfl⟩
            rw [hz] at c0 c1 hfs
            have hst := HR'.out
            rw [List.drop_eq_getElem_cons hjl, hz, Dt.conStep] at hst
            have hzs : SmC z := by rw [← hz]; exact HYS.out _ (List.getElem_mem hjl)
            obtain ⟨q, hq⟩ : ∃ q, Dt.inS S' z.name = q := ⟨_, rfl⟩
            rw [hq] at hst
            have HQ := Lib.hid (show Dt.keyS S' (.string z.name.data.toList) = q by rw [Dt.keyS_in]; exact hq)
            have HNM : Hid (z.name.size ≤ maxLen) := Lib.hid (by have := hzs.1; unfold maxLen; omega)
            have d0 := (HW'.out.cell (p := ⟨b2, off2 + j * 2, none⟩) hb2).trans c0
            have d1 := (HW'.out.cell (p := ⟨b2, off2 + j * 2 + 1, none⟩) hb2).trans c1
            have hwsz := HW'.out.size
            have HTA := Lib.hid (HT'.out.keep (Below.heap_alloc wr (.cells #[.string z.name, .slice ga z.fields.length gc] 34) _ HT'.out.lt))
            have HSA := Lib.hid (HS'.out.keep (Below.heap_alloc wr (.cells #[.string z.name, .slice ga z.fields.length gc] 34) _ HS'.out.lt))
            have HWA := Lib.hid (HW'.out.alloc hwsz (.cells #[.string z.name, .slice ga z.fields.length gc] 34))
            have HST := Lib.hid hst
            have HLT := Lib.hid HT'.out.lt
            clear hz hst hq hzs c0 c1 hfs hjl HR'
            generalize z.name = zn at HQ HNM d0 HTA HSA HWA HST
            generalize z.fields.length = zl at d1 HTA HSA HWA
            cases q with
            | true =>
              obtain rfl : R = none := HST.out.symm
              obtain rfl : r = true := HST2.out.symm
              go_wp2_with (first | (at_lookup; refine wpList_set_look _ rfl _ _ 61 rfl 9 lawStr Try.underlying61 B2 _ _ rfl HSA.out _ _ rfl (keyOf_string_mk Try.underlying9 HNM.out) true HQ.out ?_))
              go_ret
              exact ⟨rfl, HWA.out⟩
            | false =>
              go_wp2_with (first | (at_lookup; refine wpList_set_look _ rfl _ _ 61 rfl 9 lawStr Try.underlying61 B2 _ _ rfl HSA.out _ _ rfl (keyOf_string_mk Try.underlying9 HNM.out) false HQ.out ?_) | (at_mapUpdate; refine wpList_set_store _ rfl _ _ _ 61 rfl 9 lawStr Try.underlying61 B2 _ _ rfl HSA.out (by unfold maxLen; omega) _ _ rfl rfl (keyOf_string_mk Try.underlying9 HNM.out) trivial ?_; intro w4 hs4 hg4; refine hold ?_))
              have HS4 := Lib.hid (hs4.to (Dt.keyS_snoc S' zn))
              have HT4 := Lib.hid (HTA.out.keep (hg4.block _ (by rw [World.size_alloc]; exact Nat.lt_succ_of_lt HLT.out) (by intro e; cases e; exact hne rfl)))
              have HW4 := Lib.hid (HWA.out.grown hg4 (by rw [World.size_alloc]; omega) (fun k e => by injection e with e; omega))
              clear hs4 hg4 HTA HSA HWA HS' HT' HQ d0 d1
              refine go_on ?_
              go_wp2
              go_roundw
              case rel => exact ⟨j + 1, S' ++ [zn], by omega, by go_num, HST, HT4, HS4, HW4⟩
              case measure => simp [intOf]; omega
          · obtain rfl : m = j := by omega
            have hnn : ¬ (m : Int) < m := by omega
            have hR : R = some S' := by
              rw [← HR'.out, List.drop_eq_nil_of_le (by rw [HCL.out]; exact Nat.le_refl _)]; rfl
            subst hR
            go_wp2
            go_roundw
            case rel => exact ⟨k + 1, T ++ [nm], S', by omega, by go_num, HST2, HT', Lib.hid (HS'.out.mono (by omega)), HW'⟩
            case measure => simp [intOf]; omega
    · obtain rfl : n = k := by omega
      have hnn : ¬ (n : Int) < n := by omega
      obtain rfl : r = false := by
        rw [← HR.out, List.drop_eq_nil_of_le (by rw [HL.out]; exact Nat.le_refl _)]; rfl
      go_wp2
      go_ret
      exact ⟨rfl, HW.out⟩

end Go.Proofs.Ytphlokjhfbfogaa
