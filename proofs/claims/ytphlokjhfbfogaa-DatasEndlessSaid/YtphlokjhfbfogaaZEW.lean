/- The law DatasEndless: a valid table with a type more that has no finite value is refused; with a constructor without fields besides it is valid. -/
import Derived.Test.YtphlokjhfbfogaaZEL
import Derived.Deep.Cut
import Derived.Deep.DeepCutAuto
import Derived.Deep.RegionHeld3
set_option linter.unusedVariables false
set_option linter.unusedSimpArgs false
namespace Go.Proofs.Ytphlokjhfbfogaa
open Go.RowKit Go.Shelf

set_option maxRecDepth 100000 in
set_option maxHeartbeats 6400000 in
theorem law_DatasEndless (v : Value) (d : List DataM) (w : World) (hv : DsAt w v d) (h64 : H64 d) :
    Calls Try.prog 3 #[v] w fun e w' => e = .returned (.bool true) ∧ Below w.heap.size w w' := by
  obtain ⟨ad, cap, hE⟩ := hv.slice
  have HV := Lib.hid hv
  obtain ⟨n, hn⟩ : ∃ n, d.length = n := ⟨_, rfl⟩
  rw [hn] at hE
  have HN := Lib.hid hn
  subst hE
  cases hf : Dt.few d with
  | false =>
    have HF := Lib.hid hf
    clear hv h64 hf hn
    go_enter Try.func3, Try.ntmps3
    go_wp2_with fail
    refine (awake_any w).mono ?_
    rintro e w1 ⟨rfl, hb⟩
    have HB := Lib.hid hb
    have HV1 := Lib.hid (HV.out.keep hb (Nat.le_refl _))
    clear hb
    go_wp2_with fail
    refine (Few_any _ d false w1 HV1.out HF).mono ?_
    rintro e w2 ⟨rfl, rfl⟩
    go_wp2
    go_ret
    exact ⟨rfl, HB.out⟩
  | true =>
    have HF := Lib.hid hf
    have HS := Lib.hid (Dt.few_sm hf h64)
    obtain ⟨E, hE⟩ : ∃ E, Dt.check d = E := ⟨_, rfl⟩
    have HE := Lib.hid hE
    clear hv h64 hf hE hn
    by_cases hn64 : 64 ≤ n
    · have g1 : (64 : Int) ≤ n := by omega
      clear hn64
      go_enter Try.func3, Try.ntmps3
      go_wp2_with fail
      refine (awake_any w).mono ?_
      rintro e w1 ⟨rfl, hb⟩
      have HB := Lib.hid hb
      have HV1 := Lib.hid (HV.out.keep hb (Nat.le_refl _))
      clear hb
      go_wp2_with fail
      refine (Few_any _ d true w1 HV1.out HF).mono ?_
      rintro e w2 ⟨rfl, h⟩
      rw [h]
      clear h w2
      go_wp2
      go_ret
      exact ⟨rfl, HB.out⟩
    · have g1 : ¬ (64 : Int) ≤ n := by omega
      go_enter Try.func3, Try.ntmps3
      go_wp2_with fail
      refine (awake_any w).mono ?_
      rintro e w1 ⟨rfl, hb⟩
      have HB := Lib.hid hb
      have HV1 := Lib.hid (HV.out.keep hb (Nat.le_refl _))
      clear hb
      go_wp2_with fail
      refine (Few_any _ d true w1 HV1.out HF).mono ?_
      rintro e w2 ⟨rfl, h⟩
      rw [h]
      clear h w2
      have HCK := Lib.hid (Check_any _ d w1 HV1.out HS.out)
      rw [HE.out] at HCK
      by_cases hE0 : E = 0
      · subst hE0
        go_wp2_with fail
        refine HCK.out.mono ?_
        rintro e w3 ⟨rfl, hb⟩
        have HB3 := Lib.hid (HB.out.trans (hb.mono HB.out.size))
        have HV3 := Lib.hid (HV1.out.keep hb (Nat.le_refl _))
        clear hb
        obtain ⟨a, ha⟩ : ∃ a, Dt.typeOf d Dt.endN = a := ⟨_, rfl⟩
        obtain ⟨a1, a2⟩ := a
        obtain ⟨c, hc⟩ : ∃ c, Dt.conOf d Dt.moreN = c := ⟨_, rfl⟩
        obtain ⟨c1, c2, c3⟩ := c
        obtain ⟨s, hs⟩ : ∃ s, Dt.conOf d Dt.stopN = s := ⟨_, rfl⟩
        obtain ⟨s1, s2, s3⟩ := s
        have HT := Lib.hid (Type_any (.slice ad n cap) d Dt.endN w3 HV3.out HS.out)
        rw [ha] at HT
        unfold Dt.endN at HT
        have HA := Lib.hid ha
        have HC := Lib.hid hc
        have HST := Lib.hid hs
        clear ha hc hs
        go_wp2_with fail
        refine HT.out.mono ?_
        rintro e w4 ⟨rfl, hb⟩
        have HB4 := Lib.hid (HB3.out.trans (hb.mono HB3.out.size))
        have HV4 := Lib.hid (HV3.out.keep hb (Nat.le_refl _))
        clear hb
        cases a2 with
        | true =>
          go_wp2
          go_ret
          exact ⟨rfl, HB4.out⟩
        | false =>
          have HCM := Lib.hid (Con_any (.slice ad n cap) d Dt.moreN w4 HV4.out HS.out)
          rw [HC.out] at HCM
          unfold Dt.moreN at HCM
          go_wp2_with fail
          refine HCM.out.mono ?_
          rintro e w5 ⟨rfl, hb⟩
          have HB5 := Lib.hid (HB4.out.trans (hb.mono HB4.out.size))
          have HV5 := Lib.hid (HV4.out.keep hb (Nat.le_refl _))
          clear hb
          have HCS := Lib.hid (Con_any (.slice ad n cap) d Dt.stopN w5 HV5.out HS.out)
          rw [HST.out] at HCS
          unfold Dt.stopN at HCS
          go_wp2_with fail
          refine HCS.out.mono ?_
          rintro e w6 ⟨rfl, hb⟩
          have HB6 := Lib.hid (HB5.out.trans (hb.mono HB5.out.size))
          have HV6 := Lib.hid (HV5.out.keep hb (Nat.le_refl _))
          clear hb
          cases c3 with
          | true =>
            go_wp2
            go_ret
            exact ⟨rfl, HB6.out⟩
          | false =>
            cases s3 with
            | true =>
              go_wp2
              go_ret
              exact ⟨rfl, HB6.out⟩
            | false =>
              have hwk : wrap64 ((n : Int) + 1) = (n : Int) + 1 := wrap_one n (by omega)
              have hwk2 : IntKind.i64.wrap ((n : Int) + 1) = (n : Int) + 1 := wrap_one' n (by omega)
              have hn0 : 0 < n := by
                rw [← HN.out]
                have := (Dt.check_zero HE.out).2.1
                cases d with
                | nil => cases this
                | cons x l => simp
              obtain ⟨b, off, fa, fc, rfl, hb, c0, c1, hcs⟩ := HV6.out.at 0 (by rw [HN.out]; exact hn0)
              obtain ⟨i0, hi, hz0, hz1, hz2⟩ := info_parts infoData
              have HI := Lib.hid hi
              have HZ0 := Lib.hid hz0
              have HZ1 := Lib.hid hz1
              have HZ2 := Lib.hid hz2
              clear hi hz0 hz1 hz2 c0 c1 hcs hb HCM HCS HT HCK
              go_upto_region 13 with fail
              have hB7 : Below w6.heap.size w6 ((w6.alloc (Obj.cells #[Value.int IntKind.i64 0, Value.int IntKind.i64 ((n : Int) + 1)] 27)).alloc (Obj.cells #[Value.string ⟨#[77, 111, 114, 101]⟩, Value.slice (some ⟨w6.heap.size, 0, none⟩) 2 2] 34)) := ((Below.refl _ _).alloc (Nat.le_refl _) _).alloc (by simp) _
              have hf7 : ((w6.alloc (Obj.cells #[Value.int IntKind.i64 0, Value.int IntKind.i64 ((n : Int) + 1)] 27)).alloc (Obj.cells #[Value.string ⟨#[77, 111, 114, 101]⟩, Value.slice (some ⟨w6.heap.size, 0, none⟩) 2 2] 34)).heap[w6.heap.size]? = some (Obj.cells #[Value.int IntKind.i64 0, Value.int IntKind.i64 ((n : Int) + 1)] 27) := (Below.heap_alloc _ _ _ (by simp)).trans (heap_alloc_new w6 _)
              have hb7 : ((w6.alloc (Obj.cells #[Value.int IntKind.i64 0, Value.int IntKind.i64 ((n : Int) + 1)] 27)).alloc (Obj.cells #[Value.string ⟨#[77, 111, 114, 101]⟩, Value.slice (some ⟨w6.heap.size, 0, none⟩) 2 2] 34)).heap[w6.heap.size + 1]? = some (Obj.cells #[Value.string ⟨#[77, 111, 114, 101]⟩, Value.slice (some ⟨w6.heap.size, 0, none⟩) 2 2] 34) := by have h := heap_alloc_new (w6.alloc (Obj.cells #[Value.int IntKind.i64 0, Value.int IntKind.i64 ((n : Int) + 1)] 27)) (Obj.cells #[Value.string ⟨#[77, 111, 114, 101]⟩, Value.slice (some ⟨w6.heap.size, 0, none⟩) 2 2] 34); simpa using h
              generalize ((w6.alloc (Obj.cells #[Value.int IntKind.i64 0, Value.int IntKind.i64 ((n : Int) + 1)] 27)).alloc (Obj.cells #[Value.string ⟨#[77, 111, 114, 101]⟩, Value.slice (some ⟨w6.heap.size, 0, none⟩) 2 2] 34)) = w7 at hB7 hf7 hb7 ⊢
              have HB7 := Lib.hid (HB6.out.trans (hB7.mono HB6.out.size))
              have HV7 := Lib.hid (HV6.out.keep hB7 (Nat.le_refl _))
              clear hB7 HV6 HB6
              generalize w6.heap.size = fb at hf7 hb7 ⊢
              have HNW7 : Hid (∀ W, Below w7.heap.size w7 W → ∀ j u, (tabN w7 b off n)[j]? = some u → W.cell? ((⟨b, off, none⟩ : Addr).add j) = some u) := Lib.hid (fun W hW j u h => tab_below HV7.out HN.out hW j u h)
              have HONE7 := Lib.hid (tabN_one HV7.out HN.out)
              have HF7 := Lib.hid hf7
              have K07 := Lib.hid (cell_at (i := 0) hb7 rfl)
              have K17 := Lib.hid (cell_at (i := 1) hb7 rfl)
              have HFB7 := Lib.hid (lt_of hb7)
              have HBX7 := Lib.hid hb7
              clear hf7 hb7
              refine region_plainX (S := fun W => Below w7.heap.size w7 W) (m := 8) (by kernel_rfl) ?_
              refine x_take (i := 1) (v := (.slice (some ⟨b, off, none⟩) n cap)) rfl rfl (by kernel_rfl) (by kernel_rfl) (by kernel_rfl) (by kernel_rfl) (fun _ _ _ h => h) (.inl ⟨by rfl, ?_⟩) (Below.refl _ _).drew ?_
              · intro W hSw; (try dsimp only at hSw); go_simp
              simp only [List.getElem_toArray, List.getElem_cons_succ, List.getElem_cons_zero, Act.put, List.setIfInBounds_toArray, List.set_cons_zero, List.set_cons_succ]
              refine x_take (i := 3) (v := (.agg #[.string ⟨#[77, 111, 114, 101]⟩, .slice (some ⟨fb, 0, none⟩) 2 2])) rfl rfl (by kernel_rfl) (by kernel_rfl) (by kernel_rfl) (by kernel_rfl) (fun _ _ _ h => h) (.inl ⟨by rfl, ?_⟩) (Below.refl _ _).drew ?_
              · intro W hSw; (try dsimp only at hSw); have e0 := (hSw.cell (p := ⟨fb + 1, 0, none⟩) HFB7.out).trans K07.out; have e1 := (hSw.cell (p := ⟨fb + 1, 1, none⟩) HFB7.out).trans K17.out; go_simp
              simp only [List.getElem_toArray, List.getElem_cons_succ, List.getElem_cons_zero, Act.put, List.setIfInBounds_toArray, List.set_cons_zero, List.set_cons_succ]
              refine lattice (rgF w7.heap.size w7 n (tabN w7 b off n) #[.string ⟨#[77, 111, 114, 101]⟩, .slice (some ⟨fb, 0, none⟩) 2 2] 1 _ 56 58 60 61 62) (fun p q => #[decide (1 ≤ p), true, decide (2 ≤ p), true, decide (1 ≤ q), decide (2 ≤ q), decide (3 ≤ q), false, false]) (fun p => 2 * p) (fun q => 4 + q) 2 3 2 ?_ ?_ ?_ ?_ 5 0 0 (by decide) (by decide) rfl _ _ ⟨undef, undef, 0, 0, rfl, Rg.start w7⟩
              · intro p q hp hq hne
                obtain rfl | rfl | rfl : p = 0 ∨ p = 1 ∨ p = 2 := by omega
                all_goals obtain rfl | rfl | rfl | rfl : q = 0 ∨ q = 1 ∨ q = 2 ∨ q = 3 := by omega
                all_goals first | (exact absurd ⟨rfl, rfl⟩ hne) | (clear hne hp hq; decide +kernel)
              · rintro p q a w hp hq ⟨x1, x2, g2, g3, ha, hR⟩
                subst ha
                obtain rfl | rfl : p = 0 ∨ p = 1 := by omega
                · have hR' := Lib.hid hR.empty
                  have hbl := Lib.hid hR'.out.below
                  obtain rfl | rfl | rfl | rfl : q = 0 ∨ q = 1 ∨ q = 2 ∨ q = 3 := by omega
                  all_goals (refine wpOp_step rfl (fun K' hK' => ?_); simp only [rgT, List.setIfInBounds_toArray, List.set_cons_zero, List.set_cons_succ]; clear hR; go_simp; refine hK' _ _ ⟨hbl.out, (.slice (some ⟨w.heap.size, 0, none⟩) 0 0), x2, g2, g3, ?_, hR'.out⟩; simp only [rgT, List.setIfInBounds_toArray, List.set_cons_zero, List.set_cons_succ])
                · have hrow := hR.row _ _ _ rfl
                  have hbl := Lib.hid hR.below
                  have HR := Lib.hid hR
                  clear hR
                  obtain rfl | rfl | rfl | rfl : q = 0 ∨ q = 1 ∨ q = 2 ∨ q = 3 := by omega
                  all_goals (refine wpOp_step rfl (fun K' hK' => ?_); simp only [rgT, Nat.mul_one, List.getElem_toArray, List.getElem_cons_succ, List.getElem_cons_zero, List.setIfInBounds_toArray, List.set_cons_zero, List.set_cons_succ]; refine step_append_t _ (by rfl) _ _ 22 (by rfl) w7.heap.size 37 i0 (.agg #[.string ⟨#[]⟩, .slice none 0 0]) 2 40 Try.underlying22 HI.out HZ0.out HZ1.out HZ2.out rfl (by decide) x1 0 [] (by rfl) hrow ⟨b, off, none⟩ n cap (tabN w7 b off n) (by rfl) (tabN_length _ _ _ _) (HNW7.out w hbl.out) HONE7.out (by unfold maxLen; omega) (by omega) HR.out.size ?_; intro v7 w7' hown hgrow hloc; rw [Nat.zero_add, List.nil_append] at hown; have HR2 := Lib.hid (HR.out.append hown hgrow hloc); refine hK' _ _ ⟨HR2.out.below, x1, v7, g2, g3, ?_, HR2.out⟩; simp only [Act.put, rgT, List.setIfInBounds_toArray, List.set_cons_zero, List.set_cons_succ])
              · rintro p q a w hp hq ⟨x1, x2, g2, g3, ha, hR⟩
                subst ha
                have HR := Lib.hid hR
                obtain rfl | rfl | rfl : q = 0 ∨ q = 1 ∨ q = 2 := by omega
                · have HR2 := Lib.hid (hR.alloc (rgCon #[.string ⟨#[77, 111, 114, 101]⟩, .slice (some ⟨fb, 0, none⟩) 2 2]))
                  have hbl := Lib.hid HR2.out.below
                  clear hR
                  obtain rfl | rfl | rfl : p = 0 ∨ p = 1 ∨ p = 2 := by omega
                  all_goals (refine wpOp_step rfl (fun K' hK' => ?_); simp only [rgT, List.setIfInBounds_toArray, List.set_cons_zero, List.set_cons_succ]; go_simp; refine hK' _ _ ⟨hbl.out, x1, x2, w.heap.size, g3, ?_, HR2.out⟩; simp only [rgT, List.setIfInBounds_toArray, List.set_cons_zero, List.set_cons_succ])
                · have hbl := Lib.hid hR.below
                  clear hR
                  obtain rfl | rfl | rfl : p = 0 ∨ p = 1 ∨ p = 2 := by omega
                  all_goals (refine wpOp_step rfl (fun K' hK' => ?_); simp only [rgT, List.setIfInBounds_toArray, List.set_cons_zero, List.set_cons_succ]; go_simp; refine hK' _ _ ⟨hbl.out, x1, x2, g2, g3, ?_, HR.out⟩; simp only [rgT, List.setIfInBounds_toArray, List.set_cons_zero, List.set_cons_succ])
                · have HR2 := Lib.hid (hR.alloc (rgDat g2 1))
                  have hbl := Lib.hid HR2.out.below
                  clear hR
                  obtain rfl | rfl | rfl : p = 0 ∨ p = 1 ∨ p = 2 := by omega
                  all_goals (refine wpOp_step rfl (fun K' hK' => ?_); simp only [rgT, List.setIfInBounds_toArray, List.set_cons_zero, List.set_cons_succ]; go_simp; refine hK' _ _ ⟨hbl.out, x1, x2, g2, w.heap.size, ?_, HR2.out⟩; simp only [rgT, List.setIfInBounds_toArray, List.set_cons_zero, List.set_cons_succ])
              · rintro a W ⟨x1, x2, g2, g3, ha, hR⟩
                subst ha
                simp only [rgT, List.setIfInBounds_toArray, List.set_cons_zero, List.set_cons_succ]
                have hrow := hR.row _ _ _ rfl
                have HR := Lib.hid hR
                have hg3 := hR.obj (g3, rgDat g2 1) (by simp [rgC])
                have HNR := Lib.hid (dat_news hg3)
                clear hR hg3
                refine x_one (i := 7) (by kernel_rfl) rfl (fun K' hK' => ?_)
                refine step_append_t _ (by rfl) _ _ 22 (by rfl) w7.heap.size 37 i0 (.agg #[.string ⟨#[]⟩, .slice none 0 0]) 2 40 Try.underlying22 HI.out HZ0.out HZ1.out HZ2.out rfl (by decide) x2 n (tabN w7 b off n) (by rfl) hrow ⟨g3, 0, none⟩ 1 1 [.string ⟨#[69, 110, 100, 108, 101, 115, 115]⟩, .slice (some ⟨g2, 0, none⟩) 1 1] (by rfl) rfl HNR.out (by intro u hu; simp at hu; rcases hu with rfl | rfl <;> rfl) (by unfold maxLen; omega) (by omega) HR.out.size ?_
                intro X8 w8 hown hgrow hloc
                have HR2 := Lib.hid (HR.out.append hown hgrow hloc)
                have hBW := HR2.out.below
                have hf := (hBW.block fb (lt_of HF7.out)).trans HF7.out
                have hg := HR2.out.obj (g2, rgCon #[.string ⟨#[77, 111, 114, 101]⟩, .slice (some ⟨fb, 0, none⟩) 2 2]) (by simp [rgC])
                have hT := Rg.table HV7.out HN.out (Below.refl _ _) (Nat.le_refl _) HR2.out (cons_x hf hg)
                obtain ⟨hT, xa, xc, rfl⟩ := hT
                have HX8 := Lib.hid hT
                have HB8 := Lib.hid (HB7.out.trans (hBW.mono HB7.out.size))
                have HV8 := Lib.hid (HV7.out.keep hBW (Nat.le_refl _))
                have HBW := Lib.hid hBW
                clear hown hgrow hloc hBW hg hT hrow
                refine hK'.out _ _ (fun _ => HBW.out) ?_
                clear hK' K'
                simp only [List.getElem_toArray, List.getElem_cons_succ, List.getElem_cons_zero, Act.put, List.setIfInBounds_toArray, List.set_cons_zero, List.set_cons_succ]
                refine x_one (i := 8) (by kernel_rfl) rfl (fun K' hK' => ?_)
                go_simp
                refine hK'.out _ _ (fun h => absurd rfl h) ?_
                clear hK' K'
                refine x_done (by kernel_rfl) ?_ _
                have hf8 := hf
                have hb8 := (HBW.out.block (fb + 1) HFB7.out).trans HBX7.out
                clear hf HBW HR HR2 HNR
                have HNW8 : Hid (∀ W, Below w8.heap.size w8 W → ∀ j u, (tabN w8 b off n)[j]? = some u → W.cell? ((⟨b, off, none⟩ : Addr).add j) = some u) := Lib.hid (fun W hW j u h => tab_below HV8.out HN.out hW j u h)
                have HONE8 := Lib.hid (tabN_one HV8.out HN.out)
                have HF8 := Lib.hid hf8
                have K08 := Lib.hid (cell_at (i := 0) hb8 rfl)
                have K18 := Lib.hid (cell_at (i := 1) hb8 rfl)
                have HFB8 := Lib.hid (lt_of hb8)
                have HBX8 := Lib.hid hb8
                clear hf8 hb8
                go_upto_region 14 with fail
                refine region_plainX (S := fun W => Below w8.heap.size w8 W) (m := 9) (by kernel_rfl) ?_
                refine x_take (i := 1) (v := (.slice (some ⟨b, off, none⟩) n cap)) rfl rfl (by kernel_rfl) (by kernel_rfl) (by kernel_rfl) (by kernel_rfl) (fun _ _ _ h => h) (.inl ⟨by rfl, ?_⟩) (Below.refl _ _).drew ?_
                · intro W hSw; (try dsimp only at hSw); go_simp
                simp only [List.getElem_toArray, List.getElem_cons_succ, List.getElem_cons_zero, Act.put, List.setIfInBounds_toArray, List.set_cons_zero, List.set_cons_succ]
                refine x_take (i := 3) (v := (.agg #[.string ⟨#[77, 111, 114, 101]⟩, .slice (some ⟨fb, 0, none⟩) 2 2])) rfl rfl (by kernel_rfl) (by kernel_rfl) (by kernel_rfl) (by kernel_rfl) (fun _ _ _ h => h) (.inl ⟨by rfl, ?_⟩) (Below.refl _ _).drew ?_
                · intro W hSw; (try dsimp only at hSw); have e0 := (hSw.cell (p := ⟨fb + 1, 0, none⟩) HFB8.out).trans K08.out; have e1 := (hSw.cell (p := ⟨fb + 1, 1, none⟩) HFB8.out).trans K18.out; go_simp
                simp only [List.getElem_toArray, List.getElem_cons_succ, List.getElem_cons_zero, Act.put, List.setIfInBounds_toArray, List.set_cons_zero, List.set_cons_succ]
                refine x_take (i := 4) (v := (.agg #[.string ⟨#[83, 116, 111, 112]⟩, .slice none 0 0])) rfl rfl (by kernel_rfl) (by kernel_rfl) (by kernel_rfl) (by kernel_rfl) (fun _ _ _ h => h) (.inl ⟨by rfl, ?_⟩) (Below.refl _ _).drew ?_
                · intro W hSw; (try dsimp only at hSw); go_simp
                simp only [List.getElem_toArray, List.getElem_cons_succ, List.getElem_cons_zero, Act.put, List.setIfInBounds_toArray, List.set_cons_zero, List.set_cons_succ]
                refine lattice (rgF w8.heap.size w8 n (tabN w8 b off n) #[.string ⟨#[77, 111, 114, 101]⟩, .slice (some ⟨fb, 0, none⟩) 2 2, .string ⟨#[83, 116, 111, 112]⟩, .slice none 0 0] 2 _ 64 66 69 70 71) (fun p q => #[decide (1 ≤ p), true, decide (2 ≤ p), true, true, decide (1 ≤ q), decide (2 ≤ q), decide (3 ≤ q), false, false]) (fun p => 2 * p) (fun q => 5 + q) 2 3 2 ?_ ?_ ?_ ?_ 5 0 0 (by decide) (by decide) rfl _ _ ⟨undef, undef, 0, 0, rfl, Rg.start w8⟩
                · intro p q hp hq hne
                  obtain rfl | rfl | rfl : p = 0 ∨ p = 1 ∨ p = 2 := by omega
                  all_goals obtain rfl | rfl | rfl | rfl : q = 0 ∨ q = 1 ∨ q = 2 ∨ q = 3 := by omega
                  all_goals first | (exact absurd ⟨rfl, rfl⟩ hne) | (clear hne hp hq; decide +kernel)
                · rintro p q a w hp hq ⟨x1, x2, g2, g3, ha, hR⟩
                  subst ha
                  obtain rfl | rfl : p = 0 ∨ p = 1 := by omega
                  · have hR' := Lib.hid hR.empty
                    have hbl := Lib.hid hR'.out.below
                    obtain rfl | rfl | rfl | rfl : q = 0 ∨ q = 1 ∨ q = 2 ∨ q = 3 := by omega
                    all_goals (refine wpOp_step rfl (fun K' hK' => ?_); simp only [rgT, List.setIfInBounds_toArray, List.set_cons_zero, List.set_cons_succ]; clear hR; go_simp; refine hK' _ _ ⟨hbl.out, (.slice (some ⟨w.heap.size, 0, none⟩) 0 0), x2, g2, g3, ?_, hR'.out⟩; simp only [rgT, List.setIfInBounds_toArray, List.set_cons_zero, List.set_cons_succ])
                  · have hrow := hR.row _ _ _ rfl
                    have hbl := Lib.hid hR.below
                    have HR := Lib.hid hR
                    clear hR
                    obtain rfl | rfl | rfl | rfl : q = 0 ∨ q = 1 ∨ q = 2 ∨ q = 3 := by omega
                    all_goals (refine wpOp_step rfl (fun K' hK' => ?_); simp only [rgT, Nat.mul_one, List.getElem_toArray, List.getElem_cons_succ, List.getElem_cons_zero, List.setIfInBounds_toArray, List.set_cons_zero, List.set_cons_succ]; refine step_append_t _ (by rfl) _ _ 22 (by rfl) w8.heap.size 37 i0 (.agg #[.string ⟨#[]⟩, .slice none 0 0]) 2 40 Try.underlying22 HI.out HZ0.out HZ1.out HZ2.out rfl (by decide) x1 0 [] (by rfl) hrow ⟨b, off, none⟩ n cap (tabN w8 b off n) (by rfl) (tabN_length _ _ _ _) (HNW8.out w hbl.out) HONE8.out (by unfold maxLen; omega) (by omega) HR.out.size ?_; intro v7 w7' hown hgrow hloc; rw [Nat.zero_add, List.nil_append] at hown; have HR2 := Lib.hid (HR.out.append hown hgrow hloc); refine hK' _ _ ⟨HR2.out.below, x1, v7, g2, g3, ?_, HR2.out⟩; simp only [Act.put, rgT, List.setIfInBounds_toArray, List.set_cons_zero, List.set_cons_succ])
                · rintro p q a w hp hq ⟨x1, x2, g2, g3, ha, hR⟩
                  subst ha
                  have HR := Lib.hid hR
                  obtain rfl | rfl | rfl : q = 0 ∨ q = 1 ∨ q = 2 := by omega
                  · have HR2 := Lib.hid (hR.alloc (rgCon #[.string ⟨#[77, 111, 114, 101]⟩, .slice (some ⟨fb, 0, none⟩) 2 2, .string ⟨#[83, 116, 111, 112]⟩, .slice none 0 0]))
                    have hbl := Lib.hid HR2.out.below
                    clear hR
                    obtain rfl | rfl | rfl : p = 0 ∨ p = 1 ∨ p = 2 := by omega
                    all_goals (refine wpOp_step rfl (fun K' hK' => ?_); simp only [rgT, List.setIfInBounds_toArray, List.set_cons_zero, List.set_cons_succ]; go_simp; refine hK' _ _ ⟨hbl.out, x1, x2, w.heap.size, g3, ?_, HR2.out⟩; simp only [rgT, List.setIfInBounds_toArray, List.set_cons_zero, List.set_cons_succ])
                  · have hbl := Lib.hid hR.below
                    clear hR
                    obtain rfl | rfl | rfl : p = 0 ∨ p = 1 ∨ p = 2 := by omega
                    all_goals (refine wpOp_step rfl (fun K' hK' => ?_); simp only [rgT, List.setIfInBounds_toArray, List.set_cons_zero, List.set_cons_succ]; go_simp; refine hK' _ _ ⟨hbl.out, x1, x2, g2, g3, ?_, HR.out⟩; simp only [rgT, List.setIfInBounds_toArray, List.set_cons_zero, List.set_cons_succ])
                  · have HR2 := Lib.hid (hR.alloc (rgDat g2 2))
                    have hbl := Lib.hid HR2.out.below
                    clear hR
                    obtain rfl | rfl | rfl : p = 0 ∨ p = 1 ∨ p = 2 := by omega
                    all_goals (refine wpOp_step rfl (fun K' hK' => ?_); simp only [rgT, List.setIfInBounds_toArray, List.set_cons_zero, List.set_cons_succ]; go_simp; refine hK' _ _ ⟨hbl.out, x1, x2, g2, w.heap.size, ?_, HR2.out⟩; simp only [rgT, List.setIfInBounds_toArray, List.set_cons_zero, List.set_cons_succ])
                · rintro a W ⟨x1, x2, g2, g3, ha, hR⟩
                  subst ha
                  simp only [rgT, List.setIfInBounds_toArray, List.set_cons_zero, List.set_cons_succ]
                  have hrow := hR.row _ _ _ rfl
                  have HR := Lib.hid hR
                  have hg3 := hR.obj (g3, rgDat g2 2) (by simp [rgC])
                  have HNR := Lib.hid (dat_news hg3)
                  clear hR hg3
                  refine x_one (i := 8) (by kernel_rfl) rfl (fun K' hK' => ?_)
                  refine step_append_t _ (by rfl) _ _ 22 (by rfl) w8.heap.size 37 i0 (.agg #[.string ⟨#[]⟩, .slice none 0 0]) 2 40 Try.underlying22 HI.out HZ0.out HZ1.out HZ2.out rfl (by decide) x2 n (tabN w8 b off n) (by rfl) hrow ⟨g3, 0, none⟩ 1 1 [.string ⟨#[69, 110, 100, 108, 101, 115, 115]⟩, .slice (some ⟨g2, 0, none⟩) 2 2] (by rfl) rfl HNR.out (by intro u hu; simp at hu; rcases hu with rfl | rfl <;> rfl) (by unfold maxLen; omega) (by omega) HR.out.size ?_
                  intro X9 w9 hown hgrow hloc
                  have HR2 := Lib.hid (HR.out.append hown hgrow hloc)
                  have hBW := HR2.out.below
                  have hf := (hBW.block fb (lt_of HF8.out)).trans HF8.out
                  have hg := HR2.out.obj (g2, rgCon #[.string ⟨#[77, 111, 114, 101]⟩, .slice (some ⟨fb, 0, none⟩) 2 2, .string ⟨#[83, 116, 111, 112]⟩, .slice none 0 0]) (by simp [rgC])
                  have hT := Rg.table HV8.out HN.out (Below.refl _ _) (Nat.le_refl _) HR2.out (cons_y hf hg)
                  obtain ⟨hT, xa, xc, rfl⟩ := hT
                  have HX9 := Lib.hid hT
                  have HB9 := Lib.hid (HB8.out.trans (hBW.mono HB8.out.size))
                  have HV9 := Lib.hid (HV8.out.keep hBW (Nat.le_refl _))
                  have HBW := Lib.hid hBW
                  clear hown hgrow hloc hBW hg hT hrow
                  refine hK'.out _ _ (fun _ => HBW.out) ?_
                  clear hK' K'
                  simp only [List.getElem_toArray, List.getElem_cons_succ, List.getElem_cons_zero, Act.put, List.setIfInBounds_toArray, List.set_cons_zero, List.set_cons_succ]
                  refine x_one (i := 9) (by kernel_rfl) rfl (fun K' hK' => ?_)
                  go_simp
                  refine hK'.out _ _ (fun h => absurd rfl h) ?_
                  clear hK' K'
                  refine x_done (by kernel_rfl) ?_ _
                  have HX := Lib.hid (HX8.out.keep HBW.out (Nat.le_refl _))
                  have hCX := Check_any _ (d ++ [Dt.endX n]) w9 HX.out (sm_app HS.out (by rw [HN.out]; omega) (sm_x (by omega)))
                  have hx7 := Dt.check_endX HE.out (by rw [HN.out]; omega) (by rw [HA.out]) (by rw [HC.out])
                  rw [HN.out] at hx7
                  have hy0 := Dt.check_endY HE.out (by rw [HN.out]; omega) (by rw [HA.out]) (by rw [HC.out]) (by rw [HST.out])
                  rw [HN.out] at hy0
                  rw [hx7] at hCX
                  have HCX := Lib.hid hCX
                  have HY0 := Lib.hid hy0
                  clear hCX hx7 hy0 hf HBW HR HR2 HNR
                  go_wp2_with fail
                  refine HCX.out.mono ?_
                  rintro e w10 ⟨rfl, hb⟩
                  have hCY := Check_any _ (d ++ [Dt.endY n]) w10 (HX9.out.keep hb (Nat.le_refl _)) (sm_app HS.out (by rw [HN.out]; omega) (sm_y (by omega)))
                  rw [HY0.out] at hCY
                  have HCY := Lib.hid hCY
                  have HB10 := Lib.hid (HB9.out.trans (hb.mono HB9.out.size))
                  clear hCY hb
                  go_wp2_with fail
                  refine HCY.out.mono ?_
                  rintro e w11 ⟨rfl, hb⟩
                  have HB11 := Lib.hid (HB10.out.trans (hb.mono HB10.out.size))
                  clear hb
                  go_wp2
                  go_ret
                  exact ⟨rfl, HB11.out⟩
      · have hne : (E == 0) = false := by simpa using hE0
        have hne2 : (E != 0) = true := by simpa using hE0
        clear hE0
        go_wp2_with fail
        refine HCK.out.mono ?_
        rintro e w3 ⟨rfl, hb⟩
        have HB3 := Lib.hid (HB.out.trans (hb.mono HB.out.size))
        clear hb
        go_wp2
        go_ret
        exact ⟨rfl, HB3.out⟩

end Go.Proofs.Ytphlokjhfbfogaa
