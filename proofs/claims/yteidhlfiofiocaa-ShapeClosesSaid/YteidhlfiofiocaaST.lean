/- The law ShapeCloses. -/
import Derived.Test.YteidhlfiofiocaaSR
set_option linter.unusedVariables false
set_option linter.unusedSimpArgs false
namespace Go.Proofs.Yteidhlfiofiocaa
open Go.RowKit Go.Shelf

set_option maxRecDepth 100000 in
set_option maxHeartbeats 25600000 in
theorem law_ShapeCloses (v : Value) (d : List DataM) (t : Int) (w : World) (hv : DsAt w v d) (h64 : H64 d) (hl : d.length ≤ maxLen) (ht : In64 t) :
    Calls Try.prog 14 #[v, .int .i64 t] w fun e w' => e = .returned (.bool true) ∧ Below w.heap.size w w' := by
  obtain ⟨ad, cap, hE⟩ := hv.slice
  have HV := Lib.hid hv
  have HT := Lib.hid ht
  obtain ⟨q, hq⟩ : ∃ q, Dt.fewS d = q := ⟨_, rfl⟩
  have HFW : Hid (∀ W : World, DsAt W v d → Calls Try.prog 36 #[v] W fun e w' => e = .returned (.bool q) ∧ w' = W) := Lib.hid fun W h => sFew_any v d q W h hl (Lib.hid hq)
  have HS : Hid (q = true → Sm d) := Lib.hid fun h => Dt.fewS_sm (hq.trans h) h64
  obtain ⟨n, hn⟩ : ∃ n, d.length = n := ⟨_, rfl⟩
  rw [hn] at hE
  have HN := Lib.hid hn
  subst hE
  clear hv h64 ht hq hl hn
  go_enter Try.func14, Try.ntmps14
  go_wp2_with fail
  refine (sawake_any w).mono ?_
  rintro e w1 ⟨rfl, hb⟩
  have HB := Lib.hid hb
  have HV1 := Lib.hid (HV.out.keep hb (Nat.le_refl _))
  clear hb
  cases q with
  | false =>
    go_wp2_with (first | (go_at_call 36; refine (HFW.out w1 HV1.out).mono ?_; rintro e w2 ⟨rfl, hw⟩; rw [hw]; clear hw w2))
    go_ret
    exact ⟨rfl, HB.out⟩
  | true =>
    have HSM := Lib.hid (HS.out rfl)
    have HCK := Lib.hid (Check_any _ d w1 HV1.out HSM.out)
    obtain ⟨E, hE⟩ : ∃ E, Dt.check d = E := ⟨_, rfl⟩
    rw [hE] at HCK
    have HE := Lib.hid hE
    obtain ⟨z, hz⟩ : ∃ z, Dt.ok d t = z := ⟨_, rfl⟩
    have HZ := Lib.hid hz
    clear hE hz
    by_cases h0 : E = 0
    · subst h0
      cases z with
      | false =>
        have hnok : ¬ (0 ≤ t ∧ t ≤ (n : Int)) := by
          intro h
          have : Dt.ok d t = true := by simp [Dt.ok, HN.out, h.1, h.2]
          rw [HZ.out] at this; cases this
        by_cases ht0 : t < 0
        · go_wp2_with (first | (go_at_call 36; refine (HFW.out w1 HV1.out).mono ?_; rintro e w2 ⟨rfl, hw⟩; rw [hw]; clear hw w2) | (go_at_call 17; refine HCK.out.mono ?_; rintro e w5 ⟨rfl, hb⟩; have HB5 := Lib.hid (HB.out.trans (hb.mono HB.out.size)); clear hb))
          go_ret
          exact ⟨rfl, HB5.out⟩
        · have htn : (n : Int) < t := by omega
          go_wp2_with (first | (go_at_call 36; refine (HFW.out w1 HV1.out).mono ?_; rintro e w2 ⟨rfl, hw⟩; rw [hw]; clear hw w2) | (go_at_call 17; refine HCK.out.mono ?_; rintro e w5 ⟨rfl, hb⟩; have HB5 := Lib.hid (HB.out.trans (hb.mono HB.out.size)); clear hb))
          go_ret
          exact ⟨rfl, HB5.out⟩
      | true =>
        obtain ⟨ht1, ht2⟩ := (ok_iff d t).1 HZ.out
        rw [HN.out] at ht2
        have ht0 : ¬ t < 0 := by omega
        have htn : ¬ (n : Int) < t := by omega
        have HTY := Lib.hid (Dt.typed_of_check0 HE.out)
        have HOW : Hid (∀ (W : World) (f : Int), DsAt W (.slice ad n cap) d → In64 f → Calls Try.prog 37 #[.slice ad n cap, .int .i64 f] W fun e w' => (∃ u, e = .returned u ∧ PsAt w' u (Dt.ofM d f)) ∧ Below W.heap.size W w') := Lib.hid fun W f h hf => Of_any _ d f W h HSM.out hf
        have HO1 : Hid (∀ W : World, DsAt W (.slice ad n cap) d → Calls Try.prog 37 #[.slice ad n cap, .int .i64 t] W fun e w' => (∃ u, e = .returned u ∧ PsAt w' u (Dt.places d t)) ∧ Below W.heap.size W w') := Lib.hid fun W h => by
          have h1 := Of_any _ d t W h HSM.out HT.out
          rw [Dt.ofM_good HE.out HZ.out] at h1
          exact h1
        have HIX : Hid (∀ (W : World) (x1 x2 : Int), DsAt W (.slice ad n cap) d → In64 x1 → In64 x2 → Calls Try.prog 41 #[.slice ad n cap, .int .i64 t, .agg #[.int .i64 x1, .int .i64 x2]] W fun e w' => e = .returned (.int .i64 (Dt.pidx (x1, x2) (Dt.places d t))) ∧ Below W.heap.size W w') := Lib.hid fun W x1 x2 h a b => by
          have h1 := Index_any _ d t (x1, x2) W h HSM.out HT.out a b
          rw [Dt.ofM_good HE.out HZ.out] at h1
          exact h1
        have HIN : Hid (∀ (W : World) (f : Int), DsAt W (.slice ad n cap) d → In64 f → Calls Try.prog 43 #[.slice ad n cap, .int .i64 t, .int .i64 f] W fun e w' => (∃ u, e = .returned (.tuple #[u, .int .i64 (Dt.insE d t f)]) ∧ FsAt w' u (Dt.insL d t f)) ∧ Below W.heap.size W w') := Lib.hid fun W f h hf => Inside_any _ d t f W h HSM.out HT.out hf
        have HPM : Hid (∀ p ∈ Dt.places d t, p.1 ∈ Dt.contents d t ∧ 0 ≤ p.2 ∧ p.2 < (Dt.consOf d p.1).length) := Lib.hid (fun p hp => Dt.mem_places.1 hp)
        have HMP : Hid (∀ x k : Int, x ∈ Dt.contents d t → 0 ≤ k → k < (Dt.consOf d x).length → 0 ≤ Dt.pidx (x, k) (Dt.places d t)) := Lib.hid (fun x k h1 h2 h3 => by
          have h4 : (x, k) ∈ Dt.places d t := Dt.mem_places.2 ⟨h1, h2, h3⟩
          obtain ⟨i, _, e, _⟩ := Dt.pidx_mem h4
          rw [e]; omega)
        have HFI : Hid (∀ x f : Int, x ∈ Dt.contents d t → f ∈ Dt.fieldsOf d x → Dt.insE d t f = 0 ∧ (Dt.insL d t f).length = (Dt.ofM d f).length) := Lib.hid (fun x f h1 h2 => by
          have hok := Dt.typed_fields HTY.out h2
          have e1 : Dt.insE d t f = 0 := by rw [Dt.insE_good HE.out HZ.out hok, if_pos (Dt.inAll_field HSM.out h1 h2)]
          refine ⟨e1, ?_⟩
          unfold Dt.insL
          rw [if_pos e1, Dt.inList_length, Dt.ofM_good HE.out hok])
        have hlen := Dt.places_few HSM.out t
        obtain ⟨L, hL⟩ : ∃ L, Dt.places d t = L := ⟨_, rfl⟩
        rw [hL] at HO1 HIX HPM HMP hlen
        obtain ⟨m, hm⟩ : ∃ m, L.length = m := ⟨_, rfl⟩
        rw [hm] at hlen
        have HM := Lib.hid hm
        clear hL hm ht1 ht2
        go_wp2_with (first | (go_at_call 36; refine (HFW.out w1 HV1.out).mono ?_; rintro e w2 ⟨rfl, hw⟩; rw [hw]; clear hw w2) | (go_at_call 17; refine HCK.out.mono ?_; rintro e w5 ⟨rfl, hb⟩; have HB5 := Lib.hid (HB.out.trans (hb.mono HB.out.size)); have HV5 := Lib.hid (HV1.out.keep hb (Nat.le_refl _)); clear hb) | (go_at_call 37; refine (HO1.out w5 HV5.out).mono ?_; rintro e w3 ⟨⟨u, rfl, hu⟩, hb⟩; refine hold ?_))
        obtain ⟨ua, uc, rfl⟩ := hu.slice
        rw [HM.out] at hu ⊢
        have HU := Lib.hid hu
        have HB3 := Lib.hid (HB5.out.trans (hb.mono HB5.out.size))
        have HV3 := Lib.hid (HV5.out.keep hb (Nat.le_refl _))
        clear hu hb HV5 HV1 HCK HFW
        refine go_on ?_
        go_wp2
        go_loopw [6] (fun i wr => ∃ c : Nat, c ≤ m ∧ i = .int .i64 c ∧ Hid (Below w3.heap.size w3 wr)) (fun i _ => m - (intOf i).toNat)
        case atStart => exact ⟨0, Nat.zero_le _, rfl, Lib.hid (Below.refl _ _)⟩
        case round =>
          obtain ⟨c, hc, rfl, HBR⟩ := hrel
          by_cases hlt : c < m
          · have hltz : (c : Int) < (m : Int) := by omega
            have hcl : c < L.length := by rw [HM.out]; exact hlt
            obtain ⟨pb, po, rfl, hpb, p0, p1⟩ := HU.out.at c hcl
            obtain ⟨x1, x2, hx⟩ : ∃ x1 x2, L[c] = (x1, x2) := ⟨_, _, rfl⟩
            obtain ⟨h1, h2, h3⟩ := HPM.out L[c] (List.getElem_mem hcl)
            rw [hx] at p0 p1 h1 h2 h3
            dsimp only at p0 p1 h1 h2 h3
            have hnf := Dt.contents_nf h1
            have hxok := Dt.nf_ok hnf
            have hx0 : x1 ≠ 0 := by intro h; subst h; simp [Dt.nf, Dt.consOf] at hnf
            obtain ⟨p, y, b, off, fa, fc, hxp, hpd, hy, hcons, _, hade, hb, c0, c1, hcs⟩ := typ_at HV3.out hxok hx0
            subst hade
            rw [HN.out] at hpd
            have hn100 : n ≤ 100 := by rw [← HN.out]; exact HSM.out.1
            have hpn : (p : Int) < n := by omega
            have hpb2 : p ≤ 100000 := by omega
            obtain ⟨cs, hcse⟩ : ∃ cs, y.cons = cs := ⟨_, rfl⟩
            rw [hcse] at c1 hcs hcons
            have hys : SmD y := HSM.out.2 y (List.mem_of_getElem? hy)
            have hql : cs.length ≤ 100 := by rw [← hcse]; exact hys.2.1
            have hsc : ∀ c ∈ cs, SmC c := by rw [← hcse]; exact hys.2.2
            obtain ⟨q, hq⟩ : ∃ q, cs.length = q := ⟨_, rfl⟩
            rw [hcons] at h3
            rw [hq] at c1 hcs hql h3
            obtain ⟨j, hj⟩ : ∃ j : Nat, x2 = j := ⟨x2.toNat, by omega⟩
            subst hj
            have hjq : j < q := by omega
            have hjl : j < cs.length := by rw [hq]; exact hjq
            obtain ⟨b2, off2, ga, gc, rfl, hb2, e0, e1, hfs⟩ := hcs.at j hjl
            obtain ⟨fl, hfl⟩ : ∃ fl, cs[j].fields = fl := ⟨_, rfl⟩
            have hflm : ∀ f ∈ fl, f ∈ Dt.fieldsOf d x1 ∧ In64 f := fun f hf => ⟨by
              unfold Dt.fieldsOf
              rw [hcons]
              exact List.mem_flatMap.2 ⟨cs[j], List.getElem_mem hjl, by rw [hfl]; exact hf⟩, (hsc _ (List.getElem_mem hjl)).2.2 f (by rw [hfl]; exact hf)⟩
            have hfl1 := (hsc _ (List.getElem_mem hjl)).2.1
            rw [hfl] at e1 hfs hfl1
            obtain ⟨g, hg⟩ : ∃ g, fl.length = g := ⟨_, rfl⟩
            rw [hg] at e1 hfs hfl1
            have HG := Lib.hid hg
            have HFM := Lib.hid hflm
            have HFS := Lib.hid hfs
            have HPC := Lib.hid (And.intro p0 (And.intro p1 hpb))
            have HE1 := Lib.hid (And.intro e1 hb2)
            have HXM := Lib.hid h1
            have HX64 : Hid (In64 x1) := Lib.hid (by unfold In64; omega)
            have HCL : Hid ((Dt.consOf d x1).length = q) := Lib.hid (by rw [hcons, hq])
            have r0 := (HBR.out.cell (p := ⟨pb, po + c * 2, none⟩) hpb).trans p0
            have r1 := (HBR.out.cell (p := ⟨b, off + p * 2 + 1, none⟩) hb).trans c1
            have hw1 : wrap64 (x1 - 1) = p := by rw [hxp, show (p : Int) + 1 - 1 = p from Int.add_sub_cancel _ _]; exact wrap_k p hpb2
            have hw2 : IntKind.i64.wrap (x1 - 1) = p := by rw [hxp, show (p : Int) + 1 - 1 = p from Int.add_sub_cancel _ _]; exact wrap_k' p hpb2
            clear hx h1 h2 h3 hnf hxok hx0 hxp hy hcons hcse hys hsc hq hfl hflm hg hfs p0 p1 e0 e1 c0 c1 hcs hcl hjl
            go_wp2
            clear r0 r1 hw1 hw2
            go_loopw [8] (fun i wr => ∃ k : Nat, k ≤ q ∧ i = .int .i64 k ∧ Hid (Below w3.heap.size w3 wr)) (fun i _ => q - (intOf i).toNat)
            case atStart => exact ⟨0, Nat.zero_le _, rfl, HBR⟩
            case round =>
              obtain ⟨k, hk, rfl, HBK⟩ := hrel
              by_cases hkl : k < q
              · have hkz : (k : Int) < (q : Int) := by omega
                have r0 := (HBK.out.cell (p := ⟨pb, po + c * 2, none⟩) HPC.out.2.2).trans HPC.out.1
                have HIC := Lib.hid (HIX.out wr x1 k (HV3.out.keep HBK.out (Nat.le_refl _)) HX64.out (by unfold In64; omega))
                have hge := HMP.out x1 k HXM.out (by omega) (by rw [HCL.out]; omega)
                generalize Dt.pidx (x1, (k : Int)) L = pz at HIC hge
                have hge2 : ¬ pz < 0 := by omega
                go_wp2_with fail
                refine HIC.out.mono ?_
                rintro e w4 ⟨rfl, hb⟩
                have HB4 := Lib.hid (HBK.out.trans (hb.mono HBK.out.size))
                clear hb HIC r0
                go_wp2
                go_roundw
                case rel => exact ⟨k + 1, by omega, by go_num, HB4⟩
                case measure => simp [intOf]; omega
              · obtain rfl : q = k := by omega
                have hnn : ¬ (q : Int) < q := by omega
                have hjz : (j : Int) < (q : Int) := by omega
                have hj0 : (0 : Int) ≤ j := by omega
                have r0 := (HBK.out.cell (p := ⟨pb, po + c * 2 + 1, none⟩) HPC.out.2.2).trans HPC.out.2.1
                have r1 := (HBK.out.cell (p := ⟨b2, off2 + j * 2 + 1, none⟩) HE1.out.2).trans HE1.out.1
                go_wp2
                clear r0 r1
                go_loopw [10] (fun i wr => ∃ r : Nat, r ≤ g ∧ i = .int .i64 r ∧ Hid (Below w3.heap.size w3 wr)) (fun i _ => g - (intOf i).toNat)
                case atStart => exact ⟨0, Nat.zero_le _, rfl, HBK⟩
                case round =>
                  obtain ⟨r, hr, rfl, HBL⟩ := hrel
                  by_cases hrl : r < g
                  · have hrz : (r : Int) < (g : Int) := by omega
                    have hrf : r < fl.length := by rw [HG.out]; exact hrl
                    obtain ⟨b3, off3, rfl, hb3, s0⟩ := (HFS.out.keep HBL.out (Nat.le_refl _)).at r hrf
                    obtain ⟨f, hfe⟩ : ∃ f, fl[r] = f := ⟨_, rfl⟩
                    rw [hfe] at s0
                    obtain ⟨hfm, hf64⟩ := HFM.out f (by rw [← hfe]; exact List.getElem_mem hrf)
                    have HVL := Lib.hid (HV3.out.keep HBL.out (Nat.le_refl _))
                    have HIC := Lib.hid (HIN.out wr f HVL.out hf64)
                    obtain ⟨i1, i2⟩ := HFI.out x1 f HXM.out hfm
                    rw [i1] at HIC
                    have HI2 := Lib.hid i2
                    have HOF := Lib.hid (fun W (h : DsAt W (.slice (some ⟨b, off, none⟩) n cap) d) => HOW.out W f h hf64)
                    have HS0 := Lib.hid (And.intro s0 hb3)
                    clear hfe hfm hf64 hrf i1 i2
                    go_wp2_with fail
                    refine HIC.out.mono ?_
                    rintro e w4 ⟨⟨u, rfl, hu⟩, hb⟩
                    have HB4 := Lib.hid (HBL.out.trans (hb.mono HBL.out.size))
                    have HV4 := Lib.hid (HVL.out.keep hb (Nat.le_refl _))
                    have s4 := (hb.cell (p := ⟨b3, off3 + r, none⟩) HS0.out.2).trans HS0.out.1
                    obtain ⟨a4, c4, hEu⟩ := hu.slice
                    rw [HI2.out] at hEu
                    obtain ⟨nu, hnu⟩ : ∃ nu, (Dt.ofM d f).length = nu := ⟨_, rfl⟩
                    rw [hnu] at hEu
                    subst hEu
                    have HNU := Lib.hid hnu
                    have HO4 := Lib.hid (HOF.out w4 HV4.out)
                    clear hu hb HIC s0 hnu
                    go_wp2_with (first | (go_at_call 37; refine HO4.out.mono ?_; rintro e w6 ⟨⟨u, rfl, hu⟩, hb⟩; obtain ⟨a6, c6, rfl⟩ := hu.slice; rw [HNU.out]; have HB6 := Lib.hid (HB4.out.trans (hb.mono HB4.out.size)); clear hu hb))
                    clear s4
                    go_roundw
                    case rel => exact ⟨r + 1, by omega, by go_num, HB6⟩
                    case measure => simp [intOf]; omega
                  · obtain rfl : g = r := by omega
                    have hnn2 : ¬ (g : Int) < g := by omega
                    go_wp2
                    go_roundw
                    case rel => exact ⟨c + 1, by omega, by go_num, HBL⟩
                    case measure => simp [intOf]; omega
          · obtain rfl : m = c := by omega
            have hnn : ¬ (m : Int) < m := by omega
            have HBF := Lib.hid (HB3.out.trans (HBR.out.mono HB3.out.size))
            go_wp2
            go_ret
            exact ⟨rfl, HBF.out⟩
    · have hne : (E == 0) = false := by simpa using h0
      have hne2 : (E != 0) = true := by simpa using h0
      clear h0
      go_wp2_with (first | (go_at_call 36; refine (HFW.out w1 HV1.out).mono ?_; rintro e w2 ⟨rfl, hw⟩; rw [hw]; clear hw w2) | (go_at_call 17; refine HCK.out.mono ?_; rintro e w5 ⟨rfl, hb⟩; have HB5 := Lib.hid (HB.out.trans (hb.mono HB.out.size)); clear hb))
      go_ret
      exact ⟨rfl, HB5.out⟩

end Go.Proofs.Yteidhlfiofiocaa
