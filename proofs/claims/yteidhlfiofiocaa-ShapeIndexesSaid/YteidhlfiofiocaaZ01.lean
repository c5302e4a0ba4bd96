/- The reference's formed. -/
import Derived.Test.YteidhlfiofiocaaZZ
import Derived.Deep.RegionHeld3
import Derived.Deep.Cut
import Derived.Deep.DeepCutAuto
set_option linter.unusedVariables false
set_option linter.unusedSimpArgs false
namespace Go.Proofs.Yteidhlfiofiocaa
open Go.RowKit Go.Shelf

theorem str_lit (u : ByteArray) (k : ByteArray) (l : List UInt8) (h : k.data.toList = l) : Dt.seq u k = (u.toList == l) := by
  unfold Dt.seq; rw [ByteArray.toList_eq k, h]

def Dt.pairs (cs : List ConM) : Bool := match cs with
  | [a, b] => Dt.pairB a Dt.falseN && Dt.pairB b Dt.trueN
  | _ => false
theorem Dt.isBool_pairs (x : DataM) : Dt.isBool x = (Dt.seq x.name Dt.boolN && Dt.pairs x.cons) := rfl

set_option maxRecDepth 100000 in
set_option maxHeartbeats 6400000 in
theorem rFormed_any (v : Value) (d : List DataM) (r : Bool) (w : World) (hv : DsAt w v d) (hd : Sm d) (hr : Hid (Dt.form d = r)) :
    Calls Try.prog 53 #[v] w fun e w' => e = .returned (.bool r) ∧ Below w.heap.size w w' := by
  obtain ⟨ad, cap, rfl⟩ := hv.slice
  obtain ⟨n, hn⟩ : ∃ n, d.length = n := ⟨_, rfl⟩
  have hn100 := hd.1
  rw [hn] at hv hn100 ⊢
  have HN := Lib.hid hn
  have HV := Lib.hid hv
  have HD := Lib.hid hd
  by_cases hn0 : n = 0
  · obtain rfl : r = false := by
      rw [← hr.out]
      have : d = [] := List.length_eq_zero_iff.1 (by omega)
      subst this; rfl
    subst hn0
    clear hn hv hd hr
    go_enter Try.func53, Try.ntmps53
    go_wp2
    go_ret
    exact ⟨rfl, Below.refl _ _⟩
  · have hnz : ((n : Int) == 0) = false := by simp; omega
    have hn0z : (0 : Int) < n := by omega
    obtain ⟨b, off, fa, fc, rfl, hb, c0, c1, hcs⟩ := hv.at 0 (by omega)
    obtain ⟨y, hy⟩ : ∃ y, d[0]'(by omega) = y := ⟨_, rfl⟩
    have HFM : Hid (Dt.form d = (Dt.isBool y && !d.any Dt.badD)) := Lib.hid (by
      subst hy
      cases d with
      | nil => simp at hn; omega
      | cons x l => rfl)
    rw [hy, Nat.zero_mul, Nat.add_zero] at c0 c1
    rw [hy] at hcs
    obtain ⟨nm, hnm⟩ : ∃ nm, y.name = nm := ⟨_, rfl⟩
    obtain ⟨cs, hcse⟩ : ∃ cs, y.cons = cs := ⟨_, rfl⟩
    obtain ⟨m, hm⟩ : ∃ m, cs.length = m := ⟨_, rfl⟩
    rw [hnm] at c0
    rw [hcse, hm] at c1 hcs
    obtain ⟨q, hq⟩ : ∃ q, (nm.toList == [66, 111, 111, 108]) = q := ⟨_, rfl⟩
    have HIB : Hid (Dt.isBool y = (q && Dt.pairs cs)) := Lib.hid (by
      rw [Dt.isBool_pairs, hnm, hcse, ← hq, str_lit nm Dt.boolN [66, 111, 111, 108] rfl])
    have HCS := Lib.hid hcs
    have HM := Lib.hid hm
    cases q with
    | false =>
      obtain rfl : r = false := by rw [← hr.out, HFM.out, HIB.out]; rfl
      clear hn hv hd hr hy hcs hnm hcse hm hn0
      go_enter Try.func53, Try.ntmps53
      go_wp2
      go_ret
      exact ⟨rfl, Below.refl _ _⟩
    | true =>
      by_cases hm2 : m = 2
      · subst hm2
        obtain ⟨a, a2, hcs2⟩ : ∃ a a2, cs = [a, a2] := by
          match cs, hm with
          | [a, a2], _ => exact ⟨a, a2, rfl⟩
        subst hcs2
        obtain ⟨b2, off2, ga, gc, rfl, hb2, e0, e1, hfs⟩ := hcs.at 0 (by simp)
        obtain ⟨b3, off3, ha, hc, hbb, hb3, i0, i1, his⟩ := hcs.at 1 (by simp)
        cases hbb
        have HSA : SmC a := (hd.2 y (by rw [← hy]; exact List.getElem_mem _)).2.2 a (by rw [hcse]; simp)
        have HSB : SmC a2 := (hd.2 y (by rw [← hy]; exact List.getElem_mem _)).2.2 a2 (by rw [hcse]; simp)
        have e0' : w.cell? ⟨b2, off2, none⟩ = some (.string a.name) := by simpa using e0
        have e1' : w.cell? ⟨b2, off2 + 1, none⟩ = some (.slice ga a.fields.length gc) := by simpa using e1
        have i0' : w.cell? ⟨b2, off2 + 2, none⟩ = some (.string a2.name) := by simpa using i0
        have i1' : w.cell? ⟨b2, off2 + 3, none⟩ = some (.slice ha a2.fields.length hc) := by simpa using i1
        obtain ⟨n1, hn1⟩ : ∃ n1, a.name = n1 := ⟨_, rfl⟩
        obtain ⟨n2, hn2⟩ : ∃ n2, a2.name = n2 := ⟨_, rfl⟩
        obtain ⟨f1, hf1⟩ : ∃ f1, a.fields.length = f1 := ⟨_, rfl⟩
        obtain ⟨f2, hf2⟩ : ∃ f2, a2.fields.length = f2 := ⟨_, rfl⟩
        rw [hn1] at e0'
        rw [hf1] at e1'
        rw [hn2] at i0'
        rw [hf2] at i1'
        obtain ⟨q1, hq1⟩ : ∃ q1, (n1.toList == [70, 97, 108, 115, 101]) = q1 := ⟨_, rfl⟩
        obtain ⟨q2, hq2⟩ : ∃ q2, (n2.toList == [84, 114, 117, 101]) = q2 := ⟨_, rfl⟩
        have HRR : Hid (r = (((q1 && !decide (0 < f1)) && (q2 && !decide (0 < f2))) && !d.any Dt.badD)) := Lib.hid (by
          rw [← hr.out, HFM.out, HIB.out, ← hq1, ← hq2]
          simp only [Dt.pairs, Dt.pairB, Dt.hasF, hn1, hn2, hf1, hf2, Bool.true_and]
          rw [str_lit n1 Dt.falseN [70, 97, 108, 115, 101] rfl, str_lit n2 Dt.trueN [84, 114, 117, 101] rfl])
        have HC1 := Lib.hid c1
        clear hn hv hd hr hy hcs hnm hcse hm hn0 hfs his e0 e1 i0 i1 hn1 hn2 hf1 hf2 HSA HSB HFM HIB
        go_enter Try.func53, Try.ntmps53
        go_upto_region 3 with fail
        go_cut [3, 4] (fun s3 s4 wx => ∃ p3 p4 : Nat, s3 = .pointer (some ⟨p3, 0, none⟩) ∧ s4 = .pointer (some ⟨p4, 0, none⟩) ∧ Hid (wx.cell? ⟨p3, 0, none⟩ = some (.string n1)) ∧ Hid (wx.cell? ⟨p3, 1, none⟩ = some (.slice ga f1 gc)) ∧ Hid (wx.cell? ⟨p4, 0, none⟩ = some (.string n2)) ∧ Hid (wx.cell? ⟨p4, 1, none⟩ = some (.slice ha f2 hc)) ∧ Hid (Below w.heap.size w wx))
        · go_wp2
          go_region
          all_goals go_wp2
          all_goals go_meet
          all_goals refine ⟨_, _, rfl, rfl, Lib.hid ?_, Lib.hid ?_, Lib.hid ?_, Lib.hid ?_, Lib.hid ?_⟩
          all_goals first | exact (((Below.refl w.heap.size w).alloc (Nat.le_refl _) _).alloc (by simp) _).drew | (simp [World.cell?]; done) | (simp; done)
        · obtain ⟨p3, p4, rfl, rfl, K0, K1, K2, K3, HBC⟩ := hcut
          have k0 := K0.out
          have k1 := K1.out
          have k2 := K2.out
          have k3 := K3.out
          clear c0 hq e0' e1' i0' i1' c1
          cases q1 with
          | false =>
            have HRE : Hid (r = false) := Lib.hid (by rw [HRR.out]; rfl)
            clear hq2
            go_wp2
            go_ret
            exact ⟨by rw [HRE.out] <;> rfl, HBC.out⟩
          | true =>
            cases q2 with
            | false =>
              have HRE : Hid (r = false) := Lib.hid (by rw [HRR.out]; simp)
              go_wp2
              go_ret
              exact ⟨by rw [HRE.out] <;> rfl, HBC.out⟩
            | true =>
              by_cases g1 : 0 < f1
              · have g2 : (0 : Int) < f1 := by omega
                have HRE : Hid (r = false) := Lib.hid (by rw [HRR.out, decide_eq_true g1]; rfl)
                go_wp2
                go_ret
                exact ⟨by rw [HRE.out] <;> rfl, HBC.out⟩
              · have g2 : ¬ (0 : Int) < f1 := by omega
                by_cases g3 : 0 < f2
                · have g4 : (0 : Int) < f2 := by omega
                  have HRE : Hid (r = false) := Lib.hid (by rw [HRR.out, decide_eq_true g3]; simp)
                  go_wp2
                  go_ret
                  exact ⟨by rw [HRE.out] <;> rfl, HBC.out⟩
                · have g4 : ¬ (0 : Int) < f2 := by omega
                  have HTR : Hid (d.any Dt.badD = true → r = false) := Lib.hid (fun h => by rw [HRR.out, h]; simp)
                  have HFA : Hid (d.any Dt.badD = false → r = true) := Lib.hid (fun h => by rw [HRR.out, h, decide_eq_false g1, decide_eq_false g3]; rfl)
                  have HVC := Lib.hid (HV.out.keep HBC.out (Nat.le_refl _))
                  clear HV HCS HC1
                  go_wp2
                  clear k0 k1 k2 k3 K0 K1 K2 K3 g1 g2 g3 g4 hq1 hq2 hb hb2 hb3
                  go_loop [5] (fun i => ∃ k : Nat, k ≤ n ∧ i = .int .i64 k ∧ Hid (∀ j (h : j < k) (h2 : j < d.length), Dt.badD (d[j]'h2) = false)) (fun i => n - (intOf i).toNat)
                  case atStart => exact ⟨0, Nat.zero_le _, rfl, Lib.hid (fun j h => absurd h (Nat.not_lt_zero _))⟩
                  case round =>
                    obtain ⟨k, hk, rfl, HA⟩ := hrel
                    by_cases hlt : k < n
                    · have hltz : (k : Int) < (n : Int) := by omega
                      have hkd : k < d.length := by rw [HN.out]; exact hlt
                      obtain ⟨b5, off5, fa5, fc5, hae, hb5, c0, c1, hcs⟩ := HVC.out.at k hkd
                      cases hae
                      obtain ⟨y2, hy2⟩ : ∃ y2, d[k] = y2 := ⟨_, rfl⟩
                      rw [hy2] at c0 c1 hcs
                      have HY := Lib.hid hy2
                      have HYM : Hid (y2 ∈ d) := Lib.hid (by rw [← hy2]; exact List.getElem_mem hkd)
                      have hys : SmD y2 := HD.out.2 y2 HYM.out
                      obtain ⟨cs, hcse⟩ : ∃ cs, y2.cons = cs := ⟨_, rfl⟩
                      obtain ⟨nx, hnx⟩ : ∃ nx, y2.name = nx := ⟨_, rfl⟩
                      have HCE := Lib.hid hcse
                      have HNX := Lib.hid hnx
                      have hcl := hys.2.1
                      have hcsm := hys.2.2
                      have hnx1 := hys.1
                      rw [hcse] at c1 hcs hcl hcsm
                      rw [hnx] at c0 hnx1
                      obtain ⟨m, hm⟩ : ∃ m, cs.length = m := ⟨_, rfl⟩
                      rw [hm] at c1 hcs hcl
                      have HM := Lib.hid hm
                      have HCS := Lib.hid hcs
                      have HCSM := Lib.hid hcsm
                      have HBD : Hid (Dt.badD y2 = true → r = false) := Lib.hid (fun h => HTR.out (any_true_of HYM.out h))
                      obtain ⟨o, ho⟩ : ∃ o, Dt.upper nx = o := ⟨_, rfl⟩
                      have HO := Lib.hid ho
                      have HIS := Lib.hid (rIsName_any nx o wc (by omega) HO)
                      clear hys hcse hm hcs hy2 hnx hcsm ho
                      go_wp2_with fail
                      refine HIS.out.mono ?_
                      rintro e w' ⟨rfl, hw⟩
                      rw [hw]
                      clear hw w' HIS
                      cases o with
                      | false =>
                        have HRE : Hid (r = false) := Lib.hid (HBD.out (by rw [Dt.badD, HNX.out, HO.out]; rfl))
                        go_wp2
                        go_ret
                        exact ⟨by rw [HRE.out] <;> rfl, HBC.out⟩
                      | true =>
                        by_cases hm0 : m = 0
                        · have hmz : ((m : Int) == 0) = true := by simp; omega
                          have HRE : Hid (r = false) := Lib.hid (HBD.out (by rw [Dt.badD, HCE.out, HM.out, decide_eq_true hm0]; simp))
                          clear hm0
                          go_wp2
                          go_ret
                          exact ⟨by rw [HRE.out] <;> rfl, HBC.out⟩
                        · have hmz : ((m : Int) == 0) = false := by simp; omega
                          go_wp2
                          clear hmz
                          go_loop [6] (fun i => ∃ s : Nat, s ≤ m ∧ i = .int .i64 s ∧ Hid (∀ j (h : j < s) (h2 : j < cs.length), Dt.badC (cs[j]'h2) = false)) (fun i => m - (intOf i).toNat)
                          case atStart => exact ⟨0, Nat.zero_le _, rfl, Lib.hid (fun j h => absurd h (Nat.not_lt_zero _))⟩
                          case round =>
                            obtain ⟨s, hs, rfl, HB⟩ := hrel
                            by_cases hlt2 : s < m
                            · have hltz2 : (s : Int) < (m : Int) := by omega
                              have hsl : s < cs.length := by rw [HM.out]; exact hlt2
                              obtain ⟨b6, off6, ga6, gc6, rfl, hb6, e0, e1, hfs⟩ := HCS.out.at s hsl
                              obtain ⟨z, hz⟩ : ∃ z, cs[s] = z := ⟨_, rfl⟩
                              rw [hz] at e0
                              have HZ := Lib.hid hz
                              have HZM : Hid (z ∈ cs) := Lib.hid (by rw [← hz]; exact List.getElem_mem hsl)
                              have hzs := (HCSM.out z HZM.out).1
                              obtain ⟨zn, hzn⟩ : ∃ zn, z.name = zn := ⟨_, rfl⟩
                              have HZN := Lib.hid hzn
                              rw [hzn] at e0 hzs
                              obtain ⟨o, ho⟩ : ∃ o, Dt.upper zn = o := ⟨_, rfl⟩
                              have HO2 := Lib.hid ho
                              have HIS := Lib.hid (rIsName_any zn o wc (by omega) HO2)
                              clear hz hzn hfs e1 ho
                              go_wp2_with fail
                              refine HIS.out.mono ?_
                              rintro e w' ⟨rfl, hw⟩
                              rw [hw]
                              clear hw w' HIS
                              cases o with
                              | false =>
                                have HRE : Hid (r = false) := Lib.hid (HBD.out (by
                                  rw [Dt.badD, HCE.out, any_true_of HZM.out (by rw [Dt.badC, HZN.out, HO2.out]; rfl)]; simp))
                                go_wp2
                                go_ret
                                exact ⟨by rw [HRE.out] <;> rfl, HBC.out⟩
                              | true =>
                                go_wp2
                                go_round
                                case rel =>
                                  refine ⟨s + 1, by omega, by go_num, Lib.hid (fun j h h2 => ?_)⟩
                                  by_cases e : j = s
                                  · subst e; rw [HZ.out, Dt.badC, HZN.out, HO2.out]; rfl
                                  · exact HB.out j (by omega) h2
                                case measure => simp [intOf]; omega
                            · obtain rfl : m = s := by omega
                              have hnn : ¬ (m : Int) < m := by omega
                              go_wp2
                              go_round
                              case rel =>
                                refine ⟨k + 1, by omega, by go_num, Lib.hid (fun j h h2 => ?_)⟩
                                by_cases e : j = k
                                · subst e; rw [HY.out, Dt.badD, HNX.out, HO.out, HCE.out, HM.out, decide_eq_false hm0, any_false_of HM.out HB.out]; rfl
                                · exact HA.out j (by omega) h2
                              case measure => simp [intOf]; omega
                    · obtain rfl : n = k := by omega
                      have hnn : ¬ (n : Int) < n := by omega
                      have HRE : Hid (r = true) := Lib.hid (HFA.out (any_false_of HN.out HA.out))
                      go_wp2
                      go_ret
                      exact ⟨by rw [HRE.out] <;> rfl, HBC.out⟩
      · obtain rfl : r = false := by
          rw [← hr.out, HFM.out, HIB.out]
          match cs, hm with
          | [], _ => rfl
          | [a], _ => rfl
          | [a, a2], h => exact absurd h.symm hm2
          | a :: a2 :: a3 :: l, _ => rfl
        have hmz : ((m : Int) == 2) = false := by simp; omega
        clear hn hv hd hr hy hcs hnm hcse hm hn0
        go_enter Try.func53, Try.ntmps53
        go_wp2
        go_ret
        exact ⟨rfl, Below.refl _ _⟩

end Go.Proofs.Yteidhlfiofiocaa
