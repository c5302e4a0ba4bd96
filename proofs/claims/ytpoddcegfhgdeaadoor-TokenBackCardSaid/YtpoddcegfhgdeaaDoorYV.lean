/- The law TokenBack. -/
import Derived.Test.YtpoddcegfhgdeaaDoorYU
set_option linter.unusedVariables false
set_option linter.unusedSimpArgs false
namespace Go.Proofs.YtpoddcegfhgdeaaDoor
open Go.RowKit

/-- Two scans with the same kinds and texts. -/
theorem twin (x S : ByteArray) (T T2 : List Tk.Tok) (h : T2.map (Tk.pr S.data.toList) = T.map (Tk.pr x.data.toList)) (i : Nat) (h1 : i < T.length) (h2 : i < T2.length) : T2[i].1 = T[i].1 ∧ S.extract T2[i].2.1 T2[i].2.2 = x.extract T[i].2.1 T[i].2.2 := by
  have e : kt S T2 = kt x T := by unfold kt; rw [h]
  have g1 := kt_get x T i (by rw [kt_len]; exact h1) h1
  have g2 := kt_get S T2 i (by rw [kt_len]; exact h2) h2
  have g3 : (kt S T2)[i]'(by rw [kt_len]; exact h2) = (kt x T)[i]'(by rw [kt_len]; exact h1) := by simp only [e]
  rw [g1, g2] at g3
  exact ⟨(Prod.mk.inj g3).1, (Prod.mk.inj g3).2⟩

set_option maxRecDepth 100000 in
set_option maxHeartbeats 51200000 in
theorem back_good (x : ByteArray) (ts : List Tk.Tok) (ns : List (Nat × Nat)) (w : World) (her : Erg w) (hs : ¬ (1000 : Int) < x.size) (hR : Hid (Tk.scanF x.data.toList = .inr (ts, ns))) : Calls Tryd.prog 7 #[.string x] w fun e w' => e = .returned (.bool true) ∧ Below w.heap.size w w' := by
  have hge : 2 < w.heap.size := by obtain ⟨_, _, _, h⟩ := her; exact h
  have HE := Lib.hid her
  obtain ⟨R, hts, hR6, hRl, hJ, R2, hsc2, hpr⟩ := Tk.scan_back x.data.toList (by rw [← Lib.size_eq]; omega) ts ns hR.out
  obtain ⟨S, hS⟩ : ∃ S : ByteArray, S = ⟨(Tk.jn (R.map (Tk.pr x.data.toList))).toArray⟩ := ⟨_, rfl⟩
  have hSd : S.data.toList = Tk.jn (R.map (Tk.pr x.data.toList)) := by rw [hS]
  rw [← hSd] at hsc2 hpr hJ
  rw [← Lib.size_eq] at hsc2 hJ
  have HSD := Lib.hid hSd
  have HSC2 := Lib.hid hsc2
  have HPR := Lib.hid hpr
  have HR6 := Lib.hid hR6
  have HTS := Lib.hid hts
  have HJ : Hid (S.size ≤ 2000) := Lib.hid hJ
  have htw : (R2 ++ [((6 : Nat), S.size, S.size)]).map (Tk.pr S.data.toList) = ts.map (Tk.pr x.data.toList) := by
    rw [hts, List.map_append, List.map_append, hpr]
    congr 1
    simp [Tk.pr, Tk.ext]
  have HTW := Lib.hid (twin x S ts _ htw)
  have hl2 : (R2 ++ [((6 : Nat), S.size, S.size)]).length = ts.length := by have := congrArg List.length htw; rwa [List.length_map, List.length_map] at this
  have hn1 : ts.length = R.length + 1 := by rw [hts, List.length_append]; rfl
  obtain ⟨T2, hT2⟩ : ∃ T, R2 ++ [((6 : Nat), S.size, S.size)] = T := ⟨_, rfl⟩
  obtain ⟨n, hn⟩ : ∃ n, ts.length = n := ⟨_, rfl⟩
  have HT2 : Hid (T2.length = n) := Lib.hid (by rw [← hT2, hl2, hn])
  have HN := Lib.hid hn
  have HN1 : Hid (n = R.length + 1) := Lib.hid (by rw [← hn, hn1])
  have HSC3 : Hid (Tk.scanF S.data.toList = .inr (T2, [])) := Lib.hid (by rw [← hT2]; exact hsc2)
  have hnb : n ≤ 1001 := by omega
  have hn0 : 0 < n := by omega
  rw [hT2] at HTW
  clear her hts hR6 hJ hsc2 hpr hS hSd htw hl2 hn1 hn hRl hT2
  go_enter Tryd.func7, Tryd.ntmps7
  go_wp2_with fail
  refine (awake_any _ HE.out hge).mono ?_
  rintro e w1 ⟨rfl, hb⟩
  have HB := Lib.hid hb
  have HE1 := Lib.hid (HE.out.keep hge hb)
  clear hb
  go_wp2_with fail
  refine (Scan_good x ts ns _ HE1.out (by omega) hR).mono ?_
  rintro e w2 ⟨ta, tc, na, nc, rfl, hsc, hb⟩
  have HB2 := Lib.hid (HB.out.trans (hb.mono HB.out.size))
  rw [HN.out] at hsc ⊢
  have HTR := Lib.hid hsc.1
  have HTR2 : Hid (TokRow w1.heap.size w2 (.slice ta n tc) x (R ++ [(6, x.data.toList.length, x.data.toList.length)])) := Lib.hid (by rw [← HTS.out]; exact hsc.1)
  clear hsc hb
  go_wp2_with fail
  refine (Join_good x S R R2 _ ta tc n _ _ (HE.out.keep hge HB2.out) HTR2.out HN1.out (by omega) rfl HR6 HSD HJ.out HSC2 HPR).mono ?_
  rintro e w3 ⟨rfl, hb⟩
  have HW3 := Lib.hid hb
  have HB3 := Lib.hid (HB2.out.trans (hb.mono HB2.out.size))
  clear hb
  go_wp2_with fail
  refine (Scan_good S T2 [] _ (HE.out.keep hge HB3.out) (by have := HJ.out; omega) HSC3).mono ?_
  rintro e w4 ⟨ta2, tc2, na2, nc2, rfl, hsc, hb⟩
  have HW4 := Lib.hid (HW3.out.trans (hb.mono HW3.out.size))
  have HB4 := Lib.hid (HB3.out.trans (hb.mono HB3.out.size))
  rw [HT2.out] at hsc ⊢
  have HTR4 := Lib.hid hsc.1
  clear hsc hb
  go_wp2
  go_loopw [13] (fun i wr => ∃ k : Nat, k ≤ n ∧ i = .int .i64 k ∧ Hid (Below w4.heap.size w4 wr)) (fun i _ => n - (intOf i).toNat)
  case atStart => exact ⟨0, Nat.zero_le _, rfl, Lib.hid (Below.refl _ _)⟩
  case round =>
    obtain ⟨k, hk, rfl, HW⟩ := hrel
    by_cases hlt : k < n
    · have h1 : k < ts.length := by rw [HN.out]; exact hlt
      have h2 : k < T2.length := by rw [HT2.out]; exact hlt
      obtain ⟨g, cap, hvv, hg, _, c0, c1, c2, c3⟩ := HTR.out.at k h1
      rw [HN.out] at hvv
      cases hvv
      obtain ⟨g2, cap2, hvv, hg2, _, d0, d1, d2, d3⟩ := HTR4.out.at k h2
      rw [HT2.out] at hvv
      cases hvv
      obtain ⟨t1, t2⟩ := HTW.out k h1 h2
      rw [t1] at d0
      rw [t2] at d1
      obtain ⟨X, hX⟩ : ∃ X, x.extract ts[k].2.1 ts[k].2.2 = X := ⟨_, rfl⟩
      obtain ⟨kd, hkd⟩ : ∃ X, ts[k].1 = X := ⟨_, rfl⟩
      rw [hX] at c1 d1
      rw [hkd] at c0 d0
      have HW2 := Lib.hid (HW4.out.trans (HW.out.mono HW4.out.size))
      have a0 := (HW2.out.cell (p := ⟨g, k * 4, none⟩) hg).trans c0
      have a1 := (HW2.out.cell (p := ⟨g, k * 4 + 1, none⟩) hg).trans c1
      have b0 := (HW.out.cell (p := ⟨g2, k * 4, none⟩) hg2).trans d0
      have b1 := (HW.out.cell (p := ⟨g2, k * 4 + 1, none⟩) hg2).trans d1
      have hi1 : (k : Int) < n := by omega
      clear c0 c1 c2 c3 d0 d1 d2 d3 hX hkd h1 h2 t1 t2
      go_wp2
      go_quiet (fail)
      go_wp2
      go_roundw
      case rel => exact ⟨k + 1, by omega, by go_num, Lib.hid (HW.out.trans ((below_drewNg wr _).mono HW.out.size))⟩
      case measure => simp [intOf]; omega
    · obtain rfl : n = k := by omega
      have hnn : ¬ (n : Int) < n := by omega
      go_wp2
      go_ret
      exact ⟨rfl, HB4.out.trans (HW.out.mono HB4.out.size)⟩

set_option maxRecDepth 100000 in
set_option maxHeartbeats 12800000 in
theorem law_TokenBack (x : ByteArray) (w : World) (her : Erg w) : Calls Tryd.prog 7 #[.string x] w fun e w' => e = .returned (.bool true) ∧ Below w.heap.size w w' := by
  by_cases hs : (1000 : Int) < x.size
  · have hge : 2 < w.heap.size := by obtain ⟨_, _, _, h⟩ := her; exact h
    have HE := Lib.hid her
    clear her
    go_enter Tryd.func7, Tryd.ntmps7
    go_wp2_with fail
    refine (awake_any _ HE.out hge).mono ?_
    rintro e w1 ⟨rfl, hb⟩
    have HB := Lib.hid hb
    clear hb
    go_wp2
    go_ret
    exact ⟨rfl, HB.out⟩
  · obtain ⟨R, hR⟩ : ∃ R, Tk.scanF x.data.toList = R := ⟨_, rfl⟩
    cases R with
    | inr q => exact back_good x q.1 q.2 w her hs (Lib.hid hR)
    | inl p =>
      obtain ⟨p1, p2⟩ := p
      have hge : 2 < w.heap.size := by obtain ⟨_, _, _, h⟩ := her; exact h
      have HE := Lib.hid her
      have HRR := Lib.hid hR
      clear her hR
      go_enter Tryd.func7, Tryd.ntmps7
      go_wp2_with fail
      refine (awake_any _ HE.out hge).mono ?_
      rintro e w1 ⟨rfl, hb⟩
      have HB := Lib.hid hb
      have HE1 := Lib.hid (HE.out.keep hge hb)
      clear hb
      go_wp2_with fail
      refine (Scan_any x _ _ HE1.out (by omega) HRR).mono ?_
      rintro e w2 ⟨hb, rfl, hp2⟩
      have HB2 := Lib.hid (HB.out.trans (hb.mono HB.out.size))
      dsimp only at hp2 ⊢
      have h2 : ((p2 : Int) != 0) = true := by simp only [bne_iff_ne, ne_eq]; omega
      clear hb hp2
      go_wp2
      go_ret
      exact ⟨rfl, HB2.out⟩

end Go.Proofs.YtpoddcegfhgdeaaDoor
