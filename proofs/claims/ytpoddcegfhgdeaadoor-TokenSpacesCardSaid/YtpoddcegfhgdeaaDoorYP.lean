/- The law TokenSpaces. -/
import Derived.Deep.RegionHeld3
import Derived.Test.YtpoddcegfhgdeaaDoorYH
import Derived.Test.YtpoddcegfhgdeaaDoorYM
import Derived.Test.YtpoddcegfhgdeaaDoorYO
set_option linter.unusedVariables false
set_option linter.unusedSimpArgs false
namespace Go.Proofs.YtpoddcegfhgdeaaDoor
open Go.RowKit

/-- No token begins beyond the end. -/
theorem scan_below (l : List UInt8) : ∀ (f o : Nat) (ts : List Tk.Tok) (ns : List (Nat × Nat)) (T : List Tk.Tok) (N : List (Nat × Nat)), o ≤ l.length → (∀ t ∈ ts, t.2.1 ≤ l.length) → Tk.scanL l f o ts ns = .inr (T, N) → ∀ t ∈ T, t.2.1 ≤ l.length
  | 0, o, ts, ns, T, N, _, _, h => by cases h
  | f + 1, o, ts, ns, T, N, ho, hts, h => by
    by_cases hlt : o < l.length
    · have hg := good_step l ts o hlt
      rw [Tk.scanL, if_pos hlt] at h
      revert h hg
      cases Tk.stepF l ts o with
      | bad e => intro h _; cases h
      | sp b => exact fun h hg => scan_below l f b ts ns T N hg.2 hts h
      | note b => exact fun h hg => scan_below l f b ts _ T N hg.2 hts h
      | tok k b =>
        refine fun h hg => scan_below l f b _ ns T N hg.2 ?_ h
        intro t ht
        rcases List.mem_append.1 ht with ht | ht
        · exact hts t ht
        · rw [List.mem_singleton.1 ht]; exact ho
    · rw [Tk.scanL, if_neg hlt] at h
      cases h
      intro t ht
      rcases List.mem_append.1 ht with ht | ht
      · exact hts t ht
      · rw [List.mem_singleton.1 ht]; exact ho
theorem scanF_in (l : List UInt8) (T : List Tk.Tok) (N : List (Nat × Nat)) (h : Tk.scanF l = .inr (T, N)) : ∀ t ∈ T, t.2.1 ≤ l.length := by
  unfold Tk.scanF at h
  split at h
  · cases h
  · split at h
    · cases h
    · exact scan_below l _ 0 [] [] T N (Nat.zero_le _) (fun t ht => by cases ht) h

/-- What the law knows of the second scan. -/
structure Moved (x F : ByteArray) (ts ts2 : List Tk.Tok) (at_ : Nat) : Prop where
  len : ts2.length = ts.length
  kind : ∀ (i : Nat) (h : i < ts.length) (h2 : i < ts2.length), ts2[i].1 = ts[i].1
  text : ∀ (i : Nat) (h : i < ts.length) (h2 : i < ts2.length), F.extract ts2[i].2.1 ts2[i].2.2 = x.extract ts[i].2.1 ts[i].2.2
  hi : ∀ (i : Nat) (h : i < ts.length) (h2 : i < ts2.length), at_ ≤ ts[i].2.1 → ts2[i].2.1 = ts[i].2.1 + 14
  lo : ∀ (i : Nat) (h : i < ts.length) (h2 : i < ts2.length), ts[i].2.1 < at_ → ts2[i].2.1 = ts[i].2.1

theorem moved (x F : ByteArray) (ts : List Tk.Tok) (ns : List (Nat × Nat)) (at_ : Nat) (hx : x.size ≤ 1000) (h : Tk.scanF x.data.toList = .inr (ts, ns)) (hat : ∃ t ∈ ts, t.2.1 = at_)
    (hF : F.data.toList = x.data.toList.take at_ ++ (Tk.cl ++ x.data.toList.drop at_)) : ∃ ts2 ns2, Moved x F ts ts2 at_ ∧ ns2.length = ns.length + 1 ∧ Tk.scanF F.data.toList = .inr (ts2, ns2) := by
  have hle : at_ ≤ x.data.toList.length := by
    obtain ⟨t, ht, rfl⟩ := hat
    exact scanF_in _ _ _ h t ht
  obtain ⟨g1, N', g2, g3⟩ := Tk.scan_spaces x.data.toList (by rw [← Lib.size_eq]; exact hx) ts ns h at_ hle hat
  have hxl : (x.data.toList.take at_).length = at_ := by rw [List.length_take]; omega
  refine ⟨_, N', ⟨List.length_map _, ?_, ?_, ?_, ?_⟩, g2, by rw [hF]; exact g3⟩
  · intro i h1 h2
    rw [List.getElem_map]
    unfold Tk.mv
    split <;> rfl
  · intro i h1 h2
    rw [List.getElem_map]
    apply ByteArray.ext
    apply Array.toList_inj.1
    rw [ext_at, ext_at, hF]
    rcases g1 _ (List.getElem_mem h1) with hh | ⟨hh, hh2⟩
    · unfold Tk.mv
      rw [if_pos hh]
      have := Tk.ext_hi (x.data.toList.take at_) (x.data.toList.drop at_) ts[i].2.1 ts[i].2.2 (by rw [hxl]; exact hh)
      rw [List.take_append_drop] at this
      exact this
    · unfold Tk.mv
      rw [if_neg (by omega), Tk.ext_lo _ _ _ _ (by rw [hxl]; exact hh2)]
      have := Tk.ext_lo (x.data.toList.take at_) (x.data.toList.drop at_) ts[i].2.1 ts[i].2.2 (by rw [hxl]; exact hh2)
      rw [List.take_append_drop] at this
      exact this.symm
  · intro i h1 h2 hh
    rw [List.getElem_map]
    unfold Tk.mv
    rw [if_pos hh]
    rfl
  · intro i h1 h2 hh
    rw [List.getElem_map]
    unfold Tk.mv
    rw [if_neg (by omega)]

def noteLine : ByteArray := ⟨#[10, 32, 45, 45, 32, 97, 32, 34, 110, 111, 116, 101, 34, 10]⟩

set_option maxRecDepth 100000 in
set_option maxHeartbeats 51200000 in
theorem spaces_good (x : ByteArray) (v : Int) (hv : 0 ≤ v ∧ v ≤ 255) (ts : List Tk.Tok) (ns : List (Nat × Nat)) (w : World) (her : Erg w) (hs : ¬ (1000 : Int) < x.size) (hR : Hid (Tk.scanF x.data.toList = .inr (ts, ns))) : Calls Tryd.prog 8 #[.string x, .int .u8 v] w fun e w' => e = .returned (.bool true) ∧ Below w.heap.size w w' := by
  have hge : 2 < w.heap.size := by obtain ⟨_, _, _, h⟩ := her; exact h
  have HE := Lib.hid her
  have HC0 := Lib.hid (cov_start hR.out)
  have hv0 := hv.1
  have hv1 := hv.2
  clear her hv
  go_enter Tryd.func8, Tryd.ntmps8
  go_wp2_with fail
  refine (awake_any _ HE.out hge).mono ?_
  rintro e w1 ⟨rfl, hb⟩
  have HB := Lib.hid hb
  have HE1 := Lib.hid (HE.out.keep hge hb)
  clear hb
  go_wp2_with fail
  refine (Scan_good x ts ns _ HE1.out (by omega) hR).mono ?_
  rintro e w2 ⟨ta, tc, na, nc, rfl, hsc, hb⟩
  have HB2 := Lib.hid (HB.out.trans (hb.mono HB.out.size))
  obtain ⟨n, hn⟩ : ∃ n, ts.length = n := ⟨_, rfl⟩
  obtain ⟨m, hm⟩ : ∃ m, ns.length = m := ⟨_, rfl⟩
  obtain ⟨⟨hpos, -⟩, -⟩ := HC0.out.rest
  rw [hn, hm] at hsc ⊢
  rw [hn] at hpos
  have HTR := Lib.hid hsc.1
  have HNR := Lib.hid hsc.2
  have HN := Lib.hid hn
  have HM := Lib.hid hm
  have hn64 : n ≤ maxLen := by rw [← hn]; exact own_len hsc.1
  have hm64 : m ≤ maxLen := by rw [← hm]; exact own_len hsc.2
  unfold maxLen at hn64 hm64
  obtain ⟨q, hq0⟩ : ∃ q : Nat, v.tmod n = q := ⟨(v.tmod n).toNat, by have := Int.tmod_nonneg (n : Int) hv0; omega⟩
  have hqn : q < n := by have := Int.tmod_lt_of_pos v (show (0 : Int) < n by omega); omega
  have hqt : q < ts.length := by rw [hn]; exact hqn
  obtain ⟨g, cap, hvv, hg, _, c0, c1, c2, c3⟩ := HTR.out.at q hqt
  rw [HN.out] at hvv
  cases hvv
  obtain ⟨p, hp⟩ : ∃ p, ts[q].2.1 = p := ⟨_, rfl⟩
  have hat : ∃ t ∈ ts, t.2.1 = p := ⟨ts[q], List.getElem_mem hqt, hp⟩
  have hple : p ≤ x.size := by rw [Lib.size_eq, ← hp]; exact scanF_in _ _ _ hR.out _ (List.getElem_mem hqt)
  rw [hp] at c2
  obtain ⟨A1, hA1⟩ : ∃ F, x.extract 0 p = F := ⟨_, rfl⟩
  obtain ⟨A2, hA2⟩ : ∃ F, x.extract p x.size = F := ⟨_, rfl⟩
  obtain ⟨F1, hF1⟩ : ∃ F, A1 ++ noteLine = F := ⟨_, rfl⟩
  obtain ⟨F2, hF2⟩ : ∃ F, F1 ++ A2 = F := ⟨_, rfl⟩
  have a1s : A1.size ≤ 1000 := by rw [← hA1, ByteArray.size_extract]; omega
  have a2s : A2.size ≤ 1000 := by rw [← hA2, ByteArray.size_extract]; omega
  have hF1s : F1.size ≤ 1014 := by rw [← hF1, ByteArray.size_append]; have : noteLine.size = 14 := rfl; omega
  have HF2s : Hid (F2.size ≤ 3000) := Lib.hid (by rw [← hF2, ByteArray.size_append]; omega)
  have k1 : ∀ W : World, (Op.stringOp .add A1 ⟨#[10, 32, 45, 45, 32, 97, 32, 34, 110, 111, 116, 101, 34, 10]⟩).run Tryd.prog W = .ok (.string F1) W := fun W => by rw [← hF1]; exact run_string_add W _ _ (by omega) (by decide)
  have k2 : ∀ W : World, (Op.stringOp .add F1 A2).run Tryd.prog W = .ok (.string F2) W := fun W => by rw [← hF2]; exact run_string_add W _ _ (by omega) (by omega)
  have hF2d : F2.data.toList = x.data.toList.take p ++ (Tk.cl ++ x.data.toList.drop p) := by
    rw [← hF2, cat_data, ← hF1, cat_data, ← hA1, ← hA2, drop_ext x p hple, Lib.extract_data, List.append_assoc]
    rfl
  obtain ⟨ts2, ns2, hmv, hn2, hsc2⟩ := moved x F2 ts ns p (by omega) hR.out hat hF2d
  have HMV := Lib.hid hmv
  have HSC2 := Lib.hid hsc2
  have HN2 : Hid (ns2.length = m + 1) := Lib.hid (by rw [hn2, hm])
  have HT2 : Hid (ts2.length = n) := Lib.hid (by rw [hmv.len, hn])
  have e0 : ((n : Int) == 0) = false := by rw [beq_eq_false_iff_ne]; omega
  have q1 : (q : Int) < n := by omega
  have q2 : (p : Int) ≤ x.size := by omega
  have hdiv : ¬ (n : Int) = 0 := by omega
  clear hsc hb hn hm hpos hmv hsc2 hn2 hF2d hat hp c0 c1 c3 hF1 hF2 a1s a2s hF1s HC0 hqt
  go_wp2_with fail
  go_region_held3 (fun w' => w'.cell? ⟨g, q * 4 + 2, none⟩ = some (.int .i64 (p : Int))) (first | ((try dsimp only); with_reducible assumption) | go_keep) ((go_at_call 11; refine (Scan_good F2 ts2 ns2 _ (by first | exact HE.out.keep hge HB2.out | exact HE.out.keep hge HB2.out.drew | exact HE.out.keep hge (HB2.out.trans ((below_drewNg w2 _).mono HB2.out.size))) (by have := HF2s.out; omega) HSC2).mono ?_; rintro e w3 ⟨ta2, tc2, na2, nc2, rfl, hsc, hb⟩; have c2' := (hb.cell (p := ⟨g, q * 4 + 2, none⟩) hg).trans c2))
  have HB3 := Lib.hid (HB2.out.drew.trans (hb.mono HB2.out.size))
  have HW3 : Hid (Below w2.heap.size w2 w3) := Lib.hid ((Below.refl w2.heap.size w2).drew.trans hb)
  rw [HT2.out, HN2.out] at hsc ⊢
  have HTR2 := Lib.hid hsc.1
  have hm65 : ns2.length ≤ maxLen := own_len hsc.2
  rw [HN2.out] at hm65
  unfold maxLen at hm65
  have hmm : (((m + 1 : Nat) : Int) != (m : Int) + 1) = false := by simp
  have hw2 : Hid (w2.heap.size ≤ w3.heap.size) := Lib.hid HW3.out.size
  clear hsc hb c2 c2' k1 k2
  go_wp2
  clear hmm
  go_loopw [14] (fun i wr => ∃ k : Nat, k ≤ n ∧ i = .int .i64 k ∧ Hid (Below w3.heap.size w3 wr)) (fun i _ => n - (intOf i).toNat)
  case atStart => exact ⟨0, Nat.zero_le _, rfl, Lib.hid (Below.refl _ _)⟩
  case round =>
    obtain ⟨k, hk, rfl, HW⟩ := hrel
    by_cases hlt : k < n
    · have h1 : k < ts.length := by rw [HN.out]; exact hlt
      have h2 : k < ts2.length := by rw [HT2.out]; exact hlt
      obtain ⟨g', cap', hvv, hg', _, c0, c1, c2, c3⟩ := HTR.out.at k h1
      rw [HN.out] at hvv
      cases hvv
      obtain ⟨g2, cap2, hvv, hg2, _, d0, d1, d2, d3⟩ := HTR2.out.at k h2
      rw [HT2.out] at hvv
      cases hvv
      rw [HMV.out.kind k h1 h2] at d0
      rw [HMV.out.text k h1 h2] at d1
      obtain ⟨X, hX⟩ : ∃ X, x.extract ts[k].2.1 ts[k].2.2 = X := ⟨_, rfl⟩
      obtain ⟨kd, hkd⟩ : ∃ X, ts[k].1 = X := ⟨_, rfl⟩
      obtain ⟨fr, hfr⟩ : ∃ X, ts[k].2.1 = X := ⟨_, rfl⟩
      have hmhi := HMV.out.hi k h1 h2
      have hmlo := HMV.out.lo k h1 h2
      rw [hX] at c1 d1
      rw [hkd] at c0 d0
      rw [hfr] at c2 hmhi hmlo
      have HW2 := Lib.hid (HW3.out.trans (HW.out.mono HW3.out.size))
      have a0 := (HW2.out.cell (p := ⟨g, k * 4, none⟩) hg).trans c0
      have a1 := (HW2.out.cell (p := ⟨g, k * 4 + 1, none⟩) hg).trans c1
      have a2 := (HW2.out.cell (p := ⟨g, k * 4 + 2, none⟩) hg).trans c2
      have b0 := (HW.out.cell (p := ⟨g2, k * 4, none⟩) hg2).trans d0
      have b1 := (HW.out.cell (p := ⟨g2, k * 4 + 1, none⟩) hg2).trans d1
      have b2 := (HW.out.cell (p := ⟨g2, k * 4 + 2, none⟩) hg2).trans d2
      have hi1 : (k : Int) < n := by omega
      have hfrx : fr ≤ x.size := by rw [Lib.size_eq, ← hfr]; exact scanF_in _ _ _ hR.out _ (List.getElem_mem h1)
      by_cases hpf : p ≤ fr
      · rw [hmhi hpf] at b2
        have hge1 : (p : Int) ≤ fr := by omega
        have hne : (((fr + 14 : Nat) : Int) != (fr : Int) + 14) = false := by simp
        clear c0 c1 c2 c3 d0 d1 d2 d3 hX hkd hfr hmhi hmlo h1 h2 hpf
        go_wp2
        go_quiet (fail)
        go_wp2
        go_roundw
        case rel => exact ⟨k + 1, by omega, by go_num, Lib.hid (HW.out.trans ((below_drewNg wr _).mono HW.out.size))⟩
        case measure => simp [intOf]; omega
      · rw [hmlo (by omega)] at b2
        have hge1 : ¬ (p : Int) ≤ fr := by omega
        clear c0 c1 c2 c3 d0 d1 d2 d3 hX hkd hfr hmhi hmlo h1 h2 hpf
        go_wp2
        go_quiet (fail)
        go_wp2
        go_roundw
        case rel => exact ⟨k + 1, by omega, by go_num, Lib.hid (HW.out.trans ((below_drewNg wr _).mono HW.out.size))⟩
        case measure => simp [intOf]; omega
    · obtain rfl : n = k := by omega
      have hnn : ¬ (n : Int) < n := by omega
      go_wp2
      go_ret
      exact ⟨rfl, HB3.out.trans (HW.out.mono HB3.out.size)⟩

set_option maxRecDepth 100000 in
set_option maxHeartbeats 12800000 in
theorem law_TokenSpaces (x : ByteArray) (v : Int) (hv : 0 ≤ v ∧ v ≤ 255) (w : World) (her : Erg w) : Calls Tryd.prog 8 #[.string x, .int .u8 v] w fun e w' => e = .returned (.bool true) ∧ Below w.heap.size w w' := by
  by_cases hs : (1000 : Int) < x.size
  · have hge : 2 < w.heap.size := by obtain ⟨_, _, _, h⟩ := her; exact h
    have HE := Lib.hid her
    clear her hv
    go_enter Tryd.func8, Tryd.ntmps8
    go_wp2_with fail
    refine (awake_any _ HE.out hge).mono ?_
    rintro e w1 ⟨rfl, hb⟩
    have HB := Lib.hid hb
    clear hb
    go_wp2
    go_ret
    exact ⟨rfl, HB.out⟩
  · obtain ⟨R, hR⟩ : ∃ R, Tk.scanF x.data.toList = R := ⟨_, rfl⟩
    cases R with
    | inr q => exact spaces_good x v hv q.1 q.2 w her hs (Lib.hid hR)
    | inl p =>
      obtain ⟨p1, p2⟩ := p
      have hge : 2 < w.heap.size := by obtain ⟨_, _, _, h⟩ := her; exact h
      have HE := Lib.hid her
      have HRR := Lib.hid hR
      clear her hv hR
      go_enter Tryd.func8, Tryd.ntmps8
      go_wp2_with fail
      refine (awake_any _ HE.out hge).mono ?_
      rintro e w1 ⟨rfl, hb⟩
      have HB := Lib.hid hb
      have HE1 := Lib.hid (HE.out.keep hge hb)
      clear hb
      go_wp2_with fail
      refine (Scan_any x _ _ HE1.out (by omega) HRR).mono ?_
      rintro e w2 ⟨hb, rfl, hp2⟩
      have HB2 := Lib.hid (HB.out.trans (hb.mono HB.out.size))
      dsimp only at hp2 ⊢
      have h2 : ((p2 : Int) != 0) = true := by simp only [bne_iff_ne, ne_eq]; omega
      clear hb hp2
      go_wp2
      go_ret
      exact ⟨rfl, HB2.out⟩

end Go.Proofs.YtpoddcegfhgdeaaDoor
