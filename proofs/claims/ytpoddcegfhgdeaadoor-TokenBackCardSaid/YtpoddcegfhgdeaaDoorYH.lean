/- The law TokenCovers. -/
import Derived.Test.YtpoddcegfhgdeaaDoorYG
import Derived.Test.YtpoddcegfhgdeaaDoorYF
set_option linter.unusedVariables false
set_option linter.unusedSimpArgs false
namespace Go.Proofs.YtpoddcegfhgdeaaDoor
open Go.RowKit

theorem flatNote_get : ∀ (ns : List (Nat × Nat)) (i : Nat) (h : i < ns.length), (flatNote ns)[i * 2]? = some (.int .i64 ns[i].1) ∧ (flatNote ns)[i * 2 + 1]? = some (.int .i64 ns[i].2)
  | [], i, h => absurd h (Nat.not_lt_zero i)
  | t :: ns, 0, h => ⟨rfl, rfl⟩
  | t :: ns, i + 1, h => by
    have ih := flatNote_get ns i (by simpa using h)
    have e : ∀ j, (flatNote (t :: ns))[(i + 1) * 2 + j]? = (flatNote ns)[i * 2 + j]? := fun j => by
      have : flatNote (t :: ns) = noteCells t ++ flatNote ns := rfl
      rw [this, List.getElem?_append_right (by simp [noteCells]; omega)]
      congr 1
      simp [noteCells]; omega
    have e0 := e 0
    simp only [Nat.add_zero] at e0
    simp only [List.getElem_cons_succ]
    exact ⟨e0.trans ih.1, (e 1).trans ih.2⟩
theorem NoteRow.at {B : Nat} {W : World} {v : Value} {ns : List (Nat × Nat)} (h : NoteRow B W v ns) (i : Nat) (hi : i < ns.length) :
    ∃ g cap, v = .slice (some ⟨g, 0, none⟩) ns.length cap ∧ g < W.heap.size ∧ B ≤ g ∧ W.cell? ⟨g, i * 2, none⟩ = some (.int .i64 ns[i].1) ∧ W.cell? ⟨g, i * 2 + 1, none⟩ = some (.int .i64 ns[i].2) := by
  rcases h.2 with ⟨_, h0⟩ | ⟨g, cap, cur, rfl, hB, hg, h1, h2, h3, h4⟩
  · omega
  · have hcell : ∀ (j : Nat), j < ns.length * 2 → W.cell? ⟨g, j, none⟩ = (flatNote ns)[j]? := fun j hj => by
      simp only [World.cell?, hg]
      rw [← h4, List.getElem?_take, if_pos hj]; simp
    obtain ⟨e0, e1⟩ := flatNote_get ns i hi
    exact ⟨g, cap, rfl, (Array.getElem?_eq_some_iff.1 hg).1, hB, (hcell _ (by omega)).trans e0, (hcell _ (by omega)).trans e1⟩

theorem own_len {W : World} {B n k : Nat} {e : TypeId} {v : Value} {xs : List Value} (h : W.ownsRow B e k v n xs) : n ≤ maxLen := by
  rcases h.2 with ⟨_, h0⟩ | ⟨g, cap, cur, _, _, _, h1, h2, _⟩
  · omega
  · exact Nat.le_trans h1 h2

theorem dashes (s : ByteArray) (p : Nat) (h : ([45, 45] : List UInt8).isPrefixOf (s.data.toList.drop p) = true) : ((s.extract p (p + 2)).toList == [45, 45]) = true ∧ p + 2 ≤ s.size := by
  have h2 := prefix_len _ _ h
  rw [List.length_drop, ← Lib.size_eq] at h2
  simp at h2
  rw [List.isPrefixOf_iff_prefix] at h
  obtain ⟨r, hr⟩ := h
  refine ⟨?_, by omega⟩
  rw [Lib.toList_data, ext_at]
  unfold Tk.ext
  rw [← hr, show p + 2 - p = 2 by omega]
  rfl
theorem white_byte (c : UInt8) (h : Tk.isSp c = true) : ((c.toNat : Int) == 32) = true ∨ (((c.toNat : Int) == 32) = false ∧ ((c.toNat : Int) == 9) = true) ∨ (((c.toNat : Int) == 32) = false ∧ ((c.toNat : Int) == 9) = false ∧ ((c.toNat : Int) == 13) = true) ∨ (((c.toNat : Int) == 32) = false ∧ ((c.toNat : Int) == 9) = false ∧ ((c.toNat : Int) == 13) = false ∧ ((c.toNat : Int) == 10) = true) := by
  unfold Tk.isSp at h
  simp only [Bool.or_eq_true, beq_iff_eq] at h
  rcases h with ((rfl | rfl) | rfl) | rfl
  · exact .inl rfl
  · exact .inr (.inl ⟨rfl, rfl⟩)
  · exact .inr (.inr (.inl ⟨rfl, rfl, rfl⟩))
  · exact .inr (.inr (.inr ⟨rfl, rfl, rfl, rfl⟩))

set_option maxRecDepth 100000 in
set_option maxHeartbeats 25600000 in
theorem covers_bad (x : ByteArray) (p : Nat × Nat) (w : World) (her : Erg w) (hs : ¬ (1000 : Int) < x.size) (hR : Hid (Tk.scanF x.data.toList = .inl p)) : Calls Tryd.prog 6 #[.string x] w fun e w' => e = .returned (.bool true) ∧ Below w.heap.size w w' := by
  have hge : 2 < w.heap.size := by obtain ⟨_, _, _, h⟩ := her; exact h
  have HE := Lib.hid her
  have hp := scanF_bad _ _ hR.out
  rw [← Lib.size_eq] at hp
  clear her
  go_enter Tryd.func6, Tryd.ntmps6
  go_wp2_with fail
  refine (awake_any _ HE.out hge).mono ?_
  rintro e w1 ⟨rfl, hb⟩
  have HB := Lib.hid hb
  have HE1 := Lib.hid (HE.out.keep hge hb)
  clear hb
  go_wp2_with fail
  refine (Scan_any x _ _ HE1.out (by omega) hR).mono ?_
  rintro e w2 ⟨hb, rfl, hp2⟩
  have HB2 := Lib.hid (HB.out.trans (hb.mono HB.out.size))
  obtain ⟨p1, p2⟩ := p
  dsimp only at hp hp2 ⊢
  have h2 : ((p2 : Int) != 0) = true := by simp only [bne_iff_ne, ne_eq]; omega
  have h3 : (p1 : Int) ≤ x.size := by omega
  clear hb hp2 hp
  go_wp2
  go_ret
  exact ⟨rfl, HB2.out⟩

set_option maxRecDepth 100000 in
set_option maxHeartbeats 51200000 in
theorem covers_good (x : ByteArray) (ts : List Tk.Tok) (ns : List (Nat × Nat)) (w : World) (her : Erg w) (hs : ¬ (1000 : Int) < x.size) (hR : Hid (Tk.scanF x.data.toList = .inr (ts, ns))) : Calls Tryd.prog 6 #[.string x] w fun e w' => e = .returned (.bool true) ∧ Below w.heap.size w w' := by
  have hge : 2 < w.heap.size := by obtain ⟨_, _, _, h⟩ := her; exact h
  have HE := Lib.hid her
  have HC0 := Lib.hid (cov_start hR.out)
  have HSZ : Hid (x.data.toList.length = x.size) := Lib.hid (Lib.size_eq x).symm
  clear her
  go_enter Tryd.func6, Tryd.ntmps6
  go_wp2_with fail
  refine (awake_any _ HE.out hge).mono ?_
  rintro e w1 ⟨rfl, hb⟩
  have HB := Lib.hid hb
  have HE1 := Lib.hid (HE.out.keep hge hb)
  clear hb
  go_wp2_with fail
  refine (Scan_good x ts ns _ HE1.out (by omega) hR).mono ?_
  rintro e w2 ⟨ta, tc, na, nc, rfl, hsc, hb⟩
  have HB2 := Lib.hid (HB.out.trans (hb.mono HB.out.size))
  obtain ⟨n, hn⟩ : ∃ n, ts.length = n := ⟨_, rfl⟩
  obtain ⟨m, hm⟩ : ∃ m, ns.length = m := ⟨_, rfl⟩
  rw [hn, hm] at hsc ⊢
  have HTR := Lib.hid hsc.1
  have HNR := Lib.hid hsc.2
  have HN := Lib.hid hn
  have HM := Lib.hid hm
  have hn64 : n ≤ maxLen := by rw [← hn]; exact own_len hsc.1
  have hm64 : m ≤ maxLen := by rw [← hm]; exact own_len hsc.2
  unfold maxLen at hn64 hm64
  clear hsc hb hn hm
  go_wp2
  go_loopw [9, 7, 8] (fun p i k wr => ∃ p0 i0 k0 : Nat, p = .int .i64 p0 ∧ i = .int .i64 i0 ∧ k = .int .i64 k0 ∧ Hid (Cov x.data.toList ts ns p0 i0 k0) ∧ Hid (Below w2.heap.size w2 wr)) (fun p _ _ _ => x.size - (intOf p).toNat)
  case atStart => exact ⟨0, 0, 0, rfl, rfl, rfl, HC0, Lib.hid (Below.refl _ _)⟩
  case round =>
    obtain ⟨p, i, k, rfl, rfl, rfl, HC, HW⟩ := hrel
    by_cases hp : p < x.size
    · have hp1 : (p : Int) < x.size := by omega
      have hpl : p < x.data.toList.length := by rw [HSZ.out]; exact hp
      rcases cov_step HC.out hpl with ⟨kd, b, ⟨hi, hti⟩, hb1, hb2, hC⟩ | ⟨b, ⟨hk, hnk⟩, ⟨hi, hlt⟩, hb1, hb2, hpre, hC⟩ | ⟨⟨hi, hlt⟩, hkk, hsp, hC⟩
      · obtain ⟨g, cap, hv, hg, _, c0, c1, c2, c3⟩ := HTR.out.at i hi
        rw [HN.out] at hv
        cases hv
        rw [hti] at c0 c1 c2 c3
        dsimp only at c0 c1 c2 c3
        have a1 := (HW.out.cell (p := ⟨g, i * 4 + 1, none⟩) hg).trans c1
        have a2 := (HW.out.cell (p := ⟨g, i * 4 + 2, none⟩) hg).trans c2
        have a3 := (HW.out.cell (p := ⟨g, i * 4 + 3, none⟩) hg).trans c3
        have i1 : (i : Int) < n := by have := HN.out; omega
        have q1 : (p : Int) < b := by omega
        have q2 : (b : Int) ≤ x.size := by have := HSZ.out; omega
        have HC2 := Lib.hid hC
        clear hC c0 c1 c2 c3 hti hi hpl HC
        go_wp2
        go_quiet ((fail))
        go_wp2
        go_roundw
        case rel => exact ⟨b, i + 1, k, rfl, by go_num, rfl, HC2, Lib.hid (HW.out.trans ((below_drewNg wr _).mono HW.out.size))⟩
        case measure => simp [intOf]; omega
      · obtain ⟨g, cap, hv, hg, _, c0, c1, c2, c3⟩ := HTR.out.at i hi
        rw [HN.out] at hv
        cases hv
        obtain ⟨q, hq⟩ : ∃ q, ts[i].2.1 = q := ⟨_, rfl⟩
        rw [hq] at c2 hlt
        have a2 := (HW.out.cell (p := ⟨g, i * 4 + 2, none⟩) hg).trans c2
        have i1 : (i : Int) < n := by have := HN.out; omega
        have q1 : ((q : Int) == p) = false := by simp; omega
        obtain ⟨g2, cap2, hv, hg2, _, d0, d1⟩ := HNR.out.at k hk
        rw [HM.out] at hv
        cases hv
        rw [hnk] at d0 d1
        dsimp only at d0 d1
        have b0 := (HW.out.cell (p := ⟨g2, k * 2, none⟩) hg2).trans d0
        have b1 := (HW.out.cell (p := ⟨g2, k * 2 + 1, none⟩) hg2).trans d1
        have k1 : (k : Int) < m := by have := HM.out; omega
        have q2 : (p : Int) + 1 < b := by omega
        obtain ⟨hda, hdl⟩ := dashes x p hpre
        have q3 : (p : Int) + 2 ≤ x.size := by omega
        have q4 : ((p : Int) + 2).toNat = p + 2 := by omega
        have hb3 : b ≤ x.size := by have := HSZ.out; omega
        have HC2 := Lib.hid hC
        clear hC c0 c1 c2 c3 d0 d1 hnk hpre hi hpl HC hq hlt hdl hk
        go_wp2
        go_quiet ((fail))
        go_wp2
        go_roundw
        case rel => exact ⟨b, i, k + 1, rfl, rfl, by go_num, HC2, Lib.hid (HW.out.trans ((below_drewNg wr _).mono HW.out.size))⟩
        case measure => simp [intOf]; omega
      · obtain ⟨g, cap, hv, hg, _, c0, c1, c2, c3⟩ := HTR.out.at i hi
        rw [HN.out] at hv
        cases hv
        obtain ⟨q, hq⟩ : ∃ q, ts[i].2.1 = q := ⟨_, rfl⟩
        rw [hq] at c2 hlt
        have a2 := (HW.out.cell (p := ⟨g, i * 4 + 2, none⟩) hg).trans c2
        have i1 : (i : Int) < n := by have := HN.out; omega
        have q1 : ((q : Int) == p) = false := by simp; omega
        have HC2 := Lib.hid hC
        have hsp2 : Tk.isSp (x[p]'hp) = true := hsp
        have hwb := white_byte (x[p]'hp) hsp2
        clear hsp
        have hsp := hsp2
        clear hsp2
        have HKK := Lib.hid hkk
        have HWB := Lib.hid hwb
        clear hC c0 c1 c2 c3 hi hpl HC hq hlt hsp hwb hkk
        by_cases hk : k < m
        · have hk2 : k < ns.length := by rw [HM.out]; exact hk
          obtain ⟨g2, cap2, hv, hg2, _, d0, d1⟩ := HNR.out.at k hk2
          rw [HM.out] at hv
          cases hv
          have hlt2 := HKK.out hk2
          obtain ⟨q2, hq2⟩ : ∃ q, ns[k].1 = q := ⟨_, rfl⟩
          rw [hq2] at d0 hlt2
          have b0 := (HW.out.cell (p := ⟨g2, k * 2, none⟩) hg2).trans d0
          have k1 : (k : Int) < m := by omega
          have q3 : ((q2 : Int) == p) = false := by simp; omega
          clear d0 d1 hq2 hlt2 hk2
          rcases HWB.out with w1 | ⟨w1, w2⟩ | ⟨w1, w2, w3⟩ | ⟨w1, w2, w3, w4⟩
          all_goals
            go_wp2
            go_quiet ((fail))
            go_wp2
            go_roundw
            case rel => exact ⟨p + 1, i, k, by go_num, rfl, rfl, HC2, Lib.hid (HW.out.trans ((below_drewNg wr _).mono HW.out.size))⟩
            case measure => simp [intOf]; omega
        · have k1 : ¬ (k : Int) < m := by omega
          rcases HWB.out with w1 | ⟨w1, w2⟩ | ⟨w1, w2, w3⟩ | ⟨w1, w2, w3, w4⟩
          all_goals
            go_wp2
            go_quiet ((fail))
            go_wp2
            go_roundw
            case rel => exact ⟨p + 1, i, k, by go_num, rfl, rfl, HC2, Lib.hid (HW.out.trans ((below_drewNg wr _).mono HW.out.size))⟩
            case measure => simp [intOf]; omega
    · have hpl : ¬ p < x.data.toList.length := by rw [HSZ.out]; exact hp
      obtain ⟨e1, e2, e3, e4⟩ := cov_end HC.out hpl
      rw [HSZ.out] at e1 e4
      rw [HM.out] at e2
      rw [HN.out] at e3
      have hi : i < ts.length := by rw [HN.out]; omega
      have hti : ts[i] = (6, x.size, x.size) := by rw [List.getElem?_eq_getElem hi] at e4; exact Option.some.inj e4
      obtain ⟨g, cap, hv, hg, _, c0, c1, c2, c3⟩ := HTR.out.at i hi
      rw [HN.out] at hv
      cases hv
      rw [hti] at c0 c1 c2 c3
      dsimp only at c0 c1 c2 c3
      obtain ⟨X, hX⟩ : ∃ X, x.extract x.size x.size = X := ⟨_, rfl⟩
      rw [hX] at c1
      have hXe : (X.toList == []) = true := by
        rw [← hX, Lib.toList_data, ext_at]
        unfold Tk.ext
        simp
      have a0 := (HW.out.cell (p := ⟨g, i * 4, none⟩) hg).trans c0
      have a1 := (HW.out.cell (p := ⟨g, i * 4 + 1, none⟩) hg).trans c1
      have a2 := (HW.out.cell (p := ⟨g, i * 4 + 2, none⟩) hg).trans c2
      have i1 : (i : Int) < n := by omega
      have i2 : (n : Int) - 1 = i := by omega
      have k1 : ((k : Int) == m) = true := by simp; omega
      have p1 : ¬ (p : Int) < x.size := by omega
      clear e1 e2 e3 e4 hti c0 c1 c2 c3 hX hpl HC hi
      go_wp2
      go_ret
      exact ⟨rfl, HB2.out.trans (HW.out.mono HB2.out.size)⟩

end Go.Proofs.YtpoddcegfhgdeaaDoor
