/- What short does; the law RationalReads. -/
import Derived.Test.YtpnofebhpeiepaaGreatDoorT5
set_option linter.unusedVariables false
set_option linter.unusedSimpArgs false
namespace Go.Proofs.YtpnofebhpeiepaaGreatDoor
open Go.RowKit _root_.Go.Proofs.YtpnofebhpeiepaaGreatDoor.Nm

/-- All of some texts are short. -/
def shortB (l : List ByteArray) : Bool := l.all fun s => decide (s.size ≤ 300)
theorem shortB_snoc (l : List ByteArray) (s : ByteArray) : shortB (l ++ [s]) = (shortB l && decide (s.size ≤ 300)) := by unfold shortB; simp
theorem shortB_take (l : List ByteArray) (k : Nat) (h : shortB (l.take k) = false) : shortB l = false := by
  cases hs : shortB l with
  | false => rfl
  | true =>
    exfalso
    unfold shortB at h hs
    rw [List.all_eq_true] at hs
    have : (l.take k).all (fun s => decide (s.size ≤ 300)) = true := by rw [List.all_eq_true]; exact fun x hx => hs x (List.mem_of_mem_take hx)
    rw [this] at h; cases h

set_option maxRecDepth 100000 in
set_option maxHeartbeats 1600000 in
theorem short_any (g off c : Nat) (l : List ByteArray) (n : Nat) (hl : l.length = n) (hn : n ≤ 100000) (b : Bool) (w : World) (hc : Hid (∀ (i : Nat) (h : i < l.length), w.cell? ⟨g, off + i, none⟩ = some (.string l[i]))) (hb : Hid (shortB l = b)) :
    Calls Tryz.prog 15 #[.slice (some ⟨g, off, none⟩) n c] w fun e w' => e = .returned (.bool b) ∧ w = w' := by
  have HL := Lib.hid (And.intro trivial hl)
  clear hl
  go_enter Tryz.func15, Tryz.ntmps15
  go_wp2
  go_loop [3] (fun i => ∃ k : Nat, k ≤ n ∧ i = .int .i64 k ∧ Hid (shortB (l.take k) = true)) (fun i => n - (intOf i).toNat)
  case atStart => exact ⟨0, Nat.zero_le _, rfl, Lib.hid rfl⟩
  case round =>
    obtain ⟨k, hk, rfl, HK⟩ := hrel
    by_cases hlt : k < n
    · have hkl : k < l.length := by rw [HL.out.2]; exact hlt
      have hcell := hc.out k hkl
      have hsn : shortB (l.take (k + 1)) = (shortB (l.take k) && decide (l[k].size ≤ 300)) := by
        rw [← shortB_snoc, List.take_succ_eq_append_getElem hkl]
      obtain ⟨x, hx⟩ : ∃ x, l[k] = x := ⟨_, rfl⟩
      rw [hx] at hcell hsn
      rw [HK.out, Bool.true_and] at hsn
      have HSN := Lib.hid hsn
      have h1 : (0 : Int) ≤ k := by omega
      have h2 : (k : Int) < n := by omega
      clear hx hsn hkl
      by_cases hbig : (300 : Int) < x.size
      · obtain rfl : b = false := by rw [← hb.out]; exact shortB_take l (k + 1) (by rw [HSN.out]; exact decide_eq_false (by omega))
        go_wp2
        go_ret
        exact ⟨rfl, rfl⟩
      · have HK2 : Hid (shortB (l.take (k + 1)) = true) := Lib.hid (by rw [HSN.out]; exact decide_eq_true (by omega))
        go_wp2
        go_round
        case rel => exact ⟨k + 1, by omega, by go_num, HK2⟩
        case measure => simp [intOf]; omega
    · obtain rfl : k = n := by omega
      obtain rfl : b = true := by
        rw [← hb.out]
        have h := HK.out
        rwa [List.take_of_length_le (by rw [HL.out.2]; exact Nat.le_refl _)] at h
      go_wp2
      go_ret
      exact ⟨rfl, rfl⟩

set_option maxRecDepth 100000 in
set_option maxHeartbeats 6400000 in
theorem law_RationalReads (s : ByteArray) (w : World) (htab : Tab w) :
    Calls Tryz.prog 3 #[.string s] w fun e w' => e = .returned (.bool true) ∧ Below w.heap.size w w' := by
  have HT := Lib.hid htab
  clear htab
  by_cases hs : (900 : Int) < s.size
  · go_enter Tryz.func3, Tryz.ntmps3
    go_wp2_with fail
    refine (qawake_any _ HT.out).mono ?_
    rintro e w1 ⟨rfl, hb1⟩
    have HW1 := Lib.hid hb1
    clear hb1
    go_wp2
    go_ret
    exact ⟨rfl, HW1.out⟩
  · have hs2 : s.size ≤ 100000 := by omega
    cases ho : rval s.data.toList with
    | none =>
      have HO := Lib.hid ho
      have HP : Hid (PartsRes s ⟨#[]⟩ ⟨#[]⟩ 3) := Lib.hid (by unfold PartsRes; rw [ho]; exact ⟨rfl, rfl, rfl⟩)
      have HV : Hid ((rval s.data.toList).isSome = false) := Lib.hid (by rw [ho]; rfl)
      clear ho
      go_enter Tryz.func3, Tryz.ntmps3
      go_wp2_with fail
      refine (qParts_any s _ _ 3 _ HP hs2 HT.out).mono ?_
      rintro e w1 ⟨rfl, hb⟩
      have HW1 := Lib.hid hb
      clear hb
      go_wp2_with fail
      refine (rrRead_any s none _ HO hs2).mono ?_
      rintro e w2 ⟨n1, a1, l1, c1, n2, a2, l2, c2, rfl, _, hb⟩
      rw [show (none : Option Rat).isSome = false from rfl]
      have HW2 := Lib.hid ((HW1.out.trans (hb.mono HW1.out.size)).alloc (Nat.le_trans HW1.out.size hb.size) (.cells #[.bool n1, .slice a1 l1 c1, .bool n2, .slice a2 l2 c2] 30))
      clear hb
      go_wp2_with fail
      refine (qawake_any _ (tab_keep HT.out HW2.out)).mono ?_
      rintro e w3 ⟨rfl, hb⟩
      have HW3 := Lib.hid (HW2.out.trans (hb.mono HW2.out.size))
      clear hb
      go_wp2_with fail
      refine (qValid_any s false _ HV hs2).mono ?_
      rintro e w4 ⟨rfl, hb⟩
      have HW4 := Lib.hid (HW3.out.trans (hb.mono HW3.out.size))
      clear hb
      go_wp2
      go_ret
      exact ⟨rfl, HW4.out⟩
    | some q =>
      have HO := Lib.hid ho
      obtain ⟨SN, hSN⟩ : ∃ u : ByteArray, u = ⟨(Lib.itoa q.num).toArray⟩ := ⟨_, rfl⟩
      obtain ⟨SD, hSD⟩ : ∃ u : ByteArray, u = ⟨(Lib.itoa (q.den : Int)).toArray⟩ := ⟨_, rfl⟩
      have HP : Hid (PartsRes s SN SD 0) := Lib.hid (by unfold PartsRes; rw [ho]; exact ⟨hSN, hSD, rfl⟩)
      have HV : Hid ((rval s.data.toList).isSome = true) := Lib.hid (by rw [ho]; rfl)
      have HSN := Lib.hid (And.intro trivial hSN)
      have HSD := Lib.hid (And.intro trivial hSD)
      have HLN := Lib.hid (digs_ten (RT.val ho).1 2000 (by omega))
      have HLD := Lib.hid (digs_ten (RT.val ho).2 2000 (by omega))
      clear ho hSN hSD
      go_enter Tryz.func3, Tryz.ntmps3
      go_wp2_with fail
      refine (qParts_any s SN SD 0 _ HP hs2 HT.out).mono ?_
      rintro e w1 ⟨rfl, hb⟩
      have HW1 := Lib.hid hb
      clear hb
      go_wp2_with fail
      refine (rrRead_any s (some q) _ HO hs2).mono ?_
      rintro e w2 ⟨n1, a1, l1, c1, n2, a2, l2, c2, rfl, hq, hb⟩
      rw [show (some q : Option Rat).isSome = true from rfl]
      have hA := (Below.refl w2.heap.size w2).alloc (Nat.le_refl _) (.cells #[.bool n1, .slice a1 l1 c1, .bool n2, .slice a2 l2 c2] 30)
      have HW2 := Lib.hid ((HW1.out.trans (hb.mono HW1.out.size)).alloc (Nat.le_trans HW1.out.size hb.size) (.cells #[.bool n1, .slice a1 l1 c1, .bool n2, .slice a2 l2 c2] 30))
      have HB2 := Lib.hid (B4.new w2 (.bool n1) (.slice a1 l1 c1) (.bool n2) (.slice a2 l2 c2) 30)
      obtain ⟨_, _, _, _, _, _, _, _, hx, hrn, hrd⟩ := hq q rfl
      cases hx
      have HN2 := Lib.hid (hrn.keep hA (Nat.le_refl _))
      have HD2 := Lib.hid (hrd.keep hA (Nat.le_refl _))
      clear hb hq hA hrn hrd
      go_wp2_with fail
      refine (qawake_any _ (tab_keep HT.out HW2.out)).mono ?_
      rintro e w3 ⟨rfl, hb⟩
      have HW3 := Lib.hid (HW2.out.trans (hb.mono HW2.out.size))
      have HB3 := Lib.hid (HB2.out.below hb HB2.out.lt)
      have HN3 := Lib.hid (HN2.out.keep hb (Nat.le_refl _))
      have HD3 := Lib.hid (HD2.out.keep hb (Nat.le_refl _))
      clear hb
      go_wp2_with fail
      refine (qValid_any s true _ HV hs2).mono ?_
      rintro e w4 ⟨rfl, hb⟩
      have HW4 := Lib.hid (HW3.out.trans (hb.mono HW3.out.size))
      have HB4' := Lib.hid (HB3.out.below hb HB3.out.lt)
      have HN4 := Lib.hid (HN3.out.keep hb (Nat.le_refl _))
      have HD4 := Lib.hid (HD3.out.keep hb (Nat.le_refl _))
      clear hb
      obtain ⟨k0, k1, k2, k3⟩ := HB4'.out.cell
      go_wp2_with fail
      refine (rText_to _ q.num SN _ HN4.out HLN.out HSN).mono ?_
      rintro e w5 ⟨rfl, hb⟩
      have HW5 := Lib.hid (HW4.out.trans (hb.mono HW4.out.size))
      have HB5 := Lib.hid (HB4'.out.below hb HB4'.out.lt)
      have HD5 := Lib.hid (HD4.out.keep hb (Nat.le_refl _))
      clear hb k0 k1 k2 k3
      obtain ⟨k0, k1, k2, k3⟩ := HB5.out.cell
      go_wp2_with fail
      refine (rText_to _ (q.den : Int) SD _ HD5.out HLD.out HSD).mono ?_
      rintro e w6 ⟨rfl, hb⟩
      have HW6 := Lib.hid (HW5.out.trans (hb.mono HW5.out.size))
      clear hb k0 k1 k2 k3
      go_wp2
      go_ret
      exact ⟨rfl, HW6.out⟩

end Go.Proofs.YtpnofebhpeiepaaGreatDoor
