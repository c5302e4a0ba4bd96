/- The law RationalMakes. -/
import Derived.Test.YtpnofebhpeiepaaGreatDoorT6
set_option linter.unusedVariables false
set_option linter.unusedSimpArgs false
namespace Go.Proofs.YtpnofebhpeiepaaGreatDoor
open Go.RowKit _root_.Go.Proofs.YtpnofebhpeiepaaGreatDoor.Nm

theorem zstr (d : ByteArray) (h : canon d.data.toList = true) : (d.toList == [48]) = decide (zv d.data.toList = 0) := by
  rw [Bool.eq_iff_iff, beq_iff_eq, decide_eq_true_eq, Lib.toList_data]
  constructor
  · intro e; rw [e]; decide +kernel
  · intro e; rw [← itoa_zv _ h, e]; decide +kernel

/-- Two texts in a box of their own. -/
theorem two_cells (w : World) (a b : ByteArray) (T : TypeId) (i : Nat) (h : i < [a, b].length) : (w.alloc (.cells #[.string a, .string b] T)).cell? ⟨w.heap.size, 0 + i, none⟩ = some (.string [a, b][i]) := by
  have hx := (Bx.new w (.string a) (.string b) T).cell
  match i, h with
  | 0, _ => exact hx.1
  | 1, _ => exact hx.2.1

theorem short_two (a b : ByteArray) : shortB [a, b] = (decide (a.size ≤ 300) && decide (b.size ≤ 300)) := by unfold shortB; simp

set_option maxRecDepth 100000 in
set_option maxHeartbeats 6400000 in
theorem law_RationalMakes (n d : ByteArray) (w : World) (htab : Tab w) :
    Calls Tryz.prog 4 #[.string n, .string d] w fun e w' => e = .returned (.bool true) ∧ Below w.heap.size w w' := by
  have HT := Lib.hid htab
  have HC0 : Hid (∀ (i : Nat) (h : i < [n, d].length), (w.alloc (.cells #[.string n, .string d] 9)).cell? ⟨w.heap.size, 0 + i, none⟩ = some (.string [n, d][i])) := Lib.hid (two_cells w n d 9)
  have HW0 := Lib.hid ((Below.refl w.heap.size w).alloc (Nat.le_refl _) (.cells #[.string n, .string d] 9))
  clear htab
  cases hsh : shortB [n, d]
  · have HSH := Lib.hid hsh
    clear hsh
    go_enter Tryz.func4, Tryz.ntmps4
    go_wp2_with fail
    refine (short_any w.heap.size 0 2 [n, d] 2 rfl (by omega) false _ HC0 HSH).mono ?_
    rintro e w1 ⟨rfl, rfl⟩
    go_wp2_with fail
    refine (qawake_any _ (tab_keep HT.out HW0.out)).mono ?_
    rintro e w3 ⟨rfl, hb⟩
    have HW3 := Lib.hid (HW0.out.trans (hb.mono HW0.out.size))
    clear hb
    go_wp2
    go_ret
    exact ⟨rfl, HW3.out⟩
  · have HSH := Lib.hid hsh
    clear hsh
    cases kn : canon n.data.toList
    · have KN := Lib.hid kn
      have HM : Hid (MakeRes n d ⟨#[]⟩ 3) := Lib.hid (by unfold MakeRes; rw [kn]; exact ⟨rfl, rfl⟩)
      clear kn
      go_enter Tryz.func4, Tryz.ntmps4
      go_wp2_with fail
      refine (short_any w.heap.size 0 2 [n, d] 2 rfl (by omega) true _ HC0 HSH).mono ?_
      rintro e w1 ⟨rfl, rfl⟩
      go_wp2_with fail
      refine (qMake_any n d ⟨#[]⟩ 3 _ HM (tab_keep HT.out HW0.out)).mono ?_
      rintro e w2 ⟨rfl, hb⟩
      have HW2 := Lib.hid (HW0.out.trans (hb.mono HW0.out.size))
      clear hb
      go_wp2_with fail
      refine (rV_to n _ KN _).mono ?_
      rintro e w9 ⟨rfl, rfl⟩
      go_wp2_with fail
      refine (qawake_any _ (tab_keep HT.out HW2.out)).mono ?_
      rintro e w3 ⟨rfl, hb⟩
      have HW3 := Lib.hid (HW2.out.trans (hb.mono HW2.out.size))
      clear hb
      go_wp2
      go_ret
      exact ⟨rfl, HW3.out⟩
    · cases kd : canon d.data.toList
      · have KN := Lib.hid kn
        have KD := Lib.hid kd
        have HM : Hid (MakeRes n d ⟨#[]⟩ 3) := Lib.hid (by unfold MakeRes; rw [kn, kd]; exact ⟨rfl, rfl⟩)
        clear kn kd
        go_enter Tryz.func4, Tryz.ntmps4
        go_wp2_with fail
        refine (short_any w.heap.size 0 2 [n, d] 2 rfl (by omega) true _ HC0 HSH).mono ?_
        rintro e w1 ⟨rfl, rfl⟩
        go_wp2_with fail
        refine (qMake_any n d ⟨#[]⟩ 3 _ HM (tab_keep HT.out HW0.out)).mono ?_
        rintro e w2 ⟨rfl, hb⟩
        have HW2 := Lib.hid (HW0.out.trans (hb.mono HW0.out.size))
        clear hb
        go_wp2_with fail
        refine (rV_to n _ KN _).mono ?_
        rintro e w9 ⟨rfl, rfl⟩
        go_wp2_with fail
        refine (rV_to d _ KD _).mono ?_
        rintro e w9 ⟨rfl, rfl⟩
        go_wp2_with fail
        refine (qawake_any _ (tab_keep HT.out HW2.out)).mono ?_
        rintro e w3 ⟨rfl, hb⟩
        have HW3 := Lib.hid (HW2.out.trans (hb.mono HW2.out.size))
        clear hb
        go_wp2
        go_ret
        exact ⟨rfl, HW3.out⟩
      · have KN := Lib.hid kn
        have KD := Lib.hid kd
        obtain ⟨a, ha⟩ : ∃ a, zv n.data.toList = a := ⟨_, rfl⟩
        obtain ⟨b, hb0⟩ : ∃ a, zv d.data.toList = a := ⟨_, rfl⟩
        have ta := zv_ten _ kn
        have tb := zv_ten _ kd
        have hz := zstr d kd
        rw [ha] at ta
        rw [hb0] at tb hz
        have HZA := Lib.hid (And.intro trivial ha)
        have HZB := Lib.hid (And.intro trivial hb0)
        by_cases hb : b = 0
        · rw [decide_eq_true hb] at hz
          have HM : Hid (MakeRes n d ⟨#[]⟩ 24) := Lib.hid (by unfold MakeRes; rw [kn, kd, ha, hb0]; exact .zero hb)
          clear kn kd ha hb0 ta tb hb
          go_enter Tryz.func4, Tryz.ntmps4
          go_wp2_with fail
          refine (short_any w.heap.size 0 2 [n, d] 2 rfl (by omega) true _ HC0 HSH).mono ?_
          rintro e w1 ⟨rfl, rfl⟩
          go_wp2_with fail
          refine (qMake_any n d ⟨#[]⟩ 24 _ HM (tab_keep HT.out HW0.out)).mono ?_
          rintro e w2 ⟨rfl, hb⟩
          have HW2 := Lib.hid (HW0.out.trans (hb.mono HW0.out.size))
          clear hb
          go_wp2_with fail
          refine (rV_to n _ KN _).mono ?_
          rintro e w9 ⟨rfl, rfl⟩
          go_wp2_with fail
          refine (rV_to d _ KD _).mono ?_
          rintro e w9 ⟨rfl, rfl⟩
          go_wp2_with fail
          refine (qawake_any _ (tab_keep HT.out HW2.out)).mono ?_
          rintro e w3 ⟨rfl, hb⟩
          have HW3 := Lib.hid (HW2.out.trans (hb.mono HW2.out.size))
          clear hb
          go_wp2
          go_ret
          exact ⟨rfl, HW3.out⟩
        · rw [decide_eq_false hb] at hz
          obtain ⟨Q, hQ⟩ : ∃ Q, Rat.divInt a b = Q := ⟨_, rfl⟩
          have hrt : RT 400 Q := by rw [← hQ]; exact .divInt hb ta tb
          obtain ⟨S, hS⟩ : ∃ S : ByteArray, S = ⟨(rt Q).toArray⟩ := ⟨_, rfl⟩
          have HM : Hid (MakeRes n d S 0) := Lib.hid (by unfold MakeRes; rw [kn, kd, ha, hb0]; exact .short hb hQ ⟨hS, hrt.short (by omega)⟩)
          have HRT := Lib.hid hrt
          have HS := Lib.hid (And.intro trivial hS)
          have HQ := Lib.hid hQ
          have HNE := Lib.hid hb
          have HLEN : Hid ((dg a.natAbs).length ≤ 1000 ∧ (dg b.natAbs).length ≤ 1000) := Lib.hid ⟨digs_ten ta 1000 (by omega), digs_ten tb 1000 (by omega)⟩
          clear kn kd ha hb0 ta tb hb hQ hrt hS
          go_enter Tryz.func4, Tryz.ntmps4
          go_wp2_with fail
          refine (short_any w.heap.size 0 2 [n, d] 2 rfl (by omega) true _ HC0 HSH).mono ?_
          rintro e w1 ⟨rfl, rfl⟩
          go_wp2_with fail
          refine (qMake_any n d S 0 _ HM (tab_keep HT.out HW0.out)).mono ?_
          rintro e w2 ⟨rfl, hb⟩
          have HW2 := Lib.hid (HW0.out.trans (hb.mono HW0.out.size))
          clear hb
          go_wp2_with fail
          refine (rV_to n _ KN _).mono ?_
          rintro e w9 ⟨rfl, rfl⟩
          go_wp2_with fail
          refine (rV_to d _ KD _).mono ?_
          rintro e w9 ⟨rfl, rfl⟩
          go_wp2_with fail
          refine (qawake_any _ (tab_keep HT.out HW2.out)).mono ?_
          rintro e w3 ⟨rfl, hb⟩
          have HW3 := Lib.hid (HW2.out.trans (hb.mono HW2.out.size))
          clear hb
          go_wp2_with fail
          refine (rO_to n a KN.out HZA _).mono ?_
          rintro e w4 ⟨v4, rfl, hv4, hb⟩
          have HV4 := Lib.hid hv4
          have HW4 := Lib.hid (HW3.out.trans (hb.mono HW3.out.size))
          obtain ⟨n4, a4, l4, c4, rfl⟩ := hv4.any
          clear hv4 hb
          go_wp2_with fail
          refine (rO_to d b KD.out HZB _).mono ?_
          rintro e w5 ⟨v5, rfl, hv5, hb⟩
          have HV5 := Lib.hid hv5
          have HV4' := Lib.hid (HV4.out.keep hb (Nat.le_refl _))
          have HW5 := Lib.hid (HW4.out.trans (hb.mono HW4.out.size))
          obtain ⟨n5, a5, l5, c5, rfl⟩ := hv5.any
          clear hv5 hb
          go_wp2_with fail
          refine (rNew_any _ _ a b Q _ HV4'.out HV5.out HNE.out HLEN.out.1 HLEN.out.2 HQ).mono ?_
          rintro e w6 ⟨v6, rfl, hv6, hb⟩
          have HV6 := Lib.hid hv6
          have HW6 := Lib.hid (HW5.out.trans (hb.mono HW5.out.size))
          obtain ⟨m1, b1, k1, d1, m2, b2, k2, d2, rfl, _, _⟩ := hv6
          clear hb
          go_wp2_with fail
          refine (rrText_any _ Q S 400 _ HV6.out HRT.out (by omega) HS).mono ?_
          rintro e w7 ⟨rfl, hb⟩
          have HW7 := Lib.hid (HW6.out.trans (hb.mono HW6.out.size))
          clear hb
          go_wp2
          go_ret
          exact ⟨rfl, HW7.out⟩

end Go.Proofs.YtpnofebhpeiepaaGreatDoor
