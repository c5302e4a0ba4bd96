/- What the reference's Valid, Text and Long do. -/
import Derived.Test.YtdkpcjfadabkbaaGreatDoorR2
import Derived.Deep.Cut
import Derived.Deep.CutRange
import Derived.Deep.DeepCutAuto
set_option linter.unusedVariables false
set_option linter.unusedSimpArgs false
namespace Go.Proofs.YtdkpcjfadabkbaaGreatDoor
open Go.RowKit _root_.Go.Proofs.YtdkpcjfadabkbaaGreatDoor.Nm

/-- The reference's test of the digits behind the sign. -/
def cr (t : List UInt8) : Bool := decide (1 ≤ t.length) && decide (t.length ≤ 400) && (t.head? != some 48) && t.all isDig

theorem cr_short (t : List UInt8) (h : t.length < 1) : cr t = false := by unfold cr; rw [decide_eq_false (by omega)]; rfl
theorem cr_long (t : List UInt8) (h : 400 < t.length) : cr t = false := by unfold cr; rw [decide_eq_false (show ¬ t.length ≤ 400 by omega)]; simp
theorem cr_head (t : List UInt8) (h : t.head? = some 48) : cr t = false := by unfold cr; rw [h]; simp
theorem cr_all (t : List UInt8) (h1 : 1 ≤ t.length) (h2 : t.length ≤ 400) (h3 : t.head? ≠ some 48) : cr t = t.all isDig := by
  unfold cr; rw [decide_eq_true h1, decide_eq_true h2, bne_iff_ne.2 h3]; rfl

theorem canon_cr_neg (r : List UInt8) : canon (45 :: r) = cr r := by
  rw [canon_neg]
  unfold cr canonN
  cases r with
  | nil => rfl
  | cons c r =>
    cases h1 : (c :: r).all isDig <;> cases h2 : ((c :: r).head? != some 48) <;> simp [h1, h2]

theorem canon_cr_pos (l : List UInt8) (h : l.head? ≠ some 45) (h0 : l ≠ [48]) : canon l = cr l := by
  rw [canon_pos l h]
  unfold cr canonN
  cases l with
  | nil => rfl
  | cons c r =>
    by_cases hc : c = 48
    · subst hc
      have hr : r ≠ [] := by rintro rfl; exact h0 rfl
      have e1 : ((48 :: r).length == 1) = false := by rw [beq_eq_false_iff_ne, List.length_cons]; intro e; exact hr (List.length_eq_zero_iff.1 (by omega))
      rw [e1]
      simp
    · have e1 : ((c :: r).head? != some 48) = true := by simp [hc]
      rw [e1]
      cases h1 : (c :: r).all isDig <;> simp

set_option maxRecDepth 100000 in
set_option maxHeartbeats 3200000 in
theorem rValid_any (s : ByteArray) (w : World) :
    Calls Tryz.prog 11 #[.string s] w fun e w' => e = .returned (.bool (canon s.data.toList)) ∧ w = w' := by
  by_cases h0 : s.data.toList = [48]
  · have hc : Hid (canon s.data.toList = true) := Lib.hid (by rw [h0]; decide +kernel)
    have h0' : (s.toList == [48]) = true := by rw [Lib.toList_data, h0]; rfl
    clear h0
    go_enter Tryz.func11, Tryz.ntmps11
    go_wp2
    go_ret
    exact ⟨by rw [hc.out]; rfl, rfl⟩
  · have h0' : (s.toList == [48]) = false := by rw [Lib.toList_data, beq_eq_false_iff_ne]; exact h0
    obtain ⟨sb, hsb⟩ : ∃ sb, decide (s.data.toList[0]? = some 45) = sb := ⟨_, rfl⟩
    obtain ⟨t, HC, HW⟩ : ∃ t : ByteArray, Hid (canon s.data.toList = cr t.data.toList) ∧ Hid (True ∧ (sb = true → 0 < s.size ∧ s.extract 1 s.size = t) ∧ (sb = false → s = t)) := by
      by_cases h45 : s.data.toList.head? = some 45
      · obtain ⟨r, hr⟩ := cons_of_head _ h45
        have hs0 : 0 < s.size := by rw [← len_size, hr]; simp
        rw [List.head?_eq_getElem?] at h45
        rw [decide_eq_true h45] at hsb
        exact ⟨s.extract 1 s.size, Lib.hid (by rw [hr, ext_one s r hr]; exact canon_cr_neg r), Lib.hid ⟨trivial, fun _ => ⟨hs0, rfl⟩, (fun h => by rw [← hsb] at h; cases h)⟩⟩
      · rw [List.head?_eq_getElem?] at h45
        rw [decide_eq_false h45] at hsb
        exact ⟨s, Lib.hid (canon_cr_pos _ (by rw [List.head?_eq_getElem?]; exact h45) h0), Lib.hid ⟨trivial, (fun h => by rw [← hsb] at h; cases h), fun _ => rfl⟩⟩
    have HSB := Lib.hid (And.intro trivial hsb)
    clear h0 hsb
    go_enter Tryz.func11, Tryz.ntmps11
    go_upto_region 3 with fail
    go_cut [13] (fun v wx => v = .bool sb ∧ wx = w)
    case first =>
      by_cases hs0 : 0 < s.size
      · have hs0' : (0 : Int) < s.size := by omega
        cases sb
        · have h45' : ((s[0].toNat : Int) == 45) = false := by
            have hb := of_decide_eq_false HSB.out.2
            rw [byte_at s 0 hs0] at hb
            rw [beq_eq_false_iff_ne]; intro e; exact hb (congrArg some (UInt8.toNat_inj.1 (by show s[0].toNat = 45; omega)))
          go_wp2_with fail
          go_meet
          case rel => exact ⟨rfl, rfl⟩
        · have h45' : ((s[0].toNat : Int) == 45) = true := by
            have hb := of_decide_eq_true HSB.out.2
            rw [byte_at s 0 hs0] at hb
            rw [Option.some.inj hb]; rfl
          go_wp2_with fail
          go_meet
          case rel => exact ⟨rfl, rfl⟩
      · have hs0' : ¬ (0 : Int) < s.size := by omega
        obtain rfl : sb = false := by
          rw [← HSB.out.2]
          refine decide_eq_false ?_
          rw [List.getElem?_eq_none (by rw [len_size]; omega)]
          intro h; cases h
        go_wp2_with fail
        go_meet
        case rel => exact ⟨rfl, rfl⟩
    case rest =>
    obtain ⟨rfl, rfl⟩ := hcut
    go_upto_if 13 with fail
    go_cut [0] (fun v wx => v = .string t ∧ wx = wc)
    case first =>
      cases sb
      · have h := HW.out.2.2 rfl
        subst h
        go_wp2_with fail
        go_meet
        case rel => exact ⟨rfl, rfl⟩
      · obtain ⟨hs0, ht⟩ := HW.out.2.1 rfl
        have HT0 := Lib.hid (And.intro trivial ht)
        have hs1 : 1 ≤ s.size := hs0
        clear ht
        go_wp2_with fail
        go_meet
        case rel => exact ⟨by rw [HT0.out.2], rfl⟩
    case rest =>
    obtain ⟨rfl, rfl⟩ := hcut
    clear HW HSB
    by_cases h1 : t.size < 1
    · have hc : Hid (canon s.data.toList = false) := Lib.hid (by rw [HC.out]; exact cr_short _ (by rw [len_size]; omega))
      have h1' : (t.size : Int) < 1 := by omega
      go_wp2
      go_ret
      exact ⟨by rw [hc.out]; rfl, rfl⟩
    · by_cases h2 : 400 < t.size
      · have hc : Hid (canon s.data.toList = false) := Lib.hid (by rw [HC.out]; exact cr_long _ (by rw [len_size]; omega))
        have h1' : ¬ (t.size : Int) < 1 := by omega
        have h2' : (400 : Int) < t.size := by omega
        go_wp2
        go_ret
        exact ⟨by rw [hc.out]; rfl, rfl⟩
      · have h1' : ¬ (t.size : Int) < 1 := by omega
        have h2' : ¬ (400 : Int) < t.size := by omega
        have hp : 0 < t.size := by omega
        have hp' : (0 : Int) < t.size := by omega
        have hb0 := byte_at t 0 hp
        by_cases h3 : t[0] = 48
        · have hc : Hid (canon s.data.toList = false) := Lib.hid (by rw [HC.out]; exact cr_head _ (by rw [List.head?_eq_getElem?, hb0, h3]))
          have h3' : ((t[0].toNat : Int) == 48) = true := by rw [h3]; rfl
          clear hb0
          go_wp2
          go_ret
          exact ⟨by rw [hc.out]; rfl, rfl⟩
        · have h3' : ((t[0].toNat : Int) == 48) = false := by rw [beq_eq_false_iff_ne]; intro e; exact h3 (UInt8.toNat_inj.1 (by show t[0].toNat = 48; omega))
          have HH : Hid (canon s.data.toList = t.data.toList.all isDig) := Lib.hid (by rw [HC.out]; exact cr_all _ (by rw [len_size]; omega) (by rw [len_size]; omega) (by rw [List.head?_eq_getElem?, hb0]; simpa using h3))
          clear hb0 HC
          go_wp2
          go_loopw [3] (fun i wr => ∃ k : Nat, k ≤ t.size ∧ i = .int .i64 k ∧ Hid ((t.data.toList.take k).all isDig = true) ∧ wr = wc) (fun i _ => t.size - (intOf i).toNat)
          case atStart => exact ⟨0, by omega, rfl, Lib.hid (by simp), rfl⟩
          case round =>
            obtain ⟨k, hk, rfl, HT, rfl⟩ := hrel
            by_cases hlt : k < t.size
            · have hlt' : (k : Int) < t.size := by omega
              have hb := byte_at t k hlt
              by_cases hd : isDig t[k] = true
              · have hd' := hd
                simp [isDig] at hd'
                have g1 : ¬ (t[k].toNat : Int) < 48 := by omega
                have g2 : ¬ (57 : Int) < (t[k].toNat : Int) := by omega
                have HT2 : Hid ((t.data.toList.take (k + 1)).all isDig = true) := Lib.hid (by rw [List.take_add_one, hb, List.all_append, HT.out]; simpa using hd)
                clear hb hd hd'
                go_wp2
                go_roundw
                case rel => exact ⟨k + 1, by omega, by go_num, HT2, trivial⟩
                case measure => simp [intOf]; omega
              · have hc : Hid (canon s.data.toList = false) := Lib.hid (by
                  rw [HH.out, List.all_eq_false]
                  exact ⟨t[k], List.mem_iff_getElem?.2 ⟨k, hb⟩, hd⟩)
                have hd' : t[k].toNat < 48 ∨ 57 < t[k].toNat := by
                  by_cases q1 : t[k].toNat < 48
                  · exact .inl q1
                  · by_cases q2 : 57 < t[k].toNat
                    · exact .inr q2
                    · exact absurd (by simp [isDig]; omega) hd
                clear hb hd
                rcases hd' with q | q
                · have g1 : (t[k].toNat : Int) < 48 := by omega
                  go_wp2
                  go_ret
                  exact ⟨by rw [hc.out]; rfl, rfl⟩
                · have g1 : ¬ (t[k].toNat : Int) < 48 := by omega
                  have g2 : (57 : Int) < (t[k].toNat : Int) := by omega
                  go_wp2
                  go_ret
                  exact ⟨by rw [hc.out]; rfl, rfl⟩
            · have hc : Hid (canon s.data.toList = true) := Lib.hid (by rw [HH.out]; have h := HT.out; rwa [List.take_of_length_le (by rw [len_size]; omega)] at h)
              have hlt' : ¬ (k : Int) < t.size := by omega
              go_wp2
              go_ret
              exact ⟨by rw [hc.out]; rfl, rfl⟩

end Go.Proofs.YtdkpcjfadabkbaaGreatDoor
