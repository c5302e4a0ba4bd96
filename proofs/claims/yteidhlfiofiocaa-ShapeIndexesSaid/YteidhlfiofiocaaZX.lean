/- The reference's many and typed. -/
import Derived.Test.YteidhlfiofiocaaZU
set_option linter.unusedVariables false
set_option linter.unusedSimpArgs false
namespace Go.Proofs.Yteidhlfiofiocaa
open Go.RowKit Go.Shelf

theorem any_false_of {α : Type} {p : α → Bool} {l : List α} {n : Nat} (hn : l.length = n) (h : ∀ j (h : j < n) (h2 : j < l.length), p (l[j]'h2) = false) : l.any p = false := by
  rw [List.any_eq_false]
  intro x hx
  obtain ⟨j, hj, rfl⟩ := List.getElem_of_mem hx
  rw [h j (by omega) hj]; simp
theorem any_true_of {α : Type} {p : α → Bool} {l : List α} {x : α} (hx : x ∈ l) (h : p x = true) : l.any p = true := by
  rw [List.any_eq_true]; exact ⟨x, hx, h⟩

set_option maxRecDepth 100000 in
set_option maxHeartbeats 6400000 in
theorem rMany_any (v : Value) (d : List DataM) (r : Bool) (w : World) (hv : DsAt w v d) (hd : Sm d) (hr : Hid (Dt.many d = r)) :
    Calls Try.prog 52 #[v] w fun e w' => e = .returned (.bool r) ∧ w' = w := by
  obtain ⟨ad, cap, rfl⟩ := hv.slice
  obtain ⟨n, hn⟩ : ∃ n, d.length = n := ⟨_, rfl⟩
  have hn100 := hd.1
  rw [hn] at hv hn100 ⊢
  have HN := Lib.hid hn
  have HV := Lib.hid hv
  have HD := Lib.hid hd
  clear hn hv hd
  by_cases hbig : 64 < n
  · obtain rfl : r = true := by rw [← hr.out, Dt.many, HN.out, decide_eq_true hbig]; rfl
    have g : (64 : Int) < n := by omega
    go_enter Try.func52, Try.ntmps52
    go_wp2
    go_ret
    exact ⟨rfl, rfl⟩
  · have g : ¬ (64 : Int) < n := by omega
    have hr2 : d.any Dt.manyD = r := by rw [← hr.out, Dt.many, HN.out, decide_eq_false hbig]; rfl
    have HR := Lib.hid hr2
    clear hr2 hr
    go_enter Try.func52, Try.ntmps52
    go_wp2
    clear g
    go_loop [3] (fun i => ∃ k : Nat, k ≤ n ∧ i = .int .i64 k ∧ Hid (∀ j (h : j < k) (h2 : j < d.length), Dt.manyD (d[j]'h2) = false)) (fun i => n - (intOf i).toNat)
    case atStart => exact ⟨0, Nat.zero_le _, rfl, Lib.hid (fun j h => absurd h (Nat.not_lt_zero _))⟩
    case round =>
      obtain ⟨k, hk, rfl, HA⟩ := hrel
      by_cases hlt : k < n
      · have hltz : (k : Int) < (n : Int) := by omega
        have hkd : k < d.length := by rw [HN.out]; exact hlt
        obtain ⟨b, off, fa, fc, rfl, hb, c0, c1, hcs⟩ := HV.out.at k hkd
        obtain ⟨y, hy⟩ : ∃ y, d[k] = y := ⟨_, rfl⟩
        rw [hy] at c1 hcs
        have HY := Lib.hid hy
        have HYM : Hid (y ∈ d) := Lib.hid (by rw [← hy]; exact List.getElem_mem hkd)
        have hys : SmD y := HD.out.2 y HYM.out
        obtain ⟨cs, hcse⟩ : ∃ cs, y.cons = cs := ⟨_, rfl⟩
        have HCE := Lib.hid hcse
        have hcl := hys.2.1
        rw [hcse] at c1 hcs hcl
        obtain ⟨m, hm⟩ : ∃ m, cs.length = m := ⟨_, rfl⟩
        rw [hm] at c1 hcs hcl
        have HM := Lib.hid hm
        have HCS := Lib.hid hcs
        have HTR : Hid (Dt.manyD y = true → r = true) := Lib.hid (fun h => by rw [← HR.out]; exact any_true_of HYM.out h)
        clear hys hcse hm hcs hy c0
        by_cases h16 : 16 < m
        · have g : (16 : Int) < m := by omega
          have hre : r = true := HTR.out (by rw [Dt.manyD, HCE.out, HM.out, decide_eq_true h16]; rfl)
          have HRE := Lib.hid hre
          clear hre
          go_wp2
          go_ret
          exact ⟨by rw [HRE.out] <;> rfl, rfl⟩
        · have g : ¬ (16 : Int) < m := by omega
          go_wp2
          clear g
          go_loop [4] (fun i => ∃ s : Nat, s ≤ m ∧ i = .int .i64 s ∧ Hid (∀ j (h : j < s) (h2 : j < cs.length), Dt.manyC (cs[j]'h2) = false)) (fun i => m - (intOf i).toNat)
          case atStart => exact ⟨0, Nat.zero_le _, rfl, Lib.hid (fun j h => absurd h (Nat.not_lt_zero _))⟩
          case round =>
            obtain ⟨s, hs, rfl, HB⟩ := hrel
            by_cases hlt2 : s < m
            · have hltz2 : (s : Int) < (m : Int) := by omega
              have hsl : s < cs.length := by rw [HM.out]; exact hlt2
              obtain ⟨b2, off2, ga, gc, rfl, hb2, e0, e1, hfs⟩ := HCS.out.at s hsl
              obtain ⟨z, hz⟩ : ∃ z, cs[s] = z := ⟨_, rfl⟩
              rw [hz] at e1
              have HZ := Lib.hid hz
              have HZM : Hid (z ∈ cs) := Lib.hid (by rw [← hz]; exact List.getElem_mem hsl)
              obtain ⟨f, hf⟩ : ∃ f, z.fields.length = f := ⟨_, rfl⟩
              rw [hf] at e1
              have HF := Lib.hid hf
              clear hz hfs hf e0
              by_cases h6 : 6 < f
              · have g : (6 : Int) < f := by omega
                have hre : r = true := HTR.out (by rw [Dt.manyD, HCE.out, any_true_of HZM.out (by rw [Dt.manyC, HF.out, decide_eq_true h6])]; simp)
                have HRE := Lib.hid hre
                clear hre
                go_wp2
                go_ret
                exact ⟨by rw [HRE.out] <;> rfl, rfl⟩
              · have g : ¬ (6 : Int) < f := by omega
                go_wp2
                go_round
                case rel =>
                  refine ⟨s + 1, by omega, by go_num, Lib.hid (fun j h h2 => ?_)⟩
                  by_cases e : j = s
                  · subst e; rw [HZ.out, Dt.manyC, HF.out, decide_eq_false h6]
                  · exact HB.out j (by omega) h2
                case measure => simp [intOf]; omega
            · obtain rfl : m = s := by omega
              have hnn : ¬ (m : Int) < m := by omega
              go_wp2
              go_round
              case rel =>
                refine ⟨k + 1, by omega, by go_num, Lib.hid (fun j h h2 => ?_)⟩
                by_cases e : j = k
                · subst e; rw [HY.out, Dt.manyD, HCE.out, HM.out, decide_eq_false h16, any_false_of HM.out HB.out]; rfl
                · exact HA.out j (by omega) h2
              case measure => simp [intOf]; omega
      · obtain rfl : n = k := by omega
        have hnn : ¬ (n : Int) < n := by omega
        have HRE : Hid (r = false) := Lib.hid (by rw [← HR.out]; exact any_false_of HN.out HA.out)
        go_wp2
        go_ret
        exact ⟨by rw [HRE.out] <;> rfl, rfl⟩

set_option maxRecDepth 100000 in
set_option maxHeartbeats 6400000 in
theorem rTyped_any (v : Value) (d : List DataM) (r : Bool) (w : World) (hv : DsAt w v d) (hd : Sm d) (hr : Hid (Dt.typed d = r)) :
    Calls Try.prog 55 #[v] w fun e w' => e = .returned (.bool r) ∧ w' = w := by
  obtain ⟨ad, cap, rfl⟩ := hv.slice
  obtain ⟨n, hn⟩ : ∃ n, d.length = n := ⟨_, rfl⟩
  have hn100 := hd.1
  rw [hn] at hv hn100 ⊢
  have HN := Lib.hid hn
  have HV := Lib.hid hv
  have HD := Lib.hid hd
  have HTR : Hid (d.any (Dt.offD d) = true → r = false) := Lib.hid (fun h => by rw [← hr.out, Dt.typed, h]; rfl)
  have HFA : Hid (d.any (Dt.offD d) = false → r = true) := Lib.hid (fun h => by rw [← hr.out, Dt.typed, h]; rfl)
  clear hn hv hd hr
  go_enter Try.func55, Try.ntmps55
  go_wp2
  go_loop [3] (fun i => ∃ k : Nat, k ≤ n ∧ i = .int .i64 k ∧ Hid (∀ j (h : j < k) (h2 : j < d.length), Dt.offD d (d[j]'h2) = false)) (fun i => n - (intOf i).toNat)
  case atStart => exact ⟨0, Nat.zero_le _, rfl, Lib.hid (fun j h => absurd h (Nat.not_lt_zero _))⟩
  case round =>
    obtain ⟨k, hk, rfl, HA⟩ := hrel
    by_cases hlt : k < n
    · have hltz : (k : Int) < (n : Int) := by omega
      have hkd : k < d.length := by rw [HN.out]; exact hlt
      obtain ⟨b, off, fa, fc, rfl, hb, c0, c1, hcs⟩ := HV.out.at k hkd
      obtain ⟨y, hy⟩ : ∃ y, d[k] = y := ⟨_, rfl⟩
      rw [hy] at c1 hcs
      have HY := Lib.hid hy
      have HYM : Hid (y ∈ d) := Lib.hid (by rw [← hy]; exact List.getElem_mem hkd)
      have hys : SmD y := HD.out.2 y HYM.out
      obtain ⟨cs, hcse⟩ : ∃ cs, y.cons = cs := ⟨_, rfl⟩
      have HCE := Lib.hid hcse
      have hcl := hys.2.1
      have hcsm := hys.2.2
      rw [hcse] at c1 hcs hcl hcsm
      obtain ⟨m, hm⟩ : ∃ m, cs.length = m := ⟨_, rfl⟩
      rw [hm] at c1 hcs hcl
      have HM := Lib.hid hm
      have HCS := Lib.hid hcs
      have HCSM := Lib.hid hcsm
      clear hys hcse hm hcs hy c0 hcsm
      go_wp2
      go_loop [4] (fun i => ∃ s : Nat, s ≤ m ∧ i = .int .i64 s ∧ Hid (∀ j (h : j < s) (h2 : j < cs.length), Dt.offC d (cs[j]'h2) = false)) (fun i => m - (intOf i).toNat)
      case atStart => exact ⟨0, Nat.zero_le _, rfl, Lib.hid (fun j h => absurd h (Nat.not_lt_zero _))⟩
      case round =>
        obtain ⟨s, hs, rfl, HB⟩ := hrel
        by_cases hlt2 : s < m
        · have hltz2 : (s : Int) < (m : Int) := by omega
          have hsl : s < cs.length := by rw [HM.out]; exact hlt2
          obtain ⟨b2, off2, ga, gc, rfl, hb2, e0, e1, hfs⟩ := HCS.out.at s hsl
          obtain ⟨z, hz⟩ : ∃ z, cs[s] = z := ⟨_, rfl⟩
          rw [hz] at e1 hfs
          have HZ := Lib.hid hz
          have HZM : Hid (z ∈ cs) := Lib.hid (by rw [← hz]; exact List.getElem_mem hsl)
          have hzs : SmC z := HCSM.out z HZM.out
          obtain ⟨fl, hfl⟩ : ∃ fl, z.fields = fl := ⟨_, rfl⟩
          have HFLE := Lib.hid hfl
          have hfl1 := hzs.2.1
          rw [hfl] at e1 hfs hfl1
          obtain ⟨g, hg⟩ : ∃ g, fl.length = g := ⟨_, rfl⟩
          rw [hg] at e1 hfs hfl1
          have HG := Lib.hid hg
          have HFS := Lib.hid hfs
          clear hz hfs hfl hg e0 hzs
          go_wp2
          go_loop [6] (fun i => ∃ q : Nat, q ≤ g ∧ i = .int .i64 q ∧ Hid (∀ j (h : j < q) (h2 : j < fl.length), Dt.offT d (fl[j]'h2) = false)) (fun i => g - (intOf i).toNat)
          case atStart => exact ⟨0, Nat.zero_le _, rfl, Lib.hid (fun j h => absurd h (Nat.not_lt_zero _))⟩
          case round =>
            obtain ⟨q, hq, rfl, HQ⟩ := hrel
            by_cases hlt3 : q < g
            · have hltz3 : (q : Int) < (g : Int) := by omega
              have hql : q < fl.length := by rw [HG.out]; exact hlt3
              obtain ⟨b3, off3, rfl, hb3, s0⟩ := HFS.out.at q hql
              obtain ⟨f, hfe⟩ : ∃ f, fl[q] = f := ⟨_, rfl⟩
              rw [hfe] at s0
              have HFX := Lib.hid hfe
              have HFM : Hid (f ∈ fl) := Lib.hid (by rw [← hfe]; exact List.getElem_mem hql)
              obtain ⟨o, ho⟩ : ∃ o, Dt.ok d f = o := ⟨_, rfl⟩
              have HO := Lib.hid ho
              have HIS := Lib.hid (rIsType_any (some ⟨b, off, none⟩) n cap f d o w HN HO)
              clear hfe ho
              go_wp2_with fail
              refine HIS.out.mono ?_
              rintro e w' ⟨rfl, hw⟩
              rw [hw]
              clear hw w' HIS
              cases o with
              | false =>
                have HRE : Hid (r = false) := Lib.hid (HTR.out (any_true_of HYM.out (by
                  rw [Dt.offD, HCE.out]
                  refine any_true_of HZM.out ?_
                  rw [Dt.offC, HFLE.out]
                  refine any_true_of HFM.out ?_
                  rw [Dt.offT, HO.out]; rfl)))
                go_wp2
                go_ret
                exact ⟨by rw [HRE.out] <;> rfl, rfl⟩
              | true =>
                go_wp2
                go_round
                case rel =>
                  refine ⟨q + 1, by omega, by go_num, Lib.hid (fun j h h2 => ?_)⟩
                  by_cases e : j = q
                  · subst e; rw [HFX.out, Dt.offT, HO.out]; rfl
                  · exact HQ.out j (by omega) h2
                case measure => simp [intOf]; omega
            · obtain rfl : g = q := by omega
              have hnn : ¬ (g : Int) < g := by omega
              go_wp2
              go_round
              case rel =>
                refine ⟨s + 1, by omega, by go_num, Lib.hid (fun j h h2 => ?_)⟩
                by_cases e : j = s
                · subst e; rw [HZ.out, Dt.offC, HFLE.out]; exact any_false_of HG.out HQ.out
                · exact HB.out j (by omega) h2
              case measure => simp [intOf]; omega
        · obtain rfl : m = s := by omega
          have hnn : ¬ (m : Int) < m := by omega
          go_wp2
          go_round
          case rel =>
            refine ⟨k + 1, by omega, by go_num, Lib.hid (fun j h h2 => ?_)⟩
            by_cases e : j = k
            · subst e; rw [HY.out, Dt.offD, HCE.out]; exact any_false_of HM.out HB.out
            · exact HA.out j (by omega) h2
          case measure => simp [intOf]; omega
    · obtain rfl : n = k := by omega
      have hnn : ¬ (n : Int) < n := by omega
      have HRE : Hid (r = true) := Lib.hid (HFA.out (any_false_of HN.out HA.out))
      go_wp2
      go_ret
      exact ⟨by rw [HRE.out] <;> rfl, rfl⟩

end Go.Proofs.Yteidhlfiofiocaa
