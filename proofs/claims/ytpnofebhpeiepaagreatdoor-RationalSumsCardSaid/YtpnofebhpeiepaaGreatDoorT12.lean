/- The law RationalSums. -/
import Derived.Test.YtpnofebhpeiepaaGreatDoorT11
set_option linter.unusedVariables false
set_option linter.unusedSimpArgs false
namespace Go.Proofs.YtpnofebhpeiepaaGreatDoor
open Go.RowKit _root_.Go.Proofs.YtpnofebhpeiepaaGreatDoor.Nm

theorem SumRes.ex (l : List ByteArray) : ∃ s e, SumRes l s e := by
  unfold SumRes
  cases allR l with
  | none => exact ⟨_, _, rfl, rfl⟩
  | some qs =>
    dsimp only
    cases accR 0 qs with
    | none => exact ⟨_, _, rfl, rfl⟩
    | some t => exact ⟨_, _, rfl, rfl⟩
theorem SumRes.bad {l : List ByteArray} {s : ByteArray} {e : Int} (h : SumRes l s e) (ha : allR l = none) : s = ⟨#[]⟩ ∧ e = 3 := by
  unfold SumRes at h
  rw [ha] at h
  exact h

set_option maxRecDepth 100000 in
set_option maxHeartbeats 1600000 in
theorem short_gen (ad : Option Addr) (g off c : Nat) (l : List ByteArray) (n : Nat) (hl : l.length = n) (hn : n ≤ 100000) (b : Bool) (w : World) (had : Hid (n = 0 ∨ ad = some ⟨g, off, none⟩ ∧ g < w.heap.size)) (hc : Hid (∀ (i : Nat) (h : i < l.length), w.cell? ⟨g, off + i, none⟩ = some (.string l[i]))) (hb : Hid (shortB l = b)) :
    Calls Tryz.prog 15 #[.slice ad n c] w fun e w' => e = .returned (.bool b) ∧ w = w' := by
  rcases had.out with h0 | ⟨rfl, _⟩
  · subst h0
    obtain rfl : l = [] := List.eq_nil_of_length_eq_zero hl
    obtain rfl : b = true := by rw [← hb.out]; rfl
    go_enter Tryz.func15, Tryz.ntmps15
    go_wp2
    go_loop [3] (fun i => i = .int .i64 0) (fun i => 0)
    case atStart => rfl
    case round =>
      subst hrel
      go_wp2
      go_ret
      exact ⟨rfl, rfl⟩
  · exact short_any g off c l n hl hn b w hc hb

set_option maxRecDepth 100000 in
set_option maxHeartbeats 3200000 in
theorem sums_many (ad : Option Addr) (c n : Nat) (w : World) (htab : Tab w) (hn : (8 : Int) < n) :
    Calls Tryz.prog 7 #[.slice ad n c] w fun e w' => e = .returned (.bool true) ∧ Below w.heap.size w w' := by
  have HT := Lib.hid htab
  clear htab
  go_enter Tryz.func7, Tryz.ntmps7
  go_wp2_with fail
  refine (qawake_any _ HT.out).mono ?_
  rintro e w1 ⟨rfl, hb⟩
  have HW1 := Lib.hid hb
  clear hb
  go_wp2
  go_ret
  exact ⟨rfl, HW1.out⟩

set_option maxRecDepth 100000 in
set_option maxHeartbeats 3200000 in
theorem sums_out (ad : Option Addr) (g off c : Nat) (l : List ByteArray) (n : Nat) (hl : l.length = n) (hn : n ≤ 8) (w : World) (had : Hid (n = 0 ∨ ad = some ⟨g, off, none⟩ ∧ g < w.heap.size)) (hc : Hid (∀ (i : Nat) (h : i < l.length), w.cell? ⟨g, off + i, none⟩ = some (.string l[i]))) (hb : Hid (shortB l = false)) (htab : Tab w) :
    Calls Tryz.prog 7 #[.slice ad n c] w fun e w' => e = .returned (.bool true) ∧ Below w.heap.size w w' := by
  have HT := Lib.hid htab
  have HL := Lib.hid (And.intro trivial hl)
  have hn2 : (n : Int) ≤ 8 := by omega
  clear htab hl
  go_enter Tryz.func7, Tryz.ntmps7
  go_wp2_with fail
  refine (short_gen ad g off c l n HL.out.2 (by omega) false _ had hc hb).mono ?_
  rintro e w0 ⟨rfl, rfl⟩
  go_wp2_with fail
  refine (qawake_any _ HT.out).mono ?_
  rintro e w1 ⟨rfl, hb⟩
  have HW1 := Lib.hid hb
  clear hb
  go_wp2
  go_ret
  exact ⟨rfl, HW1.out⟩

set_option maxRecDepth 100000 in
set_option maxHeartbeats 12800000 in
theorem sums_in (ad : Option Addr) (g off c : Nat) (l : List ByteArray) (n : Nat) (s : ByteArray) (ec : Int) (hl : l.length = n) (hn : n ≤ 8) (w : World) (had : Hid (n = 0 ∨ ad = some ⟨g, off, none⟩ ∧ g < w.heap.size)) (hc : Hid (∀ (i : Nat) (h : i < l.length), w.cell? ⟨g, off + i, none⟩ = some (.string l[i]))) (hb : Hid (shortB l = true)) (hz : Hid (∀ x ∈ l, x.size ≤ 100000)) (hr : Hid (SumRes l s ec)) (htab : Tab w) :
    Calls Tryz.prog 7 #[.slice ad n c] w fun e w' => e = .returned (.bool true) ∧ Below w.heap.size w w' := by
  have HT := Lib.hid htab
  have HL := Lib.hid (And.intro trivial hl)
  have hn2 : (n : Int) ≤ 8 := by omega
  clear htab hl
  go_enter Tryz.func7, Tryz.ntmps7
  go_wp2_with fail
  refine (short_gen ad g off c l n HL.out.2 (by omega) true _ had hc hb).mono ?_
  rintro e w0 ⟨rfl, rfl⟩
  go_wp2_with fail
  refine (qSum_any ad g off c l n s ec HL.out.2 hn _ had hc hz hr HT.out).mono ?_
  rintro e w1 ⟨rfl, hb⟩
  have HW1 := Lib.hid hb
  clear hb
  go_wp2
  go_loopw [5] (fun i wr => ∃ k : Nat, k ≤ n ∧ i = .int .i64 k ∧ Hid (∀ j (h : j < l.length), j < k → ∃ q, rval l[j].data.toList = some q) ∧ Hid (Below w.heap.size w wr)) (fun i _ => n - (intOf i).toNat)
  case atStart => exact ⟨0, Nat.zero_le _, rfl, Lib.hid (fun j h hj => absurd hj (Nat.not_lt_zero j)), HW1⟩
  case round =>
    obtain ⟨k, hk, rfl, HA, HB⟩ := hrel
    by_cases hlt : k < n
    · have hkl : k < l.length := by rw [HL.out.2]; exact hlt
      obtain ⟨rfl, hg⟩ : ad = some ⟨g, off, none⟩ ∧ g < w.heap.size := by rcases had.out with h | h; (omega); exact h
      have hcell := (HB.out.cell (p := ⟨g, off + k, none⟩) hg).trans (hc.out k hkl)
      have hsz := hz.out _ (List.getElem_mem hkl)
      have h1 : (0 : Int) ≤ k := by omega
      have h2 : (k : Int) < n := by omega
      cases ho : rval l[k].data.toList with
      | none =>
        obtain ⟨rfl, rfl⟩ := hr.out.bad (allR_bad l k hkl ho)
        obtain ⟨x, hx⟩ : ∃ x, l[k] = x := ⟨_, rfl⟩
        rw [hx] at hcell hsz ho
        have HO := Lib.hid ho
        clear hx hkl ho
        go_wp2_with fail
        refine (rrValid_any x none _ HO hsz).mono ?_
        rintro e w2 ⟨rfl, hb⟩
        rw [show (none : Option Rat).isSome = false from rfl]
        have HW2 := Lib.hid (HB.out.trans (hb.mono HB.out.size))
        clear hb hcell
        go_wp2_with fail
        refine (qawake_any _ (tab_keep HT.out HW2.out)).mono ?_
        rintro e w3 ⟨rfl, hb⟩
        have HW3 := Lib.hid (HW2.out.trans (hb.mono HW2.out.size))
        clear hb
        go_wp2
        go_ret
        exact ⟨rfl, HW3.out⟩
      | some q =>
        have HA2 : Hid (∀ j (h : j < l.length), j < k + 1 → ∃ q, rval l[j].data.toList = some q) := Lib.hid (fun j h hj => by
          rcases Nat.lt_or_eq_of_le (Nat.le_of_lt_succ hj) with h3 | rfl
          · exact HA.out j h h3
          · exact ⟨q, ho⟩)
        obtain ⟨x, hx⟩ : ∃ x, l[k] = x := ⟨_, rfl⟩
        rw [hx] at hcell hsz ho
        have HO := Lib.hid ho
        clear hx hkl ho
        go_wp2_with fail
        refine (rrValid_any x (some q) _ HO hsz).mono ?_
        rintro e w2 ⟨rfl, hb⟩
        rw [show (some q : Option Rat).isSome = true from rfl]
        have HW2 := Lib.hid (HB.out.trans (hb.mono HB.out.size))
        clear hb hcell
        go_wp2
        go_roundw
        case rel => exact ⟨k + 1, by omega, by go_num, HA2, HW2⟩
        case measure => simp [intOf]; omega
    · obtain rfl : k = n := by omega
      obtain ⟨qs, hall⟩ : ∃ qs, allR l = some qs := by
        cases ha : allR l with
        | some qs => exact ⟨qs, rfl⟩
        | none =>
          obtain ⟨i, hi, hn⟩ := allR_none l ha
          obtain ⟨q, hq⟩ := HA.out i hi (by rw [← HL.out.2]; exact hi)
          rw [hn] at hq; cases hq
      have hse := hr.out.of hall
      have hqs := allR_some l qs hall
      obtain ⟨o, ho⟩ : ∃ o, accR 0 qs = o := ⟨_, rfl⟩
      rw [ho] at hse
      have HSE := Lib.hid hse
      have HQS := Lib.hid hqs
      have HO := Lib.hid ho
      obtain ⟨wo, rfl⟩ : ∃ wo : World, wo = wr := ⟨_, rfl⟩
      clear hall hse hqs ho hlt hk
      go_wp2_with fail
      refine (rrInt_zero _).mono ?_
      rintro e w2 ⟨v, rfl, ⟨n1, a1, l1, c1, n2, a2, l2, c2, rfl, hz1, hz2⟩, hb⟩
      have hA := (Below.refl w2.heap.size w2).alloc (Nat.le_refl _) (.cells #[.bool n1, .slice a1 l1 c1, .bool n2, .slice a2 l2 c2] 30)
      obtain ⟨g9, hg9⟩ : ∃ g9, w2.heap.size = g9 := ⟨_, rfl⟩
      have HV3 : Hid (RRef (w2.alloc (.cells #[.bool n1, .slice a1 l1 c1, .bool n2, .slice a2 l2 c2] 30)) (.agg #[.bool n1, .slice a1 l1 c1, .bool n2, .slice a2 l2 c2]) 0) := Lib.hid ⟨_, _, _, _, _, _, _, _, rfl, hz1.keep hA (Nat.le_refl _), hz2.keep hA (Nat.le_refl _)⟩
      have HX3 : Hid (B4 (w2.alloc (.cells #[.bool n1, .slice a1 l1 c1, .bool n2, .slice a2 l2 c2] 30)) g9 (.bool n1) (.slice a1 l1 c1) (.bool n2) (.slice a2 l2 c2)) := Lib.hid (by rw [← hg9]; exact B4.new w2 _ _ _ _ _)
      have HW3 := Lib.hid ((HB.out.trans (hb.mono HB.out.size)).trans (hA.mono (Nat.le_trans HB.out.size hb.size)))
      have HG9 : Hid (w.heap.size ≤ g9) := Lib.hid (by have := HB.out.size; have := hb.size; omega)
      clear hz1 hz2 hb hA
      go_wp2
      try rw [hg9]
      generalize w2.alloc (.cells #[.bool n1, .slice a1 l1 c1, .bool n2, .slice a2 l2 c2] 30) = w3 at *
      clear hg9
      go_loopw [7] (fun i wr => ∃ (m : Nat) (tot : Rat), m ≤ k ∧ i = .int .i64 m ∧ Hid (rshort tot = true ∧ accR tot (qs.drop m) = o) ∧ Hid (∃ n1 a1 l1 c1 n2 a2 l2 c2, B4 wr g9 (.bool n1) (.slice a1 l1 c1) (.bool n2) (.slice a2 l2 c2) ∧ RRef wr (.agg #[.bool n1, .slice a1 l1 c1, .bool n2, .slice a2 l2 c2]) tot) ∧ Hid (Below w.heap.size w wr)) (fun i _ => k - (intOf i).toNat)
      case atStart => exact ⟨0, 0, Nat.zero_le _, rfl, Lib.hid ⟨by decide +kernel, HO.out⟩, Lib.hid ⟨_, _, _, _, _, _, _, _, HX3.out, HV3.out⟩, HW3⟩
      case round =>
        obtain ⟨m, tot, hm, rfl, HACC, HBX, HW4⟩ := hrel
        obtain ⟨n3, a3, l3, c3, n4, a4, l4, c4, hbx, htf⟩ := HBX.out
        by_cases hlt : m < k
        · have hml : m < l.length := by rw [HL.out.2]; exact hlt
          obtain ⟨rfl, hg⟩ : ad = some ⟨g, off, none⟩ ∧ g < w.heap.size := by rcases had.out with h | h; (omega); exact h
          have hcell : wr.cell? ⟨g, off + m, none⟩ = some (.string l[m]) := (HW4.out.cell (p := ⟨g, off + m, none⟩) hg).trans (hc.out m hml)
          have hsz := hz.out _ (List.getElem_mem hml)
          have hv := HQS.out.2 m hml
          have hmq : m < qs.length := by rw [← HQS.out.1]; exact hml
          obtain ⟨q, hq⟩ : ∃ q, qs[m]? = some q := ⟨_, List.getElem?_eq_getElem hmq⟩
          have hdrop : qs.drop m = q :: qs.drop (m + 1) := by
            rw [List.drop_eq_getElem_cons hmq]
            rw [List.getElem?_eq_getElem hmq] at hq
            rw [Option.some.inj hq]
          rw [hq] at hv
          obtain ⟨x, hx⟩ : ∃ x, l[m] = x := ⟨_, rfl⟩
          rw [hx] at hcell hsz hv
          obtain ⟨r, hrr⟩ : ∃ r, tot + q = r := ⟨_, rfl⟩
          have HV := Lib.hid hv
          have HR1 := Lib.hid (RT.of HACC.out.1)
          have HR2 := Lib.hid (RT.val hv)
          have hacc := HACC.out.2
          rw [hdrop] at hacc
          unfold accR at hacc
          rw [hrr] at hacc
          have HACC2 := Lib.hid hacc
          have HRR := Lib.hid hrr
          obtain ⟨lb, hlb⟩ : ∃ lb, (!rshort r) = lb := ⟨_, rfl⟩
          have HLB := Lib.hid (And.intro trivial hlb)
          have HX4 := Lib.hid (B4.drew hbx)
          have HT4 := Lib.hid (htf.keep (Below.refl _ _).drew (Nat.le_refl _))
          have HW5 := Lib.hid HW4.out.drew
          have h1 : (0 : Int) ≤ m := by omega
          have h2 : (m : Int) < k := by omega
          obtain ⟨k0, k1, k2, k3⟩ := hbx.cell
          clear hml hmq hq hdrop hx hv hacc hrr hlb hbx htf
          go_wp2_with fail
          go_cut [56] (fun t wx => ∃ (m1 : Bool) (b1 : Option Addr) (j1 d1 : Nat) (m2 : Bool) (b2 : Option Addr) (j2 d2 : Nat), Hid (B4 wx g9 (.bool m1) (.slice b1 j1 d1) (.bool m2) (.slice b2 j2 d2)) ∧ Hid (RRef wx (.agg #[.bool m1, .slice b1 j1 d1, .bool m2, .slice b2 j2 d2]) r) ∧ Hid (Below w.heap.size w wx))
          case first =>
            first | go_region_with (first | (go_at_call 26; have hgd := hX5; clear hgd; refine (rrAdd_any _ _ tot q 400 r _ (by exact HT4.out.keep hb5 (Nat.le_refl _)) (by exact hv5) HR1.out HR2.out (by omega) HRR).mono ?_; rintro e w6 ⟨v6, rfl, hv6, hb6⟩; obtain ⟨m1, b1, j1, d1, m2, b2, j2, d2, rfl, hz1, hz2⟩ := hv6; have hX6 := hX5.below hb6 hX5.lt; have hW6 := hW5.trans (hb6.mono hW5.size); clear j0 j1' j2' j3; obtain ⟨e0, e1, e2, e3⟩ := hX6.cell; obtain ⟨f0, f1, f2, f3⟩ := hX6.froz) | (go_at_call 42; refine (rrOf_some x q _ HV hsz).mono ?_; rintro e w5 ⟨v5, rfl, hv5', hb5⟩; obtain ⟨s1, s2, s3, s4, s5, s6, s7, s8, rfl, hs1, hs2⟩ := hv5'; have hv5 : RRef w5 (.agg #[.bool s1, .slice s2 s3 s4, .bool s5, .slice s6 s7 s8]) q := ⟨_, _, _, _, _, _, _, _, rfl, hs1, hs2⟩; clear hs1 hs2; have hX5 := HX4.out.below hb5 HX4.out.lt; have hW5 := HW5.out.trans (hb5.mono HW5.out.size); clear k0 k1 k2 k3; obtain ⟨j0, j1', j2', j3⟩ := hX5.cell)) | fail
            all_goals (go_wp2_with fail; go_meet; case rel => exact ⟨_, _, _, _, _, _, _, _, Lib.hid (hX6.put (.bool m1) (.slice b1 j1 d1) (.bool m2) (.slice b2 j2 d2)), Lib.hid (RRef.box4 ⟨_, _, _, _, _, _, _, _, rfl, hz1, hz2⟩ hX6 (.bool m1) (.slice b1 j1 d1) (.bool m2) (.slice b2 j2 d2)), Lib.hid (hW6.trans ((set4_only w6 g9 (.bool m1) (.slice b1 j1 d1) (.bool m2) (.slice b2 j2 d2)).below HG9.out))⟩)
          case rest =>
          obtain ⟨m1, b1, j1, d1, m2, b2, j2, d2, HX7, HV7, HW7⟩ := hcut
          clear k0 k1 k2 k3 hcell
          obtain ⟨x0, x1, x2, x3⟩ := HX7.out.cell
          go_wp2_with fail
          refine (rrLong_any _ r lb _ HV7.out HLB).mono ?_
          rintro e w8 ⟨rfl, hb8⟩
          have HW8 := Lib.hid (HW7.out.trans (hb8.mono HW7.out.size))
          have HV8 := Lib.hid (HV7.out.keep hb8 (Nat.le_refl _))
          have HX8 := Lib.hid (HX7.out.below hb8 HX7.out.lt)
          clear hb8 x0 x1 x2 x3
          cases lb with
          | true =>
            obtain rfl : o = none := by
              have h3 := HACC2.out
              have h4 : rshort r = false := by have := HLB.out.2; cases hs : rshort r with | false => rfl | true => rw [hs] at this; cases this
              rw [h4, if_neg (by decide)] at h3
              exact h3.symm
            obtain ⟨rfl, rfl⟩ := HSE.out.1 rfl
            go_wp2_with fail
            refine (qawake_any _ (tab_keep HT.out HW8.out)).mono ?_
            rintro e w9 ⟨rfl, hb9⟩
            have HW9 := Lib.hid (HW8.out.trans (hb9.mono HW8.out.size))
            clear hb9
            go_wp2
            go_ret
            exact ⟨rfl, HW9.out⟩
          | false =>
            have HACC3 : Hid (rshort r = true ∧ accR r (qs.drop (m + 1)) = o) := Lib.hid (by
              have h3 := HACC2.out
              have h4 : rshort r = true := by have := HLB.out.2; cases hs : rshort r with | true => rfl | false => rw [hs] at this; cases this
              rw [h4, if_pos rfl] at h3
              exact ⟨h4, h3⟩)
            go_wp2
            go_roundw
            case rel => exact ⟨m + 1, r, by omega, by go_num, HACC3, Lib.hid ⟨_, _, _, _, _, _, _, _, HX8.out, HV8.out⟩, HW8⟩
            case measure => simp [intOf]; omega
        · obtain rfl : m = k := by omega
          have hacc := HACC.out.2
          rw [List.drop_of_length_le (by rw [← HQS.out.1, HL.out.2]; exact Nat.le_refl _)] at hacc
          unfold accR at hacc
          obtain ⟨hs1, rfl⟩ := HSE.out.2 tot hacc.symm
          have HS1 := Lib.hid (And.intro trivial hs1)
          have HRT := Lib.hid (RT.of HACC.out.1)
          have HX4 := Lib.hid hbx
          have HT4 := Lib.hid htf
          clear hacc hs1 hbx htf
          go_wp2_with fail
          refine (qawake_any _ (tab_keep HT.out HW4.out)).mono ?_
          rintro e w5 ⟨rfl, hb⟩
          have HW5 := Lib.hid (HW4.out.trans (hb.mono HW4.out.size))
          have HX5 := Lib.hid (HX4.out.below hb HX4.out.lt)
          have HT5 := Lib.hid (HT4.out.keep hb (Nat.le_refl _))
          clear hb
          obtain ⟨x0, x1, x2, x3⟩ := HX5.out.cell
          go_wp2_with fail
          refine (rrText_any _ tot s 400 _ HT5.out HRT.out (by omega) HS1).mono ?_
          rintro e w6 ⟨rfl, hb⟩
          have HW6 := Lib.hid (HW5.out.trans (hb.mono HW5.out.size))
          clear hb x0 x1 x2 x3
          go_wp2
          go_ret
          exact ⟨rfl, HW6.out⟩

theorem law_RationalSums (ad : Option Addr) (g off c : Nat) (l : List ByteArray) (n : Nat) (hl : l.length = n) (w : World) (had : n = 0 ∨ ad = some ⟨g, off, none⟩ ∧ g < w.heap.size) (hc : ∀ (i : Nat) (h : i < l.length), w.cell? ⟨g, off + i, none⟩ = some (.string l[i])) (htab : Tab w) :
    Calls Tryz.prog 7 #[.slice ad n c] w fun e w' => e = .returned (.bool true) ∧ Below w.heap.size w w' := by
  by_cases hn : n ≤ 8
  · cases hb : shortB l with
    | false => exact sums_out ad g off c l n hl hn w (Lib.hid had) (Lib.hid hc) (Lib.hid hb) htab
    | true =>
      obtain ⟨s, ec, hr⟩ := SumRes.ex l
      refine sums_in ad g off c l n s ec hl hn w (Lib.hid had) (Lib.hid hc) (Lib.hid hb) (Lib.hid (fun x hx => ?_)) (Lib.hid hr) htab
      unfold shortB at hb
      rw [List.all_eq_true] at hb
      have := of_decide_eq_true (hb x hx)
      omega
  · exact sums_many ad c n w htab (by omega)

end Go.Proofs.YtpnofebhpeiepaaGreatDoor
