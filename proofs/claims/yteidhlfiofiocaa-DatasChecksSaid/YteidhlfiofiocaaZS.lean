/- The reference's Cells, Type, Con and Name. -/
import Derived.Test.YteidhlfiofiocaaZR
set_option linter.unusedVariables false
set_option linter.unusedSimpArgs false
namespace Go.Proofs.Yteidhlfiofiocaa
open Go.RowKit Go.Shelf

set_option maxRecDepth 100000 in
set_option maxHeartbeats 3200000 in
theorem rCells_any (v : Value) (d : List DataM) (t con : Int) (w : World) (hv : DsAt w v d) (hd : Sm d) :
    Calls Try.prog 22 #[v, .int .i64 t, .int .i64 con] w fun e w' => e = .returned (.int .i64 (Dt.cells d t con)) ∧ w' = w := by
  obtain ⟨ad, cap, rfl⟩ := hv.slice
  have hd1 := hd.1
  by_cases h0 : t = 0
  · subst h0
    have hc : Dt.cells d 0 con = 0 := by
      have h1 : Dt.consOf d 0 = [] := by simp [Dt.consOf]
      rw [Dt.cells, h1]
      unfold Dt.cellsL
      simp
    rw [hc]
    clear hv hd hc
    go_enter Try.func22, Try.ntmps22
    go_wp2
    go_ret
    exact ⟨rfl, rfl⟩
  · have ht0 : (t == 0) = false := by simp [h0]
    cases hok : Dt.ok d t with
    | false =>
      have hc : Dt.cells d t con = 0 := by
        have h1 : Dt.consOf d t = [] := by simp [Dt.consOf, hok]
        rw [Dt.cells, h1]
        unfold Dt.cellsL
        simp
      have HE := Lib.hid (rIsType_any ad d.length cap t d false w (Lib.hid rfl) (Lib.hid hok))
      rw [hc]
      obtain ⟨n, hn⟩ : ∃ n, d.length = n := ⟨_, rfl⟩
      rw [hn] at HE ⊢
      clear hv hd hok hc hn hd1
      go_enter Try.func22, Try.ntmps22
      go_wp2_with fail
      refine HE.out.mono ?_
      rintro e w' ⟨rfl, rfl⟩
      go_wp2
      go_ret
      exact ⟨rfl, rfl⟩
    | true =>
      have HE := Lib.hid (rIsType_any ad d.length cap t d true w (Lib.hid rfl) (Lib.hid hok))
      obtain ⟨k, x, b, off, fa, fc, rfl, hkd, hx, hcons, _, rfl, hb, c0, c1, hcs⟩ := typ_at hv hok h0
      have hxs : SmD x := hd.2 x (List.mem_of_getElem? hx)
      obtain ⟨cs, hcse⟩ : ∃ cs, x.cons = cs := ⟨_, rfl⟩
      rw [hcse] at c1 hcs hcons
      have hcl := hxs.2.1
      rw [hcse] at hcl
      have hcells : Dt.cells d ((k : Int) + 1) con = Dt.cellsL cs con := by rw [Dt.cells, hcons]
      rw [hcells]
      unfold Dt.cellsL
      obtain ⟨m, hm⟩ : ∃ m, cs.length = m := ⟨_, rfl⟩
      rw [hm] at c1 hcs hcl ⊢
      have HM := Lib.hid hm
      have HCS := Lib.hid hcs
      obtain ⟨n, hn⟩ : ∃ n, d.length = n := ⟨_, rfl⟩
      rw [hn] at HE hkd hd1 ⊢
      have hkn : (k : Int) < n := by omega
      have hw1 : wrap64 ((k : Int) + 1 - 1) = k := by rw [show (k : Int) + 1 - 1 = k by omega]; exact wrap_k k (by omega)
      have hw2 : IntKind.i64.wrap ((k : Int) + 1 - 1) = k := by rw [show (k : Int) + 1 - 1 = k by omega]; exact wrap_k' k (by omega)
      have ht1 : ((k : Int) + 1 == 0) = false := by simp; omega
      clear hv hd hok hx hcons hxs hcse hm hcs c0 hn hkd h0 ht0 hcells
      by_cases h1 : con < 0
      · rw [if_pos (.inl h1)]
        go_enter Try.func22, Try.ntmps22
        go_wp2_with fail
        refine HE.out.mono ?_
        rintro e w' ⟨rfl, rfl⟩
        go_wp2
        go_ret
        exact ⟨rfl, rfl⟩
      · by_cases h2 : (m : Int) ≤ con
        · rw [if_pos (.inr h2)]
          go_enter Try.func22, Try.ntmps22
          go_wp2_with fail
          refine HE.out.mono ?_
          rintro e w' ⟨rfl, rfl⟩
          go_wp2
          go_ret
          exact ⟨rfl, rfl⟩
        · obtain ⟨j, rfl⟩ : ∃ j : Nat, con = j := ⟨con.toNat, by omega⟩
          have hj : j < cs.length := by rw [HM.out]; omega
          rw [if_neg (by rintro (h | h) <;> omega)]
          have e1 : ((j : Int)).toNat = j := by omega
          rw [e1, List.getElem?_eq_getElem hj]
          obtain ⟨y, hy⟩ : ∃ y, cs[j] = y := ⟨_, rfl⟩
          obtain ⟨b2, off2, ga, gc, rfl, hb2, e0, e3, hfs⟩ := HCS.out.at j hj
          rw [hy] at e3
          simp only [hy]
          obtain ⟨yl, hyl⟩ : ∃ yl, y.fields.length = yl := ⟨_, rfl⟩
          rw [hyl] at e3
          have hjm : (j : Int) < m := by omega
          have hres : (if Dt.hasF y = true then (1 : Int) else 0) = if yl = 0 then 0 else 1 := by
            unfold Dt.hasF
            rw [hyl]
            by_cases h : yl = 0
            · simp [h]
            · have h2 : 0 < yl := by omega
              simp [h, h2]
          rw [hres]
          clear hres hy hyl e0 hfs e1 hj h2 hcl
          by_cases hz : yl = 0
          · subst hz
            rw [if_pos rfl]
            go_enter Try.func22, Try.ntmps22
            go_wp2_with fail
            refine HE.out.mono ?_
            rintro e w' ⟨rfl, rfl⟩
            go_wp2
            go_ret
            exact ⟨rfl, rfl⟩
          · rw [if_neg hz]
            have hz2 : ((yl : Int) == 0) = false := by simp [hz]
            go_enter Try.func22, Try.ntmps22
            go_wp2_with fail
            refine HE.out.mono ?_
            rintro e w' ⟨rfl, rfl⟩
            go_wp2
            go_ret
            exact ⟨rfl, rfl⟩

set_option maxRecDepth 100000 in
set_option maxHeartbeats 3200000 in
theorem rName_any (v : Value) (d : List DataM) (t : Int) (w : World) (hv : DsAt w v d) (hd : Sm d) :
    Calls Try.prog 28 #[v, .int .i64 t] w fun e w' => e = .returned (.string (Dt.nameOf d t)) ∧ w' = w := by
  obtain ⟨ad, cap, rfl⟩ := hv.slice
  have hd1 := hd.1
  by_cases h0 : t = 0
  · subst h0
    have hc : Dt.nameOf d 0 = ⟨#[73, 110, 116]⟩ := by simp [Dt.nameOf, Dt.intN]
    rw [hc]
    clear hv hd hc
    go_enter Try.func28, Try.ntmps28
    go_wp2
    go_ret
    exact ⟨rfl, rfl⟩
  · have ht0 : (t == 0) = false := by simp [h0]
    cases hok : Dt.ok d t with
    | false =>
      have hc : Dt.nameOf d t = ⟨#[]⟩ := by simp [Dt.nameOf, h0, hok]
      have HE := Lib.hid (rIsType_any ad d.length cap t d false w (Lib.hid rfl) (Lib.hid hok))
      rw [hc]
      obtain ⟨n, hn⟩ : ∃ n, d.length = n := ⟨_, rfl⟩
      rw [hn] at HE ⊢
      clear hv hd hok hc hn hd1
      go_enter Try.func28, Try.ntmps28
      go_wp2_with fail
      refine HE.out.mono ?_
      rintro e w' ⟨rfl, rfl⟩
      go_wp2
      go_ret
      exact ⟨rfl, rfl⟩
    | true =>
      have HE := Lib.hid (rIsType_any ad d.length cap t d true w (Lib.hid rfl) (Lib.hid hok))
      obtain ⟨k, x, b, off, fa, fc, rfl, hkd, hx, hcons, hnm, rfl, hb, c0, c1, hcs⟩ := typ_at hv hok h0
      rw [hnm]
      obtain ⟨nm, hnme⟩ : ∃ nm, x.name = nm := ⟨_, rfl⟩
      rw [hnme] at c0 ⊢
      obtain ⟨n, hn⟩ : ∃ n, d.length = n := ⟨_, rfl⟩
      rw [hn] at HE hkd hd1 ⊢
      have hkn : (k : Int) < n := by omega
      have hw1 : wrap64 ((k : Int) + 1 - 1) = k := by rw [show (k : Int) + 1 - 1 = k by omega]; exact wrap_k k (by omega)
      have hw2 : IntKind.i64.wrap ((k : Int) + 1 - 1) = k := by rw [show (k : Int) + 1 - 1 = k by omega]; exact wrap_k' k (by omega)
      have ht1 : ((k : Int) + 1 == 0) = false := by simp; omega
      clear hv hd hok hx hcons hcs c1 hn hkd h0 ht0 hnm hnme
      go_enter Try.func28, Try.ntmps28
      go_wp2_with fail
      refine HE.out.mono ?_
      rintro e w' ⟨rfl, rfl⟩
      go_wp2
      go_ret
      exact ⟨rfl, rfl⟩

set_option maxRecDepth 100000 in
set_option maxHeartbeats 3200000 in
theorem rType_any (v : Value) (d : List DataM) (u : ByteArray) (w : World) (hv : DsAt w v d) (hd : Sm d) :
    Calls Try.prog 24 #[v, .string u] w fun e w' => e = .returned (.tuple #[.int .i64 (Dt.typeOf d u).1, .bool (Dt.typeOf d u).2]) ∧ w' = w := by
  obtain ⟨q, hq⟩ : ∃ q, (u.toList == [73, 110, 116]) = q := ⟨_, rfl⟩
  have hq2 : Dt.seq u Dt.intN = q := by rw [← hq]; unfold Dt.seq; rw [show Dt.intN.toList = [73, 110, 116] from by rw [ByteArray.toList_eq]; rfl]
  obtain ⟨ad, cap, rfl⟩ := hv.slice
  have hd1 := hd.1
  cases q with
  | true =>
    have e1 : Dt.typeOf d u = (0, true) := by rw [Dt.typeOf, hq2]; rfl
    rw [e1]
    clear hq2 e1 hv hd
    go_enter Try.func24, Try.ntmps24
    go_wp2
    refine bodyPost_ret (v := .tuple #[.int .i64 0, .bool true]) (by simp only [results, Try.results24]; simp [go_sem]) rfl ?_
    exact ⟨rfl, rfl⟩
  | false =>
    obtain ⟨i, hi⟩ : ∃ i, Dt.fidx (fun x : DataM => Dt.seq x.name u) d = i := ⟨_, rfl⟩
    have e1 : Dt.typeOf d u = (i + 1, decide (0 ≤ i)) := by rw [Dt.typeOf, hq2, hi]; rfl
    rw [e1]
    obtain ⟨n, hln⟩ : ∃ n, d.length = n := ⟨_, rfl⟩
    rw [hln] at hv hd1 ⊢
    have HL := Lib.hid hln
    have HV := Lib.hid hv
    have HI := Lib.hid hi
    clear hq2 e1 hv hd hln hi
    go_enter Try.func24, Try.ntmps24
    go_wp2
    go_loop [6] (fun i => ∃ k : Nat, k ≤ n ∧ i = .int .i64 k ∧ Hid (∀ j (h : j < k) (h2 : j < d.length), Dt.seq (d[j]'h2).name u = false)) (fun i => n - (intOf i).toNat)
    case atStart => exact ⟨0, Nat.zero_le _, rfl, Lib.hid (fun j h => absurd h (Nat.not_lt_zero _))⟩
    case round =>
      obtain ⟨k, hk, rfl, HA⟩ := hrel
      by_cases hlt : k < n
      · have hltz : (k : Int) < (n : Int) := by omega
        have hkd : k < d.length := by rw [HL.out]; exact hlt
        obtain ⟨b, off, fa, fc, rfl, hb, c0, c1, hcs⟩ := HV.out.at k hkd
        obtain ⟨y, hy⟩ : ∃ y, d[k] = y := ⟨_, rfl⟩
        rw [hy] at c0
        have HY := Lib.hid hy
        obtain ⟨nm, hnm⟩ : ∃ nm, y.name = nm := ⟨_, rfl⟩
        rw [hnm] at c0
        have HN := Lib.hid hnm
        obtain ⟨s, hs⟩ : ∃ s, (nm.toList == u.toList) = s := ⟨_, rfl⟩
        clear hy hcs c1 hnm
        cases s with
        | true =>
          have hik : i = k := by
            rw [← HI.out]
            exact Dt.fidx_hit _ d k hkd (by rw [HY.out, HN.out]; exact hs) (fun j h => HA.out j h _)
          subst hik
          have hk0 : (0 : Int) ≤ (k : Int) := by omega
          have hw1 : wrap64 ((k : Int) + 1) = (k : Int) + 1 := IntWalk.wrap64_in _ (by omega)
          go_wp2
          refine bodyPost_ret (v := .tuple #[.int .i64 ((k : Int) + 1), .bool (decide ((0 : Int) ≤ (k : Int)))]) (by simp only [results, Try.results24]; simp [go_sem]) rfl ?_
          exact ⟨rfl, rfl⟩
        | false =>
          have HS := Lib.hid hs
          go_wp2
          go_round
          case rel =>
            refine ⟨k + 1, by omega, by go_num, Lib.hid (fun j h h2 => ?_)⟩
            by_cases e : j = k
            · subst e; rw [HY.out, HN.out]; exact HS.out
            · exact HA.out j (by omega) h2
          case measure => simp [intOf]; omega
      · obtain rfl : n = k := by omega
        have hnn : ¬ (n : Int) < n := by omega
        have him : i = -1 := by
          rw [← HI.out]
          exact Dt.fidx_miss _ d (fun j h => HA.out j (by rw [← HL.out]; exact h) h)
        subst him
        go_wp2
        refine bodyPost_ret (v := .tuple #[.int .i64 0, .bool false]) (by simp only [results, Try.results24]; simp [go_sem]) rfl ?_
        exact ⟨rfl, rfl⟩

set_option maxRecDepth 100000 in
set_option maxHeartbeats 6400000 in
theorem rCon_any (v : Value) (d : List DataM) (u : ByteArray) (w : World) (hv : DsAt w v d) (hd : Sm d) :
    Calls Try.prog 26 #[v, .string u] w fun e w' => e = .returned (.tuple #[.int .i64 (Dt.conOf d u).1, .int .i64 (Dt.conOf d u).2.1, .bool (Dt.conOf d u).2.2]) ∧ w' = w := by
  obtain ⟨ad, cap, rfl⟩ := hv.slice
  have hd1 := hd.1
  obtain ⟨n, hln⟩ : ∃ n, d.length = n := ⟨_, rfl⟩
  obtain ⟨X, hX⟩ : ∃ X, Dt.conOf d u = X := ⟨_, rfl⟩
  rw [hln] at hv hd1 ⊢
  rw [hX]
  obtain ⟨x1, x2, x3⟩ := X
  have HL := Lib.hid hln
  have HV := Lib.hid hv
  have HX : Hid (Dt.conFrom u (d.drop 0) 0 = (x1, x2, x3)) := Lib.hid hX
  have HD := Lib.hid hd
  clear hln hv hX hd
  go_enter Try.func26, Try.ntmps26
  go_wp2
  go_loop [7] (fun i => ∃ k : Nat, k ≤ n ∧ i = .int .i64 k ∧ Hid (Dt.conFrom u (d.drop k) k = (x1, x2, x3))) (fun i => n - (intOf i).toNat)
  case atStart => exact ⟨0, Nat.zero_le _, rfl, HX⟩
  case round =>
    obtain ⟨k, hk, rfl, HK⟩ := hrel
    by_cases hlt : k < n
    · have hltz : (k : Int) < (n : Int) := by omega
      have hkd : k < d.length := by rw [HL.out]; exact hlt
      obtain ⟨b, off, fa, fc, rfl, hb, c0, c1, hcs⟩ := HV.out.at k hkd
      obtain ⟨y, hy⟩ : ∃ y, d[k] = y := ⟨_, rfl⟩
      rw [hy] at c1 hcs
      have hst := HK.out
      rw [List.drop_eq_getElem_cons hkd, hy, Dt.conFrom] at hst
      have hyl := (HD.out.2 y (by rw [← hy]; exact List.getElem_mem hkd)).2.1
      obtain ⟨cs, hcse⟩ : ∃ cs, y.cons = cs := ⟨_, rfl⟩
      rw [hcse] at c1 hcs hst hyl
      obtain ⟨i, hi⟩ : ∃ i, Dt.fidx (fun c : ConM => Dt.seq c.name u) cs = i := ⟨_, rfl⟩
      rw [hi] at hst
      obtain ⟨m, hm⟩ : ∃ m, cs.length = m := ⟨_, rfl⟩
      rw [hm] at c1 hcs hyl
      have HM := Lib.hid hm
      have HCS := Lib.hid hcs
      have HI := Lib.hid hi
      have HST := Lib.hid hst
      have hwk : wrap64 ((k : Int) + 1) = (k : Int) + 1 := IntWalk.wrap64_in _ (by omega)
      clear hy hcse hi hm hcs hst c0 hkd
      go_wp2
      go_loop [8] (fun i => ∃ j : Nat, j ≤ m ∧ i = .int .i64 j ∧ Hid (∀ i (h : i < j) (h2 : i < cs.length), Dt.seq (cs[i]'h2).name u = false)) (fun i => m - (intOf i).toNat)
      case atStart => exact ⟨0, Nat.zero_le _, rfl, Lib.hid (fun j h => absurd h (Nat.not_lt_zero _))⟩
      case round =>
        obtain ⟨j, hj, rfl, HA⟩ := hrel
        by_cases hjlt : j < m
        · have hjz : (j : Int) < (m : Int) := by omega
          have hjl : j < cs.length := by rw [HM.out]; exact hjlt
          obtain ⟨b2, off2, ga, gc, rfl, hb2, e0, e1, hfs⟩ := HCS.out.at j hjl
          obtain ⟨z, hz⟩ : ∃ z, cs[j] = z := ⟨_, rfl⟩
          rw [hz] at e0
          have HZ := Lib.hid hz
          obtain ⟨zn, hzn⟩ : ∃ zn, z.name = zn := ⟨_, rfl⟩
          rw [hzn] at e0
          have HN := Lib.hid hzn
          obtain ⟨s, hs⟩ : ∃ s, (zn.toList == u.toList) = s := ⟨_, rfl⟩
          clear hz hfs hzn e1
          cases s with
          | true =>
            have hij : i = j := by
              rw [← HI.out]
              exact Dt.fidx_hit _ cs j hjl (by rw [HZ.out, HN.out]; exact hs) (fun i h => HA.out i h _)
            have h := HST.out
            rw [hij, if_pos (by omega)] at h
            cases h
            go_wp2
            refine bodyPost_ret (v := .tuple #[.int .i64 ((k : Int) + 1), .int .i64 j, .bool true]) (by simp only [results, Try.results26]; simp [go_sem]) rfl ?_
            exact ⟨rfl, rfl⟩
          | false =>
            have HS := Lib.hid hs
            go_wp2
            go_round
            case rel =>
              refine ⟨j + 1, by omega, by go_num, Lib.hid (fun i h h2 => ?_)⟩
              by_cases e : i = j
              · subst e; rw [HZ.out, HN.out]; exact HS.out
              · exact HA.out i (by omega) h2
            case measure => simp [intOf]; omega
        · obtain rfl : m = j := by omega
          have hnn : ¬ (m : Int) < m := by omega
          have him : i = -1 := by
            rw [← HI.out]
            exact Dt.fidx_miss _ cs (fun i h => HA.out i (by rw [← HM.out]; exact h) h)
          have HNX : Hid (Dt.conFrom u (d.drop (k + 1)) ((k + 1 : Nat) : Int) = (x1, x2, x3)) := Lib.hid (by
            have h := HST.out
            rw [him, if_neg (by omega)] at h
            rw [← h]
            simp)
          clear him
          go_wp2
          go_round
          case rel => exact ⟨k + 1, by omega, by go_num, HNX⟩
          case measure => simp [intOf]; omega
    · obtain rfl : n = k := by omega
      have hnn : ¬ (n : Int) < n := by omega
      have h := HK.out
      rw [List.drop_eq_nil_of_le (by rw [HL.out]; exact Nat.le_refl _), Dt.conFrom] at h
      cases h
      go_wp2
      refine bodyPost_ret (v := .tuple #[.int .i64 0, .int .i64 0, .bool false]) (by simp only [results, Try.results26]; simp [go_sem]) rfl ?_
      exact ⟨rfl, rfl⟩

end Go.Proofs.Yteidhlfiofiocaa
