/- The reference's in and twice. -/
import Derived.Test.YteidhlfiofiocaaZX
set_option linter.unusedVariables false
set_option linter.unusedSimpArgs false
namespace Go.Proofs.Yteidhlfiofiocaa
open Go.RowKit Go.Shelf Go.Maps

theorem infoStr : (Try.prog.info? 9).map (fun i => (i.zero, i.size, i.bytes)) = some (some (.string ⟨#[]⟩), 1, 16) := by kernel_rfl
def strs (l : List ByteArray) : List Value := l.map Value.string
theorem strs_snoc (l : List ByteArray) (x : ByteArray) : strs (l ++ [x]) = strs l ++ [.string x] := by simp [strs]
/-- A row of strings. -/
def SsAt (w : World) (v : Value) (l : List ByteArray) : Prop :=
  ∃ ad n cap, v = .slice ad n cap ∧ n = l.length ∧ (n = 0 ∨ ∃ b off, ad = some ⟨b, off, none⟩ ∧ b < w.heap.size ∧ ∀ (i : Nat) (h : i < l.length), w.cell? ⟨b, off + i, none⟩ = some (.string l[i]))
theorem SsAt.slice {w : World} {v : Value} {l : List ByteArray} (h : SsAt w v l) : ∃ ad cap, v = .slice ad l.length cap := by
  obtain ⟨ad, n, cap, rfl, rfl, _⟩ := h; exact ⟨ad, cap, rfl⟩
theorem SsAt.at {w : World} {ad : Option Addr} {n cap : Nat} {l : List ByteArray} (h : SsAt w (.slice ad n cap) l) (i : Nat) (hi : i < l.length) : ∃ b off, ad = some ⟨b, off, none⟩ ∧ b < w.heap.size ∧ w.cell? ⟨b, off + i, none⟩ = some (.string l[i]) := by
  obtain ⟨ad', n', cap', e, hn, h⟩ := h
  cases e
  rcases h with h | ⟨b, off, rfl, h1, h2⟩
  · omega
  · exact ⟨b, off, rfl, h1, h2 i hi⟩
/-- A row of strings of the call's own. -/
def Sw (B : Nat) (W : World) (v : Value) (l : List ByteArray) : Prop := W.ownsRow B 9 1 v l.length (strs l)
theorem Sw.strings {B : Nat} {W : World} {v : Value} {l : List ByteArray} (h : Sw B W v l) : SsAt W v l := by
  rcases h.2 with ⟨hv, h0⟩ | ⟨g, cap, cur, hv, hg, hgb, hnc, hcm, hcs, htk⟩
  · obtain rfl := List.length_eq_zero_iff.1 h0
    exact ⟨_, _, _, hv, rfl, .inl rfl⟩
  · refine ⟨_, _, _, hv, rfl, .inr ⟨g, 0, rfl, (Array.getElem?_eq_some_iff.1 hgb).1, fun i hi => ?_⟩⟩
    have h1 := congrArg (fun l => l[i]?) htk
    rw [List.getElem?_take_of_lt (by omega)] at h1
    simp only [World.cell?, hgb, Nat.zero_add]
    simpa [strs, hi] using h1
theorem Sw.keep {B : Nat} {W W' : World} {v : Value} {l : List ByteArray} (h : Sw B W v l) (hk : ∀ g, v.ownBlock = some g → W'.heap[g]? = W.heap[g]?) : Sw B W' v l := by
  refine ⟨h.1, ?_⟩
  rcases h.2 with h1 | ⟨g, cap, cur, h3, h4, h5, rest⟩
  · exact .inl h1
  · exact .inr ⟨g, cap, cur, h3, h4, (hk g (by rw [h3]; rfl)).trans h5, rest⟩
/-- Two rows of the call's own, apart. -/
def Two (B : Nat) (W : World) (v o : Value) (l lo : List ByteArray) : Prop := Sw B W v l ∧ Sw B W o lo ∧ ∀ g, v.ownBlock = some g → o.ownBlock = some g → False
theorem Two.swap {B : Nat} {W : World} {v o : Value} {l lo : List ByteArray} (h : Two B W v o l lo) : Two B W o v lo l := ⟨h.2.1, h.1, fun g a b => h.2.2 g b a⟩
theorem Two.push {B : Nat} {W W2 : World} {v v2 o : Value} {l lo : List ByteArray} {x : ByteArray} {tmp : Obj} (h : Two B W v o l lo) (hB : B ≤ W.heap.size)
    (hown : W2.ownsRow B 9 1 v2 (l.length + 1) (strs l ++ [.string x])) (hgrow : (W.alloc tmp).grownBy W2 v.ownBlock) (hloc : v2.ownBlock = v.ownBlock ∨ v2.ownBlock = some (W.alloc tmp).heap.size) :
    Two B W2 v2 o (l ++ [x]) lo ∧ Below B W W2 := by
  obtain ⟨h1, h2, h3⟩ := h
  refine ⟨⟨?_, h2.keep (fun g hg => ?_), fun g a b => ?_⟩, ((Below.refl B W).alloc hB _).grown hgrow (by simp; omega) (fun k hk => (h1.lt k hk).1)⟩
  · unfold Sw
    rw [strs_snoc, List.length_append]
    exact hown
  · have hlt := (h2.lt g hg).2
    rw [hgrow.block g (by simp; omega) (fun e => h3 g e.symm hg), Lib.alloc_old W _ g hlt]
  · rcases hloc with e | e
    · exact h3 g (e.symm.trans a) b
    · have hlt := (h2.lt g b).2
      rw [e] at a
      simp at a
      omega

set_option maxRecDepth 100000 in
set_option maxHeartbeats 1600000 in
theorem rIn_any (v : Value) (l : List ByteArray) (u : ByteArray) (r : Bool) (w : World) (hv : SsAt w v l) (hn : l.length ≤ 100000) (hr : Hid (Dt.inS l u = r)) :
    Calls Try.prog 95 #[v, .string u] w fun e w' => e = .returned (.bool r) ∧ w' = w := by
  obtain ⟨ad, cap, rfl⟩ := hv.slice
  obtain ⟨n, hln⟩ : ∃ n, l.length = n := ⟨_, rfl⟩
  rw [hln] at hn hv ⊢
  have HL := Lib.hid hln
  have HV := Lib.hid hv
  clear hln hv
  go_enter Try.func95, Try.ntmps95
  go_wp2
  go_loop [5] (fun i => ∃ k : Nat, k ≤ n ∧ i = .int .i64 k ∧ Hid (∀ j (h : j < k) (h2 : j < l.length), Dt.seq (l[j]'h2) u = false)) (fun i => n - (intOf i).toNat)
  case atStart => exact ⟨0, Nat.zero_le _, rfl, Lib.hid (fun j h => absurd h (Nat.not_lt_zero _))⟩
  case round =>
    obtain ⟨k, hk, rfl, A⟩ := hrel
    by_cases hlt : k < n
    · have hltz : (k : Int) < (n : Int) := by omega
      have hkm : k < l.length := by rw [HL.out]; exact hlt
      obtain ⟨b, off, rfl, hb, c0⟩ := HV.out.at k hkm
      obtain ⟨x, hx⟩ : ∃ x, l[k] = x := ⟨_, rfl⟩
      rw [hx] at c0
      have HX := Lib.hid hx
      obtain ⟨q, hq⟩ : ∃ q, (x.toList == u.toList) = q := ⟨_, rfl⟩
      have HQ : Hid (Dt.seq x u = q) := Lib.hid hq
      clear hx
      cases q with
      | true =>
        have HRE : Hid (r = true) := Lib.hid (by
          rw [← hr.out]
          exact any_true_of (by rw [← HX.out]; exact List.getElem_mem hkm) HQ.out)
        go_wp2
        go_ret
        exact ⟨by rw [HRE.out] <;> rfl, rfl⟩
      | false =>
        go_wp2
        go_round
        case rel =>
          refine ⟨k + 1, by omega, by go_num, Lib.hid (fun j h h2 => ?_)⟩
          by_cases e : j = k
          · subst e; rw [HX.out]; exact HQ.out
          · exact A.out j (by omega) h2
        case measure => simp [intOf]; omega
    · obtain rfl : n = k := by omega
      have hnn : ¬ (n : Int) < n := by omega
      have HRE : Hid (r = false) := Lib.hid (by
        rw [← hr.out]
        exact any_false_of HL.out A.out)
      go_wp2
      go_ret
      exact ⟨by rw [HRE.out] <;> rfl, rfl⟩

set_option maxRecDepth 100000 in
set_option maxHeartbeats 12800000 in
theorem rTwice_any (v : Value) (d : List DataM) (r : Bool) (w : World) (hv : DsAt w v d) (hd : Sm d) (hr : Hid (Dt.twice d = r)) :
    Calls Try.prog 54 #[v] w fun e w' => e = .returned (.bool r) ∧ Below w.heap.size w w' := by
  obtain ⟨ad, cap, rfl⟩ := hv.slice
  obtain ⟨n, hn⟩ : ∃ n, d.length = n := ⟨_, rfl⟩
  have hn100 := hd.1
  rw [hn] at hv hn100 ⊢
  have HN := Lib.hid hn
  have HV := Lib.hid hv
  have HD := Lib.hid hd
  obtain ⟨i0, hi, hz0, hz1, hz2⟩ := info_parts infoStr
  have HI := Lib.hid hi
  have HZ0 := Lib.hid hz0
  have HZ1 := Lib.hid hz1
  have HZ2 := Lib.hid hz2
  have HT0 : Hid (Two w.heap.size w (.slice none 0 0) (.slice none 0 0) [] []) := Lib.hid ⟨World.ownsRow_nil _ _ _ _, World.ownsRow_nil _ _ _ _, fun g h => by cases h⟩
  have HR1 : Hid (w.ownsRow w.heap.size 9 1 (.slice none 0 0) 0 (strs [])) := Lib.hid (World.ownsRow_nil _ _ _ _)
  clear hn hv hd hi hz0 hz1 hz2
  go_enter Try.func54, Try.ntmps54
  go_wp2_with (first | (at_builtin; refine wpList_append_own_at _ rfl _ _ 83 rfl w.heap.size 9 i0 (.string ⟨#[]⟩) 1 16 Try.underlying83 HI.out HZ0.out HZ1.out HZ2.out rfl (by decide) _ _ _ rfl (HR1.out.alloc _) ⟨w.heap.size, 0, none⟩ 1 1 [.string ⟨#[73, 110, 116]⟩] rfl rfl (cell_one_new _ _ _) (by intro u hu; simp at hu; subst hu; rfl) (by unfold maxLen; omega) (by omega) (by simp; try omega) ?_; intro v2 w2 hown2 hgrow2 hnil2 hloc2; refine hold ?_))
  obtain ⟨hp, hpb⟩ := HT0.out.push (Nat.le_refl _) hown2 hgrow2 hloc2
  have HP := Lib.hid hp
  have HPB := Lib.hid hpb
  clear hown2 hgrow2 hloc2 hnil2 hp hpb HT0 HR1
  have HTW : Hid (Dt.twF ([] ++ [⟨#[73, 110, 116]⟩]) [] (d.drop 0) = r) := Lib.hid (by rw [← hr.out]; rfl)
  refine go_on ?_
  go_wp2
  go_loopw [3, 4, 5] (fun tv sv i wr => ∃ (k : Nat) (T S : List ByteArray), k ≤ n ∧ i = .int .i64 k ∧ Hid (Two w.heap.size wr tv sv T S) ∧ Hid (Dt.twF T S (d.drop k) = r) ∧ Hid (T.length ≤ 1 + k ∧ S.length ≤ 100 * k) ∧ Hid (Below w.heap.size w wr)) (fun _ _ i _ => n - (intOf i).toNat)
  case atStart => exact ⟨0, _, _, Nat.zero_le _, rfl, HP, HTW, Lib.hid ⟨Nat.le_refl _, Nat.le_refl _⟩, HPB⟩
  case round =>
    obtain ⟨k, T, S, hk, rfl, HTS, HTW, HLEN, HB⟩ := hrel
    by_cases hlt : k < n
    · have hltz : (k : Int) < (n : Int) := by omega
      have hkd : k < d.length := by rw [HN.out]; exact hlt
      have hVR := HV.out.keep HB.out (Nat.le_refl _)
      obtain ⟨b, off, fa, fc, rfl, hb, c0, c1, hcs⟩ := HV.out.at k hkd
      replace c0 := (HB.out.cell (p := ⟨b, off + k * 2, none⟩) hb).trans c0
      obtain ⟨y, hy⟩ : ∃ y, d[k] = y := ⟨_, rfl⟩
      have HDR : Hid (d.drop k = y :: d.drop (k + 1)) := Lib.hid (by rw [← hy]; exact List.drop_eq_getElem_cons hkd)
      rw [hy] at c0 c1 hcs
      have hys : SmD y := HD.out.2 y (by rw [← hy]; exact List.getElem_mem hkd)
      obtain ⟨nm, hnm⟩ : ∃ nm, y.name = nm := ⟨_, rfl⟩
      obtain ⟨cs, hcse⟩ : ∃ cs, y.cons = cs := ⟨_, rfl⟩
      have hcl := hys.2.1
      rw [hcse] at c1 hcs hcl
      rw [hnm] at c0
      obtain ⟨m, hm⟩ : ∃ m, cs.length = m := ⟨_, rfl⟩
      rw [hm] at c1 hcs hcl
      have HM := Lib.hid hm
      have HCS := Lib.hid hcs
      have HC1 := Lib.hid c1
      have HBB := Lib.hid hb
      obtain ⟨o, ho⟩ : ∃ o, Dt.inS T nm = o := ⟨_, rfl⟩
      obtain ⟨X, hX⟩ : ∃ X, Dt.conStep S cs = X := ⟨_, rfl⟩
      have HTW2 : Hid ((if o then true else Dt.afterC (T ++ [nm]) (d.drop (k + 1)) X) = r) := Lib.hid (by
        have h := HTW.out
        rw [HDR.out, Dt.twF, hnm, ho, hcse, hX] at h
        clear hX
        cases X <;> exact h)
      have HO := Lib.hid ho
      have HX := Lib.hid hX
      obtain ⟨t0, ht0⟩ : ∃ t0, T.length = t0 := ⟨_, rfl⟩
      obtain ⟨hl1, hl2⟩ := HLEN.out
      have HT0 := Lib.hid ht0
      have ht0b : t0 ≤ 101 := by omega
      have HIN := Lib.hid (rIn_any _ T nm o wr HTS.out.1.strings (by omega) HO)
      have HROW : Hid (wr.ownsRow w.heap.size 9 1 u3 t0 (strs T)) := Lib.hid (by have h := HTS.out.1; unfold Sw at h; rw [ht0] at h; exact h)
      have hsz := HB.out.size
      clear hVR hy hys hnm hcse hm hcs c1 hb ho hX ht0 hl1 hl2
      go_wp2_with fail
      refine HIN.out.mono ?_
      rintro e w' ⟨rfl, hw⟩
      rw [hw]
      clear hw w' HIN
      cases o with
      | true =>
        have HRE : Hid (r = true) := Lib.hid HTW2.out.symm
        go_wp2
        go_ret
        exact ⟨by rw [HRE.out] <;> rfl, HB.out⟩
      | false =>
        go_wp2_with (first | (at_builtin; refine wpList_append_own_at _ rfl _ _ 83 rfl w.heap.size 9 i0 (.string ⟨#[]⟩) 1 16 Try.underlying83 HI.out HZ0.out HZ1.out HZ2.out rfl (by decide) _ _ _ rfl (HROW.out.alloc _) ⟨wr.heap.size, 0, none⟩ 1 1 [.string nm] rfl rfl (cell_one_new _ _ _) (by intro u hu; simp at hu; subst hu; rfl) (by unfold maxLen; omega) (by omega) (by simp; try omega) ?_; intro v3 w3 hown3 hgrow3 hnil3 hloc3; refine hold ?_))
        obtain ⟨hp, hpb⟩ := HTS.out.push hsz (by rw [HT0.out]; exact hown3) hgrow3 hloc3
        have HP3 := Lib.hid hp
        have HB3 := Lib.hid (HB.out.trans hpb)
        clear hown3 hgrow3 hnil3 hloc3 hp hpb hsz HROW c0
        refine go_on ?_
        have HCX : Hid (Dt.conStep S (cs.drop 0) = X) := HX
        go_wp2
        go_loopw [4, 6] (fun sv j wr => ∃ (q : Nat) (S' : List ByteArray), q ≤ m ∧ j = .int .i64 q ∧ Hid (Two w.heap.size wr v3 sv (T ++ [nm]) S') ∧ Hid (Dt.conStep S' (cs.drop q) = X) ∧ Hid (S'.length ≤ 100 * k + q) ∧ Hid (Below w.heap.size w wr)) (fun _ j _ => m - (intOf j).toNat)
        case atStart => exact ⟨0, S, Nat.zero_le _, rfl, HP3, HCX, Lib.hid HLEN.out.2, HB3⟩
        case round =>
          obtain ⟨q, S', hq, rfl, HTS2, HCX, HL2, HBR⟩ := hrel
          have hc1 := (HBR.out.cell (p := ⟨b, off + k * 2 + 1, none⟩) HBB.out).trans HC1.out
          by_cases hqlt : q < m
          · have hqz : (q : Int) < (m : Int) := by omega
            have hql : q < cs.length := by rw [HM.out]; exact hqlt
            obtain ⟨b2, off2, ga, gc, rfl, hb2, e0, e1, hfs⟩ := HCS.out.at q hql
            replace e0 := (HBR.out.cell (p := ⟨b2, off2 + q * 2, none⟩) hb2).trans e0
            obtain ⟨z, hz⟩ : ∃ z, cs[q] = z := ⟨_, rfl⟩
            have HDR2 : Hid (cs.drop q = z :: cs.drop (q + 1)) := Lib.hid (by rw [← hz]; exact List.drop_eq_getElem_cons hql)
            rw [hz] at e0
            obtain ⟨cn, hcn⟩ : ∃ cn, z.name = cn := ⟨_, rfl⟩
            rw [hcn] at e0
            obtain ⟨o, ho⟩ : ∃ o, Dt.inS S' cn = o := ⟨_, rfl⟩
            have HCX2 : Hid ((if o then none else Dt.conStep (S' ++ [cn]) (cs.drop (q + 1))) = X) := Lib.hid (by
              have h := HCX.out
              rw [HDR2.out, Dt.conStep, hcn, ho] at h
              exact h)
            have HO2 := Lib.hid ho
            obtain ⟨t1, ht1⟩ : ∃ t1, S'.length = t1 := ⟨_, rfl⟩
            have hl2 := HL2.out
            have HT1 := Lib.hid ht1
            have ht1b : t1 ≤ 20000 := by omega
            have HIN := Lib.hid (rIn_any _ S' cn o wr HTS2.out.2.1.strings (by omega) HO2)
            have HROW : Hid (wr.ownsRow w.heap.size 9 1 u4 t1 (strs S')) := Lib.hid (by have h := HTS2.out.2.1; unfold Sw at h; rw [ht1] at h; exact h)
            have hsz := HBR.out.size
            clear hz hfs hcn ho ht1 hl2 e1 hql
            go_wp2_with fail
            refine HIN.out.mono ?_
            rintro e w' ⟨rfl, hw⟩
            rw [hw]
            clear hw w' HIN
            cases o with
            | true =>
              have HRE : Hid (r = true) := Lib.hid (by
                have h := HTW2.out
                rw [← HCX2.out] at h
                exact h.symm)
              go_wp2
              go_ret
              exact ⟨by rw [HRE.out] <;> rfl, HBR.out⟩
            | false =>
              go_wp2_with (first | (at_builtin; refine wpList_append_own_at _ rfl _ _ 83 rfl w.heap.size 9 i0 (.string ⟨#[]⟩) 1 16 Try.underlying83 HI.out HZ0.out HZ1.out HZ2.out rfl (by decide) _ _ _ rfl (HROW.out.alloc _) ⟨wr.heap.size, 0, none⟩ 1 1 [.string cn] rfl rfl (cell_one_new _ _ _) (by intro u hu; simp at hu; subst hu; rfl) (by unfold maxLen; omega) (by omega) (by simp; try omega) ?_; intro v5 w5 hown5 hgrow5 hnil5 hloc5; refine hold ?_))
              obtain ⟨hp, hpb⟩ := HTS2.out.swap.push hsz (by rw [HT1.out]; exact hown5) hgrow5 hloc5
              have HP5 := Lib.hid hp.swap
              have HB5 := Lib.hid (HBR.out.trans hpb)
              clear hown5 hgrow5 hnil5 hloc5 hp hpb hsz HROW e0 hc1
              refine go_on ?_
              go_wp2
              go_roundw
              case rel => exact ⟨q + 1, S' ++ [cn], by omega, by go_num, HP5, Lib.hid (by have h := HCX2.out; simpa using h), Lib.hid (by have h := HL2.out; rw [List.length_append, List.length_singleton]; omega), HB5⟩
              case measure => simp [intOf]; omega
          · obtain rfl : m = q := by omega
            have hnn : ¬ (m : Int) < m := by omega
            have HTW3 : Hid (Dt.twF (T ++ [nm]) S' (d.drop (k + 1)) = r) := Lib.hid (by
              have h := HCX.out
              rw [List.drop_of_length_le (by rw [HM.out]; exact Nat.le_refl _), Dt.conStep] at h
              have h2 := HTW2.out
              rw [← h] at h2
              exact h2)
            go_wp2
            go_roundw
            case rel => exact ⟨k + 1, T ++ [nm], S', by omega, by go_num, HTS2, HTW3, Lib.hid ⟨by have h := HLEN.out.1; rw [List.length_append, List.length_singleton]; omega, by have h := HL2.out; omega⟩, HBR⟩
            case measure => simp [intOf]; omega
    · obtain rfl : n = k := by omega
      have hnn : ¬ (n : Int) < n := by omega
      have HRE : Hid (r = false) := Lib.hid (by
        have h := HTW.out
        rw [List.drop_of_length_le (by rw [HN.out]; exact Nat.le_refl _), Dt.twF] at h
        exact h.symm)
      go_wp2
      go_ret
      exact ⟨by rw [HRE.out] <;> rfl, HB.out⟩

end Go.Proofs.Yteidhlfiofiocaa
