/- The reference's Flat, has, IsType, collect and Contents. The reference's Of. The reference's Index and Inside. -/
import Derived.Test.YteidhlfiofiocaaSE
import Derived.Test.YteidhlfiofiocaaZW
import Derived.Test.YteidhlfiofiocaaSI
import Derived.Test.YteidhlfiofiocaaZ03
import Derived.Deep.QuietTactic
import Derived.BigQuiet
set_option linter.unusedVariables false
set_option linter.unusedSimpArgs false
namespace Go.Proofs.Yteidhlfiofiocaa
open Go.RowKit Go.Shelf Go.Maps

set_option maxRecDepth 100000 in
set_option maxHeartbeats 3200000 in
theorem rsIsType_any (ad : Option Addr) (n cap : Nat) (t : Int) (d : List DataM) (r : Bool) (w : World) (hn : Hid (d.length = n)) (hr : Hid (Dt.ok d t = r)) :
    Calls Try.prog 77 #[.slice ad n cap, .int .i64 t] w fun e w' => e = .returned (.bool r) ∧ w' = w := by
  have h := hr.out
  rw [Dt.ok, hn.out] at h
  clear hr hn
  by_cases h1 : 0 ≤ t
  · by_cases h2 : t ≤ (n : Int)
    · obtain rfl : r = true := by rw [← h]; simp [h1, h2]
      clear h
      go_enter Try.func77, Try.ntmps77
      go_wp2
      all_goals first | (exfalso; omega) | (go_ret; exact ⟨rfl, rfl⟩)
    · obtain rfl : r = false := by rw [← h]; simp [h1, h2]
      clear h
      go_enter Try.func77, Try.ntmps77
      go_wp2
      all_goals first | (exfalso; omega) | (go_ret; exact ⟨rfl, rfl⟩)
  · obtain rfl : r = false := by rw [← h]; simp [h1]
    clear h
    go_enter Try.func77, Try.ntmps77
    go_wp2
    all_goals first | (exfalso; omega) | (go_ret; exact ⟨rfl, rfl⟩)

set_option maxRecDepth 100000 in
set_option maxHeartbeats 3200000 in
theorem rsFlat_any (v : Value) (d : List DataM) (t : Int) (r : Bool) (w : World) (hv : DsAt w v d) (hd : Sm d) (hok : Dt.ok d t = true) (hr : Hid (Dt.flat d t = r)) :
    Calls Try.prog 111 #[v, .int .i64 t] w fun e w' => e = .returned (.bool r) ∧ w' = w := by
  obtain ⟨ad, cap, rfl⟩ := hv.slice
  have h := hr.out
  unfold Dt.flat at h
  by_cases h0 : t = 0
  · subst h0
    obtain rfl : r = true := by rw [← h]; simp [Dt.ok, Dt.consOf]
    clear h hr hv hd
    go_enter Try.func111, Try.ntmps111
    go_wp2
    go_ret
    exact ⟨rfl, rfl⟩
  · have ht0 : (t == 0) = false := by simp [h0]
    obtain ⟨k, x, b, off, fa, fc, rfl, hkd, hx, hcons, _, rfl, hb, c0, c1, hcs⟩ := typ_at hv hok h0
    have hxs : SmD x := hd.2 x (List.mem_of_getElem? hx)
    have hd1 := hd.1
    rw [hok, hcons] at h
    obtain ⟨n, hn⟩ : ∃ n, d.length = n := ⟨_, rfl⟩
    rw [hn] at hkd hd1 ⊢
    have hkn : (k : Int) < n := by omega
    have hw1 : wrap64 ((k : Int) + 1 - 1) = k := by rw [show (k : Int) + 1 - 1 = k by omega]; exact wrap_k k (by omega)
    have hw2 : IntKind.i64.wrap ((k : Int) + 1 - 1) = k := by rw [show (k : Int) + 1 - 1 = k by omega]; exact wrap_k' k (by omega)
    obtain ⟨cs, hcse⟩ : ∃ cs, x.cons = cs := ⟨_, rfl⟩
    rw [hcse] at c1 hcs h
    have hcl := hxs.2.1
    rw [hcse] at hcl
    obtain ⟨m, hm⟩ : ∃ m, cs.length = m := ⟨_, rfl⟩
    rw [hm] at c1 hcs hcl
    have HM := Lib.hid hm
    have HCS := Lib.hid hcs
    have HH := Lib.hid h
    have ht1 : ((k : Int) + 1 == 0) = false := by simp; omega
    clear hr hv hd hok hx hcons hxs hcse hm hcs h c0 hn hkd h0 ht0
    go_enter Try.func111, Try.ntmps111
    go_wp2
    go_loop [6] (fun i => ∃ j : Nat, j ≤ m ∧ i = .int .i64 j ∧ Hid (∀ i (h : i < j) (h2 : i < cs.length), Dt.hasF (cs[i]'h2) = false)) (fun i => m - (intOf i).toNat)
    case atStart => exact ⟨0, Nat.zero_le _, rfl, Lib.hid (fun j h => absurd h (Nat.not_lt_zero _))⟩
    case round =>
      obtain ⟨j, hj, rfl, HA⟩ := hrel
      by_cases hlt : j < m
      · have hjz : (j : Int) < (m : Int) := by omega
        have hjl : j < cs.length := by rw [HM.out]; exact hlt
        obtain ⟨b2, off2, ga, gc, rfl, hb2, e0, e1, hfs⟩ := HCS.out.at j hjl
        obtain ⟨z, hz⟩ : ∃ z, cs[j] = z := ⟨_, rfl⟩
        rw [hz] at e1
        have HZ := Lib.hid hz
        have HZM : Hid (z ∈ cs) := Lib.hid (by rw [← hz]; exact List.getElem_mem hjl)
        obtain ⟨zl, hzl⟩ : ∃ zl, z.fields.length = zl := ⟨_, rfl⟩
        rw [hzl] at e1
        have HZL := Lib.hid hzl
        clear hz hfs hzl e0
        by_cases p1 : 0 < zl
        · have p2 : (0 : Int) < zl := by omega
          obtain rfl : r = false := by
            rw [← HH.out]
            have : cs.any Dt.hasF = true := by rw [List.any_eq_true]; exact ⟨z, HZM.out, by simp [Dt.hasF, HZL.out, p1]⟩
            rw [this]; rfl
          go_wp2
          go_ret
          exact ⟨rfl, rfl⟩
        · obtain rfl : zl = 0 := by omega
          go_wp2
          go_round
          case rel =>
            refine ⟨j + 1, by omega, by go_num, Lib.hid (fun i h h2 => ?_)⟩
            by_cases e : i = j
            · subst e; rw [HZ.out]; simp [Dt.hasF, HZL.out]
            · exact HA.out i (by omega) h2
          case measure => simp [intOf]; omega
      · obtain rfl : m = j := by omega
        have hnn : ¬ (m : Int) < m := by omega
        obtain rfl : r = true := by
          rw [← HH.out]
          have : cs.any Dt.hasF = false := by
            rw [List.any_eq_false]
            intro x hx
            obtain ⟨i, hi, rfl⟩ := List.getElem_of_mem hx
            rw [HA.out i (by rw [← HM.out]; exact hi) hi]; simp
          rw [this]; rfl
        go_wp2
        go_ret
        exact ⟨rfl, rfl⟩

set_option maxRecDepth 100000 in
set_option maxHeartbeats 3200000 in
theorem rsHas_any (v : Value) (l : List Int) (t : Int) (r : Bool) (w : World) (hv : FsAt w v l) (hn : l.length ≤ 100000) (hr : Hid (Dt.hasT t l = r)) :
    Calls Try.prog 112 #[v, .int .i64 t] w fun e w' => e = .returned (.bool r) ∧ w' = w := by
  obtain ⟨ad, cap, rfl⟩ := hv.slice
  obtain ⟨n, hln⟩ : ∃ n, l.length = n := ⟨_, rfl⟩
  rw [hln] at hn hv ⊢
  have HL := Lib.hid hln
  have HV := Lib.hid hv
  clear hln hv
  go_enter Try.func112, Try.ntmps112
  go_wp2
  go_loop [5] (fun i => ∃ k : Nat, k ≤ n ∧ i = .int .i64 k ∧ Hid (∀ j (h : j < k) (h2 : j < l.length), (t == l[j]'h2) = false)) (fun i => n - (intOf i).toNat)
  case atStart => exact ⟨0, Nat.zero_le _, rfl, Lib.hid (fun j h => absurd h (Nat.not_lt_zero _))⟩
  case round =>
    obtain ⟨k, hk, rfl, A⟩ := hrel
    by_cases hlt : k < n
    · have hltz : (k : Int) < (n : Int) := by omega
      have hkm : k < l.length := by rw [HL.out]; exact hlt
      obtain ⟨b, off, rfl, hb, c0⟩ := HV.out.at k hkm
      obtain ⟨x, hx⟩ : ∃ x, l[k] = x := ⟨_, rfl⟩
      rw [hx] at c0
      have HX := Lib.hid hx
      obtain ⟨q, hq⟩ : ∃ q, (t == x) = q := ⟨_, rfl⟩
      have hq2 : (x == t) = q := by rw [← hq]; exact Bool.beq_comm
      clear hx
      cases q with
      | true =>
        have hre : r = true := by
          rw [← hr.out]
          simp only [Dt.hasT, List.any_eq_true]
          exact ⟨x, by rw [← HX.out]; exact List.getElem_mem hkm, hq⟩
        clear hq
        go_wp2
        go_ret
        subst hre
        exact ⟨rfl, rfl⟩
      | false =>
        have HQ := Lib.hid hq
        clear hq
        go_wp2
        go_round
        case rel =>
          refine ⟨k + 1, by omega, by go_num, Lib.hid (fun j h h2 => ?_)⟩
          by_cases e : j = k
          · subst e; rw [HX.out]; exact HQ.out
          · exact A.out j (by omega) h2
        case measure => simp [intOf]; omega
    · obtain rfl : n = k := by omega
      have hnn : ¬ (n : Int) < n := by omega
      have hre : r = false := by
        rw [← hr.out, Dt.hasT, List.any_eq_false]
        intro x hx
        obtain ⟨j, hj, rfl⟩ := List.getElem_of_mem hx
        rw [A.out j (by rw [← HL.out]; exact hj) hj]; simp
      go_wp2
      go_ret
      subst hre
      exact ⟨rfl, rfl⟩

/-- What is asked of the reference's collect at so many calls. -/
def RsOk (w : World) (d : List DataM) (dv : Value) (k : Nat) : Prop :=
  ∀ (t : Int) (W : World) (v : Value) (l : List Int), Dt.ok d t = true → Below w.heap.size w W → Rw w.heap.size W v l → Dt.unmet d l < k → l.length + Dt.unmet d l ≤ 200 →
    Calls Try.prog 102 #[dv, .int .i64 t, v] W fun e W' => ∃ u, e = .returned u ∧ Rw w.heap.size W' u (Dt.conF d k t l) ∧ Below w.heap.size w W'

set_option maxRecDepth 100000 in
set_option maxHeartbeats 6400000 in
theorem rcollect_step (w : World) (d : List DataM) (hd : Sm d) (hty : Dt.typed d = true) (dv : Value) (hdv : DsAt w dv d) (k : Nat) (ih : RsOk w d dv k) : RsOk w d dv (k + 1) := by
  intro t W v l hok hB hR hun hol
  obtain ⟨ad, cap, rfl⟩ := hdv.slice
  obtain ⟨n, hn⟩ : ∃ n, d.length = n := ⟨_, rfl⟩
  obtain ⟨va, vc, rfl⟩ := hR.slice
  obtain ⟨m, hm⟩ : ∃ m, l.length = m := ⟨_, rfl⟩
  rw [hn] at hdv ih ⊢
  rw [hm] at hR ⊢
  have HN := Lib.hid hn
  have HM := Lib.hid hm
  have HR := Lib.hid hR
  have HB := Lib.hid hB
  have HIH := Lib.hid ih
  have HDV := Lib.hid hdv
  have hm200 : m ≤ 200 := by omega
  have HUN := Lib.hid hun
  have HOL := Lib.hid hol
  have HDW := Lib.hid (hdv.keep hB (Nat.le_refl _))
  have HOKK := Lib.hid hok
  have HTY := Lib.hid hty
  cases hnf : Dt.nf d t with
  | false =>
    have e : Dt.conF d (k + 1) t l = l := by rw [Dt.conF, if_neg (by simp [hnf])]
    rw [e]
    have hfl : Dt.flat d t = true := by
      have h1 := Dt.nf_flat hok
      rw [hnf] at h1
      cases hq : Dt.flat d t with
      | true => rfl
      | false => rw [hq] at h1; cases h1
    have HE := Lib.hid (rsFlat_any (.slice ad n cap) d t true W HDW.out hd hok (Lib.hid hfl))
    clear hn hm hR hB ih hdv hun hol hok e hnf hfl hty
    go_enter Try.func102, Try.ntmps102
    go_wp2_with fail
    refine HE.out.mono ?_
    rintro e w' ⟨rfl, hw⟩
    rw [hw]
    clear hw w'
    go_wp2
    go_ret
    exact ⟨_, rfl, HR.out, HB.out⟩
  | true =>
    have hfl : Dt.flat d t = false := by
      have h1 := Dt.nf_flat hok
      rw [hnf] at h1
      cases hq : Dt.flat d t with
      | true => rw [hq] at h1; cases h1
      | false => rfl
    have HE := Lib.hid (rsFlat_any (.slice ad n cap) d t false W HDW.out hd hok (Lib.hid hfl))
    have h00 : t ≠ 0 := by intro h; subst h; simp [Dt.nf, Dt.consOf] at hnf
    cases hto : Dt.hasT t l with
    | true =>
      have e : Dt.conF d (k + 1) t l = l := by rw [Dt.conF, if_neg (fun h => h.2 ((Dt.hasT_iff t l).1 hto))]
      rw [e]
      have HH := Lib.hid (rsHas_any (.slice va m vc) l t true W hR.types (by omega) (Lib.hid hto))
      clear hn hm hR hB ih hdv hun hol hok e hto hnf hfl hty
      go_enter Try.func102, Try.ntmps102
      go_wp2_with fail
      refine HE.out.mono ?_
      rintro e w' ⟨rfl, hw⟩
      rw [hw]
      clear hw w'
      go_wp2_with fail
      refine HH.out.mono ?_
      rintro e w' ⟨rfl, hw⟩
      rw [hw]
      clear hw w'
      go_wp2
      go_ret
      exact ⟨_, rfl, HR.out, HB.out⟩
    | false =>
      have htl : ¬ t ∈ l := fun h => by rw [(Dt.hasT_iff t l).2 h] at hto; cases hto
      have e : Dt.conF d (k + 1) t l = (Dt.fieldsOf d t).foldl (fun l f => Dt.conF d k f l) (l ++ [t]) := by rw [Dt.conF, if_pos ⟨hnf, htl⟩]
      rw [e]
      obtain ⟨X, hX⟩ : ∃ X, (Dt.fieldsOf d t).foldl (fun l f => Dt.conF d k f l) (l ++ [t]) = X := ⟨_, rfl⟩
      rw [hX]
      have HX := Lib.hid hX
      have HH := Lib.hid (rsHas_any (.slice va m vc) l t false W hR.types (by omega) (Lib.hid hto))
      have HUS := Lib.hid (Dt.unmet_snoc d hok htl)
      obtain ⟨i0, hi, hz0, hz1, hz2⟩ := info_parts infoType
      have HI := Lib.hid hi
      have HZ0 := Lib.hid hz0
      have HZ1 := Lib.hid hz1
      have HZ2 := Lib.hid hz2
      have hszW := hB.size
      have HR1 : Hid (W.ownsRow w.heap.size 28 1 (.slice va m vc) m (ints l)) := Lib.hid (by have := hR; unfold Rw at this; rw [hm] at this; exact this)
      have HOK := Lib.hid hok
      have HFO : Hid (t = 0 → Dt.fieldsOf d t = []) := Lib.hid (fun h => by subst h; simp [Dt.fieldsOf, Dt.consOf])
      clear hn hm hR hB ih hdv hun hol hok e hto htl hi hz0 hz1 hz2 hX hnf hfl hty
      go_enter Try.func102, Try.ntmps102
      go_wp2_with fail
      refine HE.out.mono ?_
      rintro e w' ⟨rfl, hw⟩
      rw [hw]
      clear hw w'
      go_wp2_with fail
      refine HH.out.mono ?_
      rintro e w' ⟨rfl, hw⟩
      rw [hw]
      clear hw w'
      go_wp2_with (first | (at_builtin; refine wpList_append_own _ rfl _ _ 39 rfl w.heap.size 28 i0 (.int .i64 0) 1 8 Try.underlying39 HI.out HZ0.out HZ1.out HZ2.out rfl (by decide) _ _ _ rfl (HR1.out.alloc _) ⟨W.heap.size, 0, none⟩ 1 1 [.int .i64 t] rfl rfl (cell_one_new _ _ _) (by intro u hu; simp at hu; subst hu; rfl) (by unfold maxLen; omega) (by omega) (by simp; omega) ?_; intro v2 w2 hown2 hgrow2 hnil2; refine hold ?_))
      have hB2 : Below w.heap.size w w2 := (HB.out.alloc (by have := HB.out.size; omega) _).grown hgrow2 (by simp; omega) (fun k hk => (HR1.out.lt k hk).1)
      have hR2 : Rw w.heap.size w2 v2 (l ++ [t]) := by
        unfold Rw
        rw [ints_snoc, List.length_append, HM.out]
        exact hown2
      have HB2 := Lib.hid hB2
      have HR2 := Lib.hid hR2
      clear hown2 hgrow2 hnil2 hB2 hR2 HH HE
      refine go_on ?_
      have h0 := h00
      have ht0 : (t == 0) = false := by simp [h0]
      obtain ⟨p, y, b, off, fa, fc, hxp, hpd, hy, hcons, _, hade, hb, c0, c1, hcs⟩ := typ_at HDV.out HOK.out h00
      subst hade
      have hys : SmD y := hd.2 y (List.mem_of_getElem? hy)
      rw [HN.out] at hpd
      have hn100 : n ≤ 100 := by rw [← HN.out]; exact hd.1
      have hpn : (p : Int) < n := by omega
      obtain ⟨cs, hcse⟩ : ∃ cs, y.cons = cs := ⟨_, rfl⟩
      have HFE : Hid (Dt.fieldsOf d t = cs.flatMap (·.fields)) := Lib.hid (by unfold Dt.fieldsOf; rw [hcons, hcse])
      have hcl := hys.2.1
      have hcsm := hys.2.2
      rw [hcse] at c1 hcs hcl hcsm
      obtain ⟨q, hq⟩ : ∃ q, cs.length = q := ⟨_, rfl⟩
      rw [hq] at c1 hcs hcl
      have HQ := Lib.hid hq
      have HCS := Lib.hid hcs
      have HCSM := Lib.hid hcsm
      have HC1 := Lib.hid c1
      have HBB := Lib.hid hb
      have HPT : Hid (t = (p : Int) + 1) := Lib.hid hxp
      obtain ⟨F, hF⟩ : ∃ F : List Int → List Int, F = (fun fs => fs.foldl (fun l f => Dt.conF d k f l) (l ++ [t])) := ⟨_, rfl⟩
      have HFF : Hid (∀ fs, (F fs).length + Dt.unmet d (F fs) ≤ 200 ∧ Dt.unmet d (F fs) < k) := Lib.hid (fun fs => by
        have h1 := Dt.cfold_bound (Dt.con_bound d k) fs (l ++ [t])
        have h2 := Dt.cfold_unmet d k fs (l ++ [t])
        have h3 := HUS.out
        have h4 := HUN.out
        have h5 := HOL.out
        rw [List.length_append, List.length_singleton] at h1
        rw [hF]
        dsimp only
        omega)
      have HFS : Hid (∀ fs f, F (fs ++ [f]) = Dt.conF d k f (F fs)) := Lib.hid (fun fs f => by rw [hF]; simp)
      have HF0 : Hid (F [] = l ++ [t]) := Lib.hid (by rw [hF]; rfl)
      have HXF : Hid (F (cs.flatMap (·.fields)) = X) := Lib.hid (by rw [← HX.out, hF, HFE.out])
      rw [← HF0.out] at HR2
      have HFEE := HFE
      clear hys hcse hq hcs hcsm hy hcons c0 hb hxp hF HFE
      have hw1 : wrap64 (t - 1) = p := by rw [HPT.out, show (p : Int) + 1 - 1 = p by omega]; exact wrap_k p (by omega)
      have hw2 : IntKind.i64.wrap (t - 1) = p := by rw [HPT.out, show (p : Int) + 1 - 1 = p by omega]; exact wrap_k' p (by omega)
      have hc0 := (HB2.out.cell (p := ⟨b, off + p * 2 + 1, none⟩) HBB.out).trans HC1.out
      clear c1
      go_wp2
      clear hc0 hw1 hw2
      go_loopw [2, 8] (fun v i wr => ∃ c : Nat, c ≤ q ∧ i = .int .i64 c ∧ Hid (Rw w.heap.size wr v (F ((cs.take c).flatMap (·.fields)))) ∧ Hid (Below w.heap.size w wr)) (fun _ i _ => q - (intOf i).toNat)
      case atStart => exact ⟨0, Nat.zero_le _, rfl, HR2, HB2⟩
      case round =>
        obtain ⟨c, hc, rfl, HRR, HBR⟩ := hrel
        by_cases hlt : c < q
        · have hltz : (c : Int) < (q : Int) := by omega
          have hjl : c < cs.length := by rw [HQ.out]; exact hlt
          obtain ⟨b2, off2, ga, gc, rfl, hb2, e0, e1, hfs⟩ := HCS.out.at c hjl
          have HTK : Hid ((cs.take (c + 1)).flatMap (·.fields) = (cs.take c).flatMap (·.fields) ++ cs[c].fields) := Lib.hid (by
            rw [← List.take_append_getElem hjl, List.flatMap_append]; simp)
          have HTF : Hid (∀ f ∈ cs[c].fields, Dt.ok d f = true) := Lib.hid (fun f hf => Dt.typed_fields HTY.out (t := t) (by rw [HFEE.out]; exact List.mem_flatMap.2 ⟨_, List.getElem_mem hjl, hf⟩))
          have hzs : SmC cs[c] := HCSM.out _ (List.getElem_mem hjl)
          obtain ⟨fl, hfl⟩ : ∃ fl, cs[c].fields = fl := ⟨_, rfl⟩
          have hfl1 := hzs.2.1
          rw [hfl] at e1 hfs HTK hfl1 HTF
          obtain ⟨g, hg⟩ : ∃ g, fl.length = g := ⟨_, rfl⟩
          rw [hg] at e1 hfs hfl1
          have HE1 := Lib.hid e1
          have HB2L : Hid (b2 < w.heap.size) := Lib.hid hb2
          have HG := Lib.hid hg
          have HFL := Lib.hid hfs
          obtain ⟨pre, hpre⟩ : ∃ pre, (cs.take c).flatMap (·.fields) = pre := ⟨_, rfl⟩
          rw [hpre] at HTK HRR
          clear hzs hfl hg hfs e0 hjl hpre
          replace e1 := (HBR.out.cell (p := ⟨b2, off2 + c * 2 + 1, none⟩) hb2).trans e1
          go_wp2
          clear e1
          go_loopw [2, 9] (fun v i wr => ∃ r : Nat, r ≤ g ∧ i = .int .i64 r ∧ Hid (Rw w.heap.size wr v (F (pre ++ fl.take r))) ∧ Hid (Below w.heap.size w wr)) (fun _ i _ => g - (intOf i).toNat)
          case atStart => exact ⟨0, Nat.zero_le _, rfl, Lib.hid (by rw [List.take_zero, List.append_nil]; exact HRR.out), HBR⟩
          case round =>
            obtain ⟨r, hr, rfl, HRR, HBR⟩ := hrel
            have e1r := (HBR.out.cell (p := ⟨b2, off2 + c * 2 + 1, none⟩) HB2L.out).trans HE1.out
            by_cases hrlt : r < g
            · have hrz : (r : Int) < (g : Int) := by omega
              have hrl : r < fl.length := by rw [HG.out]; exact hrlt
              obtain ⟨b3, off3, rfl, hb3, s0⟩ := HFL.out.at r hrl
              replace s0 := (HBR.out.cell (p := ⟨b3, off3 + r, none⟩) hb3).trans s0
              obtain ⟨f, hfe⟩ : ∃ f, fl[r] = f := ⟨_, rfl⟩
              rw [hfe] at s0
              have HTK2 : Hid (pre ++ fl.take (r + 1) = (pre ++ fl.take r) ++ [f]) := Lib.hid (by rw [← hfe, List.append_assoc, List.take_append_getElem hrl])
              have HCALL := Lib.hid (HIH.out f _ _ _ (HTF.out f (by rw [← hfe]; exact List.getElem_mem hrl)) HBR.out HRR.out (HFF.out _).2 (HFF.out _).1)
              rw [← HFS.out, ← HTK2.out] at HCALL
              clear hfe hrl
              go_wp2_with fail
              refine HCALL.out.mono ?_
              rintro e w' ⟨u, rfl, hru, hbu⟩
              have HRU := Lib.hid hru
              have HBU := Lib.hid hbu
              clear hru hbu HCALL s0
              go_wp2
              go_roundw
              case rel => exact ⟨r + 1, by omega, by go_num, HRU, HBU⟩
              case measure => simp [intOf]; omega
            · obtain rfl : g = r := by omega
              have hnn : ¬ (g : Int) < g := by omega
              have HRF : Hid (Rw w.heap.size wr u2 (F ((cs.take (c + 1)).flatMap (·.fields)))) := Lib.hid (by
                rw [HTK.out]
                have h := HRR.out
                rw [List.take_of_length_le (by rw [HG.out]; exact Nat.le_refl _)] at h
                exact h)
              go_wp2
              go_roundw
              case rel => exact ⟨c + 1, by omega, by go_num, HRF, HBR⟩
              case measure => simp [intOf]; omega
        · obtain rfl : q = c := by omega
          have hnn : ¬ (q : Int) < q := by omega
          have HRF : Hid (Rw w.heap.size wr u2 X) := Lib.hid (by
            rw [← HXF.out]
            have h := HRR.out
            rw [List.take_of_length_le (by rw [HQ.out]; exact Nat.le_refl _)] at h
            exact h)
          go_wp2
          go_ret
          exact ⟨_, rfl, HRF.out, HBR.out⟩

theorem rcollect_ok (w : World) (d : List DataM) (hd : Sm d) (hty : Dt.typed d = true) (dv : Value) (hdv : DsAt w dv d) : ∀ k, RsOk w d dv k
  | 0 => fun t W v l hok hB hR hun hol => absurd hun (Nat.not_lt_zero _)
  | k + 1 => rcollect_step w d hd hty dv hdv k (rcollect_ok w d hd hty dv hdv k)

set_option maxRecDepth 100000 in
set_option maxHeartbeats 1600000 in
theorem rContents_any (v : Value) (d : List DataM) (t : Int) (w : World) (hv : DsAt w v d) (hd : Sm d) (hty : Dt.typed d = true) (hok : Dt.ok d t = true) :
    Calls Try.prog 78 #[v, .int .i64 t] w fun e w' => (∃ u, e = .returned u ∧ FsAt w' u (Dt.contents d t)) ∧ Below w.heap.size w w' := by
  have h1 := Dt.unmet_le d []
  have h2 := hd.1
  have HC := Lib.hid (rcollect_ok w d hd hty v hv 150 t w (.slice none 0 0) [] hok (Below.refl _ _) (World.ownsRow_nil _ _ _ _) (by omega) (by simp; omega))
  obtain ⟨ad, cap, hE⟩ := hv.slice
  generalize d.length = n at hE
  subst hE
  clear hv h1 h2 hok
  go_enter Try.func78, Try.ntmps78
  go_wp2_with fail
  refine HC.out.mono ?_
  rintro e w1 ⟨u, rfl, hr, hb⟩
  have HR : Hid (FsAt w1 u (Dt.contents d t)) := Lib.hid hr.types
  have HB := Lib.hid hb
  clear hr hb
  go_wp2
  go_ret
  exact ⟨⟨_, rfl, HR.out⟩, HB.out⟩

end Go.Proofs.Yteidhlfiofiocaa
set_option linter.unusedVariables false
set_option linter.unusedSimpArgs false
namespace Go.Proofs.Yteidhlfiofiocaa
open Go.RowKit Go.Shelf Go.Maps

theorem Dt.ofM_bad {d : List DataM} {t : Int} (h : Dt.check d ≠ 0 ∨ Dt.ok d t = false) : Dt.ofM d t = [] := by
  unfold Dt.ofM
  rw [if_neg]
  intro h0
  have h1 := Dt.shErr_zero h0
  rcases h with h | h
  · exact h h1.1
  · rw [h1.2 t (by simp)] at h; cases h
theorem Dt.ofM_good {d : List DataM} {t : Int} (h : Dt.check d = 0) (h2 : Dt.ok d t = true) : Dt.ofM d t = Dt.places d t := by
  unfold Dt.ofM Dt.shErr
  simp [h, h2]

set_option maxRecDepth 100000 in
set_option maxHeartbeats 12800000 in
theorem rOf_any (v : Value) (d : List DataM) (t : Int) (w : World) (hv : DsAt w v d) (hd : Sm d) :
    Calls Try.prog 38 #[v, .int .i64 t] w fun e w' => (∃ u, e = .returned u ∧ PsAt w' u (Dt.ofM d t)) ∧ Below w.heap.size w w' := by
  have HCK := Lib.hid (rCheck_any v d w hv hd)
  obtain ⟨ad, cap, hvE⟩ := hv.slice
  obtain ⟨n, hn⟩ : ∃ n, d.length = n := ⟨_, rfl⟩
  rw [hn] at hvE
  subst hvE
  have HV := Lib.hid hv
  have HN := Lib.hid hn
  have HD := Lib.hid hd
  have hn100 : n ≤ 100 := by rw [← hn]; exact hd.1
  obtain ⟨E, hE⟩ : ∃ E, Dt.check d = E := ⟨_, rfl⟩
  rw [hE] at HCK
  have HE := Lib.hid hE
  obtain ⟨q, hq⟩ : ∃ q, Dt.ok d t = q := ⟨_, rfl⟩
  have HQ := Lib.hid hq
  have HIT : Hid (∀ W : World, Calls Try.prog 77 #[.slice ad n cap, .int .i64 t] W fun e w' => e = .returned (.bool q) ∧ w' = W) := Lib.hid fun W => rsIsType_any ad n cap t d q W HN HQ
  clear hv hn hd hE hq
  by_cases h0 : E = 0
  · subst h0
    cases q with
    | false =>
      rw [Dt.ofM_bad (.inr HQ.out)]
      go_enter Try.func38, Try.ntmps38
      go_wp2_with (first | (go_at_call 18; refine HCK.out.mono ?_; rintro e w1 ⟨rfl, hb⟩; have HB1 := Lib.hid hb; clear hb) | (go_at_call 77; refine (HIT.out _).mono ?_; rintro e w2 ⟨rfl, hw⟩; rw [hw]; clear hw w2))
      go_ret
      exact ⟨⟨_, rfl, PsAt.nil _⟩, HB1.out⟩
    | true =>
      rw [Dt.ofM_good HE.out HQ.out]
      have HTY := Lib.hid (Dt.typed_of_check0 HE.out)
      have HC : Hid (∀ W : World, DsAt W (.slice ad n cap) d → Calls Try.prog 78 #[.slice ad n cap, .int .i64 t] W fun e w' => (∃ u, e = .returned u ∧ FsAt w' u (Dt.contents d t)) ∧ Below W.heap.size W w') := Lib.hid fun W h => rContents_any _ d t W h HD.out HTY.out HQ.out
      have hLl := Dt.contents_length HD.out t
      have HNF : Hid (∀ x ∈ Dt.contents d t, Dt.nf d x = true) := Lib.hid fun x hx => Dt.contents_nf hx
      obtain ⟨X, hX⟩ : ∃ X, Dt.places d t = X := ⟨_, rfl⟩
      rw [hX]
      have HX : Hid (Dt.placesL d (Dt.contents d t) = X) := Lib.hid hX
      generalize Dt.contents d t = L at HC hLl HNF HX
      obtain ⟨m, hm⟩ : ∃ m, L.length = m := ⟨_, rfl⟩
      rw [hm] at hLl
      have HM := Lib.hid hm
      have HPL : Hid (∀ c : Nat, (Dt.placesL d (L.take c)).length ≤ 10100) := Lib.hid (fun c => by
        have h1 := Dt.placesL_length (d := d) (fun t => consOf_length HD.out t) (L.take c)
        have h2 : (L.take c).length ≤ m := by rw [List.length_take, hm]; exact Nat.min_le_right _ _
        omega)
      obtain ⟨i0, hi, hz0, hz1, hz2⟩ := info_parts infoPlace
      have HI := Lib.hid hi
      have HZ0 := Lib.hid hz0
      have HZ1 := Lib.hid hz1
      have HZ2 := Lib.hid hz2
      clear hX hm hi hz0 hz1 hz2
      go_enter Try.func38, Try.ntmps38
      go_wp2_with (first | (go_at_call 18; refine HCK.out.mono ?_; rintro e w0 ⟨rfl, hb⟩; have HB0 := Lib.hid hb; clear hb) | (go_at_call 77; refine (HIT.out _).mono ?_; rintro e w2 ⟨rfl, hw⟩; rw [hw]; clear hw w2) | (go_at_call 78; refine (HC.out _ (HV.out.keep HB0.out (Nat.le_refl _))).mono ?_; rintro e w1 ⟨⟨u, rfl, hu⟩, hb⟩; refine hold ?_))
      obtain ⟨ua, uc, rfl⟩ := hu.slice
      rw [HM.out] at hu ⊢
      have HU := Lib.hid hu
      have HB1 := Lib.hid (HB0.out.trans (hb.mono HB0.out.size))
      have HV1 := Lib.hid (HV.out.keep HB1.out (Nat.le_refl _))
      have HR0 : Hid (Pw w1.heap.size w1 (.slice none 0 0) (Dt.placesL d (L.take 0))) := Lib.hid (World.ownsRow_nil _ _ _ _)
      clear hu hb HC HCK HIT
      refine go_on ?_
      go_wp2
      go_loopw [6, 7] (fun v i wr => ∃ c : Nat, c ≤ m ∧ i = .int .i64 c ∧ Hid (Pw w1.heap.size wr v (Dt.placesL d (L.take c))) ∧ Hid (Below w1.heap.size w1 wr)) (fun _ i _ => m - (intOf i).toNat)
      case atStart => exact ⟨0, Nat.zero_le _, rfl, HR0, Lib.hid (Below.refl _ _)⟩
      case round =>
        obtain ⟨c, hc, rfl, HR, HBR⟩ := hrel
        by_cases hlt : c < m
        · have hltz : (c : Int) < (m : Int) := by omega
          have hcl : c < L.length := by rw [HM.out]; exact hlt
          obtain ⟨lb, lo, rfl, hlb, l0⟩ := HU.out.at c hcl
          obtain ⟨x, hx⟩ : ∃ x, L[c] = x := ⟨_, rfl⟩
          rw [hx] at l0
          have hxnf := HNF.out x (by rw [← hx]; exact List.getElem_mem hcl)
          have hxok := Dt.nf_ok hxnf
          have hx0 : x ≠ 0 := by intro h; subst h; simp [Dt.nf, Dt.consOf] at hxnf
          have HTK : Hid (Dt.placesL d (L.take (c + 1)) = Dt.placesL d (L.take c) ++ Dt.placesC d x) := Lib.hid (by rw [← List.take_append_getElem hcl, Dt.placesL_snoc, hx])
          obtain ⟨p, y, b, off, fa, fc, hxp, hpd, hy, hcons, _, hade, hb, c0, c1, hcs⟩ := typ_at HV1.out hxok hx0
          subst hade
          rw [HN.out] at hpd
          have hpn : (p : Int) < n := by omega
          have hpb : p ≤ 100000 := by omega
          obtain ⟨q, hq⟩ : ∃ q, y.cons.length = q := ⟨_, rfl⟩
          rw [hq] at c1
          have hpl : (Dt.placesC d x).length = q := by rw [Dt.placesC_length, hcons, hq]
          have hql : q ≤ 100 := by rw [← hq]; exact (HD.out.2 y (List.mem_of_getElem? hy)).2.1
          have HPL2 := Lib.hid hpl
          have hpre := HPL.out c
          obtain ⟨pre, hpe⟩ : ∃ pre, Dt.placesL d (L.take c) = pre := ⟨_, rfl⟩
          rw [hpe] at HTK HR hpre
          have HRI : Hid (Pw w1.heap.size wr u6 (pre ++ (Dt.placesC d x).take 0)) := Lib.hid (by rw [List.take_zero, List.append_nil]; exact HR.out)
          have HL0 := Lib.hid (And.intro l0 (And.intro hlb (And.intro c1 hb)))
          have HXP := Lib.hid hxp
          clear hx hxnf hxok hx0 hxp hy hcons hcs hq hpl hpe hcl c0 hb l0 c1 hlb
          go_wp2
          go_loopw [6, 8] (fun v i wr => ∃ k : Nat, k ≤ q ∧ i = .int .i64 k ∧ Hid (Pw w1.heap.size wr v (pre ++ (Dt.placesC d x).take k)) ∧ Hid (Below w1.heap.size w1 wr)) (fun _ i _ => q - (intOf i).toNat)
          case atStart => exact ⟨0, Nat.zero_le _, rfl, HRI, HBR⟩
          case round =>
            obtain ⟨k, hk, rfl, HRK, HBK⟩ := hrel
            have l1 := (HBK.out.cell (p := ⟨lb, lo + c, none⟩) HL0.out.2.1).trans HL0.out.1
            have d1 := (HBK.out.cell (p := ⟨b, off + p * 2 + 1, none⟩) HL0.out.2.2.2).trans HL0.out.2.2.1
            have hkq : k ≤ 100 := by omega
            by_cases hkl : k < q
            · have hkz : (k : Int) < (q : Int) := by omega
              have hkp : k < (Dt.placesC d x).length := by rw [HPL2.out]; exact hkl
              have HTK2 : Hid (pre ++ (Dt.placesC d x).take (k + 1) = (pre ++ (Dt.placesC d x).take k) ++ [(x, (k : Int))]) := Lib.hid (by
                rw [List.append_assoc, ← List.take_append_getElem hkp, Dt.placesC_at])
              have hnow : (pre ++ (Dt.placesC d x).take k).length ≤ 20000 := by
                have h1 : ((Dt.placesC d x).take k).length ≤ k := by rw [List.length_take]; exact Nat.min_le_left _ _
                rw [List.length_append]; omega
              generalize pre ++ (Dt.placesC d x).take k = now at HRK HTK2 hnow
              obtain ⟨va, vc, rfl⟩ := HRK.out.slice
              obtain ⟨z, hz⟩ : ∃ z, now.length = z := ⟨_, rfl⟩
              have HRW : Hid (wr.ownsRow w1.heap.size 50 2 (.slice va z vc) z (pcells now)) := Lib.hid (by have h := HRK.out; unfold Pw at h; rw [hz] at h; exact h)
              have hszW := HBK.out.size
              rw [hz] at hnow ⊢
              have HZN := Lib.hid hz
              have HNB : Hid (z + 1 ≤ maxLen ∧ (z + 1) * 16 ≤ 140737488355328) := Lib.hid (by unfold maxLen; omega)
              have HSB : Hid (w1.heap.size ≤ (wr.alloc (.cells #[.int .i64 x, .int .i64 k] 50)).heap.size) := Lib.hid (by simp; omega)
              have hw1 : wrap64 (x - 1) = p := by rw [HXP.out, show (p : Int) + 1 - 1 = p from Int.add_sub_cancel _ _]; exact wrap_k p hpb
              have hw2 : IntKind.i64.wrap (x - 1) = p := by rw [HXP.out, show (p : Int) + 1 - 1 = p from Int.add_sub_cancel _ _]; exact wrap_k' p hpb
              clear hz hkp
              go_wp2_with (first | (at_builtin; refine wpList_append_own _ rfl _ _ 47 rfl w1.heap.size 50 i0 (.agg #[.int .i64 0, .int .i64 0]) 2 16 Try.underlying47 HI.out HZ0.out HZ1.out HZ2.out rfl (by decide) _ _ _ rfl (HRW.out.alloc _) ⟨wr.heap.size, 0, none⟩ 1 1 [.int .i64 x, .int .i64 k] rfl rfl (cell_two_new _ _ _ _) (by intro u hu; simp at hu; rcases hu with rfl | rfl <;> rfl) HNB.out.1 HNB.out.2 HSB.out ?_; intro v2 w2 hown2 hgrow2 hnil2; refine hold ?_))
              have hB2 : Below w1.heap.size w1 w2 := (HBK.out.alloc hszW _).grown hgrow2 HSB.out (fun g hg => (HRW.out.lt g hg).1)
              have hR2 : Pw w1.heap.size w2 v2 (now ++ [(x, (k : Int))]) := by
                unfold Pw
                rw [pcells_snoc, List.length_append, HZN.out]
                exact hown2
              have HB2 := Lib.hid hB2
              have HR2 := Lib.hid hR2
              clear hown2 hgrow2 hnil2 hB2 hR2 hw1 hw2 l1 d1
              refine go_on ?_
              go_wp2
              go_roundw
              case rel => exact ⟨k + 1, by omega, by go_num, Lib.hid (by rw [HTK2.out]; exact HR2.out), HB2⟩
              case measure => simp [intOf]; omega
            · obtain rfl : q = k := by omega
              have hnn : ¬ (q : Int) < q := by omega
              have HRF : Hid (Pw w1.heap.size wr u6 (Dt.placesL d (L.take (c + 1)))) := Lib.hid (by
                rw [HTK.out]
                have h := HRK.out
                rw [List.take_of_length_le (by rw [HPL2.out]; exact Nat.le_refl _)] at h
                exact h)
              have hw1 : wrap64 (x - 1) = p := by rw [HXP.out, show (p : Int) + 1 - 1 = p from Int.add_sub_cancel _ _]; exact wrap_k p hpb
              have hw2 : IntKind.i64.wrap (x - 1) = p := by rw [HXP.out, show (p : Int) + 1 - 1 = p from Int.add_sub_cancel _ _]; exact wrap_k' p hpb
              go_wp2
              clear hw1 hw2
              go_roundw
              case rel => exact ⟨c + 1, by omega, by go_num, HRF, HBK⟩
              case measure => simp [intOf]; omega
        · obtain rfl : m = c := by omega
          have hnn : ¬ (m : Int) < m := by omega
          have HRF : Hid (PsAt wr u6 X) := Lib.hid (by
            rw [← HX.out]
            have h := HR.out
            rw [List.take_of_length_le (by rw [HM.out]; exact Nat.le_refl _)] at h
            exact h.places)
          have HBF := Lib.hid (HB1.out.trans (HBR.out.mono HB1.out.size))
          go_wp2
          go_ret
          exact ⟨⟨_, rfl, HRF.out⟩, HBF.out⟩
  · rw [Dt.ofM_bad (.inl (by rw [HE.out]; exact h0))]
    have hne : (E == 0) = false := by simpa using h0
    have hne2 : (E != 0) = true := by simpa using h0
    clear h0
    go_enter Try.func38, Try.ntmps38
    go_wp2_with (first | (go_at_call 18; refine HCK.out.mono ?_; rintro e w1 ⟨rfl, hb⟩; have HB1 := Lib.hid hb; clear hb))
    go_ret
    exact ⟨⟨_, rfl, PsAt.nil _⟩, HB1.out⟩

end Go.Proofs.Yteidhlfiofiocaa
set_option linter.unusedVariables false
set_option linter.unusedSimpArgs false
namespace Go.Proofs.Yteidhlfiofiocaa
open Go.RowKit Go.Shelf Go.Maps

set_option maxRecDepth 100000 in
set_option maxHeartbeats 6400000 in
theorem rIndex_any (v : Value) (d : List DataM) (t : Int) (p : Int × Int) (w : World) (hv : DsAt w v d) (hd : Sm d) (hp1 : In64 p.1) (hp2 : In64 p.2) :
    Calls Try.prog 42 #[v, .int .i64 t, .agg #[.int .i64 p.1, .int .i64 p.2]] w fun e w' => e = .returned (.int .i64 (Dt.pidx p (Dt.ofM d t))) ∧ Below w.heap.size w w' := by
  obtain ⟨p1, p2⟩ := p
  dsimp only at hp1 hp2 ⊢
  have hA := (Below.refl w.heap.size w).alloc (Nat.le_refl _) (.cells #[.int .i64 p1, .int .i64 p2] 50)
  have HOF := Lib.hid (rOf_any v d t (w.alloc (.cells #[.int .i64 p1, .int .i64 p2] 50)) (hv.keep hA (Nat.le_refl _)) hd)
  have H64 : Hid (∀ x ∈ Dt.ofM d t, In64 x.1 ∧ In64 x.2) := Lib.hid (Dt.ofM_in64 hd)
  have hn := Dt.ofM_few hd t
  have HBX : Hid ((w.alloc (.cells #[.int .i64 p1, .int .i64 p2] 50)).cell? ⟨w.heap.size, 0, none⟩ = some (.int .i64 p1) ∧ (w.alloc (.cells #[.int .i64 p1, .int .i64 p2] 50)).cell? ⟨w.heap.size, 0 + 1, none⟩ = some (.int .i64 p2) ∧ w.heap.size < (w.alloc (.cells #[.int .i64 p1, .int .i64 p2] 50)).heap.size) := Lib.hid ⟨by simp, by simp, by simp⟩
  have HA := Lib.hid hA
  have HP1 := Lib.hid hp1
  have HP2 := Lib.hid hp2
  generalize Dt.ofM d t = l at HOF H64 hn ⊢
  obtain ⟨ad, cap, hvE⟩ := hv.slice
  generalize d.length = dn at hvE
  subst hvE
  obtain ⟨n, hln⟩ : ∃ n, l.length = n := ⟨_, rfl⟩
  rw [hln] at hn
  have HL := Lib.hid hln
  clear hv hd hA hp1 hp2 hln
  go_enter Try.func42, Try.ntmps42
  go_wp2_with fail
  refine HOF.out.mono ?_
  rintro e w1 ⟨⟨u, rfl, hu⟩, hb⟩
  obtain ⟨ua, uc, rfl⟩ := hu.slice
  rw [HL.out] at hu ⊢
  have HU := Lib.hid hu
  have HB1 := Lib.hid (HA.out.trans (hb.mono HA.out.size))
  have HX1 : Hid (w1.cell? ⟨w.heap.size, 0, none⟩ = some (.int .i64 p1) ∧ w1.cell? ⟨w.heap.size, 0 + 1, none⟩ = some (.int .i64 p2) ∧ w.heap.size < w1.heap.size) := Lib.hid ⟨(hb.cell (p := ⟨w.heap.size, 0, none⟩) HBX.out.2.2).trans HBX.out.1, (hb.cell (p := ⟨w.heap.size, 0 + 1, none⟩) HBX.out.2.2).trans HBX.out.2.1, Nat.lt_of_lt_of_le HBX.out.2.2 hb.size⟩
  clear hu hb HOF HBX HA
  go_wp2
  go_loopw [8] (fun i wr => ∃ k : Nat, k ≤ n ∧ i = .int .i64 k ∧ Hid (Below w1.heap.size w1 wr) ∧ Hid (∀ j (h : j < k) (h2 : j < l.length), (l[j]'h2 == (p1, p2)) = false)) (fun i _ => n - (intOf i).toNat)
  case atStart => exact ⟨0, Nat.zero_le _, rfl, Lib.hid (Below.refl _ _), Lib.hid (fun j h => absurd h (Nat.not_lt_zero _))⟩
  case round =>
    obtain ⟨k, hk, rfl, HB, A⟩ := hrel
    by_cases hlt : k < n
    · have hltz : (k : Int) < (n : Int) := by omega
      have hkm : k < l.length := by rw [HL.out]; exact hlt
      obtain ⟨b, off, rfl, hb, c0, c1⟩ := HU.out.at k hkm
      replace c0 := (HB.out.cell (p := ⟨b, off + k * 2, none⟩) hb).trans c0
      replace c1 := (HB.out.cell (p := ⟨b, off + k * 2 + 1, none⟩) hb).trans c1
      have x0 := (HB.out.cell (p := ⟨w.heap.size, 0, none⟩) HX1.out.2.2).trans HX1.out.1
      have x1 := (HB.out.cell (p := ⟨w.heap.size, 0 + 1, none⟩) HX1.out.2.2).trans HX1.out.2.1
      obtain ⟨y1, y2, hy⟩ : ∃ y1 y2, l[k] = (y1, y2) := ⟨_, _, rfl⟩
      rw [hy] at c0 c1
      dsimp only at c0 c1
      have HY := Lib.hid hy
      have hin := H64.out l[k] (List.getElem_mem hkm)
      rw [hy] at hin
      dsimp only at hin
      have hk0 : (0 : Int) ≤ k := by omega
      clear hy
      obtain ⟨q, hq⟩ : ∃ q, ((y1, y2) == (p1, p2)) = q := ⟨_, rfl⟩
      have heq := fun W : World => place_eql W y1 y2 p1 p2 q hin.1 hin.2 HP1.out HP2.out hq
      have HQ := Lib.hid hq
      clear hq hin
      cases q with
      | true =>
        go_wp2
        go_quiet ((fail))
        clear heq x0 x1 c0 c1
        go_wp2
        go_ret
        exact ⟨by unfold Dt.pidx; rw [Dt.fidx_hit (fun x => x == (p1, p2)) l k hkm (by rw [HY.out]; exact HQ.out) (fun j h => A.out j h _)] <;> rfl, HB1.out.trans ((HB.out.trans ((below_drewNg wr _).mono HB.out.size)).mono HB1.out.size)⟩
      | false =>
        go_wp2
        go_quiet ((fail))
        clear heq x0 x1 c0 c1
        go_wp2
        go_roundw
        case rel =>
          refine ⟨k + 1, by omega, by go_num, Lib.hid (HB.out.trans ((below_drewNg wr _).mono HB.out.size)), Lib.hid (fun j h h2 => ?_)⟩
          by_cases e : j = k
          · subst e; rw [HY.out]; exact HQ.out
          · exact A.out j (by omega) h2
        case measure => simp [intOf]; omega
    · obtain rfl : n = k := by omega
      have hnn : ¬ (n : Int) < n := by omega
      go_wp2
      go_ret
      exact ⟨by unfold Dt.pidx; rw [Dt.fidx_miss (fun x => x == (p1, p2)) l (fun j h => A.out j (by rw [← HL.out]; exact h) h)] <;> rfl, HB1.out.trans (HB.out.mono HB1.out.size)⟩

theorem Dt.insE_bad {d : List DataM} {t f : Int} (h : Dt.check d ≠ 0) : Dt.insE d t f = 3 ∧ Dt.insL d t f = [] := by
  have h1 : Dt.shErr d [t, f] = 3 := by unfold Dt.shErr; rw [if_neg h]
  have h2 : Dt.insE d t f = 3 := by unfold Dt.insE; rw [h1, if_neg (by decide)]
  exact ⟨h2, by unfold Dt.insL; rw [h2, if_neg (by decide)]⟩
theorem Dt.insE_range {d : List DataM} {t f : Int} (h : Dt.check d = 0) (h2 : Dt.ok d t = false ∨ Dt.ok d f = false) : Dt.insE d t f = 2 ∧ Dt.insL d t f = [] := by
  have h1 : Dt.shErr d [t, f] = 2 := by
    unfold Dt.shErr
    rw [if_pos h, if_pos]
    rw [List.any_eq_true]
    rcases h2 with h2 | h2
    · exact ⟨t, by simp, by rw [h2]; rfl⟩
    · exact ⟨f, by simp, by rw [h2]; rfl⟩
  have h3 : Dt.insE d t f = 2 := by unfold Dt.insE; rw [h1, if_neg (by decide)]
  exact ⟨h3, by unfold Dt.insL; rw [h3, if_neg (by decide)]⟩
theorem Dt.insE_good {d : List DataM} {t f : Int} (h : Dt.check d = 0) (h1 : Dt.ok d t = true) (h2 : Dt.ok d f = true) : Dt.insE d t f = (if Dt.inAll d t f then 0 else 9) := by
  unfold Dt.insE
  rw [show Dt.shErr d [t, f] = 0 by unfold Dt.shErr; simp [h, h1, h2], if_pos rfl]

set_option maxRecDepth 100000 in
set_option maxHeartbeats 12800000 in
theorem rInside_any (v : Value) (d : List DataM) (t f : Int) (w : World) (hv : DsAt w v d) (hd : Sm d) :
    Calls Try.prog 44 #[v, .int .i64 t, .int .i64 f] w fun e w' => (∃ u, e = .returned (.tuple #[u, .int .i64 (Dt.insE d t f)]) ∧ FsAt w' u (Dt.insL d t f)) ∧ Below w.heap.size w w' := by
  have HCK := Lib.hid (rCheck_any v d w hv hd)
  obtain ⟨ad, cap, hvE⟩ := hv.slice
  obtain ⟨n, hn⟩ : ∃ n, d.length = n := ⟨_, rfl⟩
  rw [hn] at hvE
  subst hvE
  have HV := Lib.hid hv
  have HN := Lib.hid hn
  have HD := Lib.hid hd
  obtain ⟨E, hE⟩ : ∃ E, Dt.check d = E := ⟨_, rfl⟩
  rw [hE] at HCK
  have HE := Lib.hid hE
  obtain ⟨q, hq⟩ : ∃ q, Dt.ok d t = q := ⟨_, rfl⟩
  obtain ⟨q2, hq2⟩ : ∃ q, Dt.ok d f = q := ⟨_, rfl⟩
  have HQ := Lib.hid hq
  have HQ2 := Lib.hid hq2
  have HIT : Hid (∀ W : World, Calls Try.prog 77 #[.slice ad n cap, .int .i64 t] W fun e w' => e = .returned (.bool q) ∧ w' = W) := Lib.hid fun W => rsIsType_any ad n cap t d q W HN HQ
  have HIF : Hid (∀ W : World, Calls Try.prog 77 #[.slice ad n cap, .int .i64 f] W fun e w' => e = .returned (.bool q2) ∧ w' = W) := Lib.hid fun W => rsIsType_any ad n cap f d q2 W HN HQ2
  clear hv hn hd hE hq hq2
  by_cases h0 : E = 0
  · subst h0
    cases q with
    | false =>
      obtain ⟨z1, z2⟩ := Dt.insE_range (f := f) HE.out (.inl HQ.out)
      rw [z1, z2]
      clear z1 z2
      go_enter Try.func44, Try.ntmps44
      go_wp2_with fail
      refine HCK.out.mono ?_
      rintro e w1 ⟨rfl, hb⟩
      have HB1 := Lib.hid hb
      clear hb
      go_wp2_with (first | (go_at_call 77; refine (HIT.out _).mono ?_; rintro e w2 ⟨rfl, hw⟩; rw [hw]; clear hw w2))
      go_ret2
      exact ⟨⟨_, rfl, FsAt.nil _⟩, HB1.out⟩
    | true =>
      cases q2 with
      | false =>
        obtain ⟨z1, z2⟩ := Dt.insE_range (t := t) HE.out (.inr HQ2.out)
        rw [z1, z2]
        clear z1 z2
        go_enter Try.func44, Try.ntmps44
        go_wp2_with fail
        refine HCK.out.mono ?_
        rintro e w1 ⟨rfl, hb⟩
        have HB1 := Lib.hid hb
        clear hb
        go_wp2_with (first | (go_at_call 77; refine (HIT.out _).mono ?_; rintro e w2 ⟨rfl, hw⟩; rw [hw]; clear hw w2; clear HIT) | (go_at_call 77; refine (HIF.out _).mono ?_; rintro e w2 ⟨rfl, hw⟩; rw [hw]; clear hw w2))
        go_ret2
        exact ⟨⟨_, rfl, FsAt.nil _⟩, HB1.out⟩
      | true =>
        have hI1 := Dt.insE_good HE.out HQ.out HQ2.out
        obtain ⟨P, hP⟩ : ∃ P, Dt.places d t = P := ⟨_, rfl⟩
        obtain ⟨L, hL⟩ : ∃ L, Dt.places d f = L := ⟨_, rfl⟩
        have HIX : Hid (∀ (W : World) (x1 x2 : Int), DsAt W (.slice ad n cap) d → In64 x1 → In64 x2 → Calls Try.prog 42 #[.slice ad n cap, .int .i64 t, .agg #[.int .i64 x1, .int .i64 x2]] W fun e w' => e = .returned (.int .i64 (Dt.pidx (x1, x2) P)) ∧ Below W.heap.size W w') := Lib.hid fun W x1 x2 h a b => by
          have h1 := rIndex_any _ d t (x1, x2) W h HD.out a b
          rw [Dt.ofM_good HE.out HQ.out, hP] at h1
          exact h1
        have HOW : Hid (∀ W : World, DsAt W (.slice ad n cap) d → Calls Try.prog 38 #[.slice ad n cap, .int .i64 f] W fun e w' => (∃ u, e = .returned u ∧ PsAt w' u L) ∧ Below W.heap.size W w') := Lib.hid fun W h => by
          have h1 := rOf_any _ d f W h HD.out
          rw [Dt.ofM_good HE.out HQ2.out, hL] at h1
          exact h1
        have HL64 : Hid (∀ p ∈ L, In64 p.1 ∧ In64 p.2) := Lib.hid (by rw [← hL]; exact fun p hp => Dt.places_in64 HD.out hp)
        have hLl : L.length ≤ 10100 := by rw [← hL]; exact Dt.places_few HD.out f
        have HI1 : Hid (Dt.insE d t f = if L.all (fun p => decide (p ∈ P)) then 0 else 9) := Lib.hid (by rw [hI1]; unfold Dt.inAll; rw [hP, hL])
        have HIL : Hid (Dt.inList d t f = L.map (fun p => Dt.pidx p P)) := Lib.hid (by unfold Dt.inList; rw [hL, hP])
        obtain ⟨E, hE⟩ : ∃ E, Dt.insE d t f = E := ⟨_, rfl⟩
        obtain ⟨R, hR⟩ : ∃ R, Dt.insL d t f = R := ⟨_, rfl⟩
        have HRL : Hid (R = if E = 0 then Dt.inList d t f else []) := Lib.hid (by rw [← hR, ← hE]; rfl)
        rw [hE] at HI1
        rw [hE, hR]
        obtain ⟨q, hq⟩ : ∃ q, L.length = q := ⟨_, rfl⟩
        rw [hq] at hLl
        have HQQ := Lib.hid hq
        obtain ⟨i0, hi, hz0, hz1, hz2⟩ := info_parts infoInt
        have HI := Lib.hid hi
        have HZ0 := Lib.hid hz0
        have HZ1 := Lib.hid hz1
        have HZ2 := Lib.hid hz2
        clear hI1 hP hL hE hR hq hi hz0 hz1 hz2
        go_enter Try.func44, Try.ntmps44
        go_wp2_with fail
        refine HCK.out.mono ?_
        rintro e w1 ⟨rfl, hb⟩
        have HB1 := Lib.hid hb
        have HV1 := Lib.hid (HV.out.keep hb (Nat.le_refl _))
        clear hb HCK
        go_wp2_with (first | (go_at_call 77; refine (HIT.out _).mono ?_; rintro e w2 ⟨rfl, hw⟩; rw [hw]; clear hw w2; clear HIT) | (go_at_call 77; refine (HIF.out _).mono ?_; rintro e w2 ⟨rfl, hw⟩; rw [hw]; clear hw w2) | (go_at_call 38; refine (HOW.out w1 HV1.out).mono ?_; rintro e w3 ⟨⟨u, rfl, hu⟩, hb⟩; refine hold ?_))
        obtain ⟨ua, uc, rfl⟩ := hu.slice
        rw [HQQ.out] at hu ⊢
        have HU3 := Lib.hid hu
        have HB3 := Lib.hid (HB1.out.trans (hb.mono HB1.out.size))
        have HV3 := Lib.hid (HV1.out.keep hb (Nat.le_refl _))
        have HR0 : Hid (Nw w3.heap.size w3 (.slice none 0 0) ((L.take 0).map (fun p => Dt.pidx p P))) := Lib.hid (World.ownsRow_nil _ _ _ _)
        clear hu hb HOW HV1
        refine go_on ?_
        go_wp2
        go_loopw [9, 10] (fun v i wr => ∃ c : Nat, c ≤ q ∧ i = .int .i64 c ∧ Hid (Nw w3.heap.size wr v ((L.take c).map (fun p => Dt.pidx p P))) ∧ Hid (Below w3.heap.size w3 wr) ∧ Hid (∀ p ∈ L.take c, p ∈ P)) (fun _ i _ => q - (intOf i).toNat)
        case atStart => exact ⟨0, Nat.zero_le _, rfl, HR0, Lib.hid (Below.refl _ _), Lib.hid (fun p hp => by simp at hp)⟩
        case round =>
          obtain ⟨c, hc, rfl, HR, HB, HAL⟩ := hrel
          by_cases hlt : c < q
          · have hltz : (c : Int) < (q : Int) := by omega
            have hcl : c < L.length := by rw [HQQ.out]; exact hlt
            obtain ⟨pb, po, rfl, hpb, p0, p1⟩ := (HU3.out.keep HB.out (Nat.le_refl _)).at c hcl
            obtain ⟨x1, x2, hx⟩ : ∃ x1 x2, L[c] = (x1, x2) := ⟨_, _, rfl⟩
            have h64 := HL64.out L[c] (List.getElem_mem hcl)
            have htk : L.take (c + 1) = L.take c ++ [L[c]] := (List.take_append_getElem hcl).symm
            have hml : L[c] ∈ L := List.getElem_mem hcl
            rw [hx] at p0 p1 h64 htk hml
            dsimp only at p0 p1 h64
            have HTK := Lib.hid htk
            have HML := Lib.hid hml
            have HIC := Lib.hid (HIX.out wr x1 x2 (HV3.out.keep HB.out (Nat.le_refl _)) h64.1 h64.2)
            obtain ⟨z, hz⟩ : ∃ z, Dt.pidx (x1, x2) P = z := ⟨_, rfl⟩
            rw [hz] at HIC
            have HZZ := Lib.hid hz
            have HNG : Hid (z < 0 ↔ ¬ (x1, x2) ∈ P) := Lib.hid (by rw [← hz]; exact Dt.pidx_neg)
            clear hx h64 htk hcl hml hz
            go_wp2_with fail
            refine HIC.out.mono ?_
            rintro e w4 ⟨rfl, hb⟩
            have HB4 := Lib.hid (HB.out.trans (hb.mono HB.out.size))
            have HR4 : Hid (Nw w3.heap.size w4 u9 ((L.take c).map (fun p => Dt.pidx p P))) := Lib.hid (own_keep HR.out hb)
            clear hb p0 p1 HIC
            by_cases hz0 : z < 0
            · have hE9 : E = 9 := by
                rw [HI1.out, if_neg]
                rw [List.all_eq_true]
                intro h
                have h1 := of_decide_eq_true (h _ HML.out)
                exact HNG.out.1 hz0 h1
              have hR0 : R = [] := by rw [HRL.out, hE9, if_neg (by omega)]
              have HBF := Lib.hid (HB3.out.trans (HB4.out.mono HB3.out.size))
              have HR00 := Lib.hid hR0
              clear hR0
              subst hE9
              go_wp2
              go_ret2
              exact ⟨⟨_, rfl, by rw [HR00.out]; exact FsAt.nil _⟩, HBF.out⟩
            · have HIN : Hid ((x1, x2) ∈ P) := Lib.hid (Classical.byContradiction fun h => hz0 (HNG.out.2 h))
              obtain ⟨now, hnow⟩ : ∃ now, (L.take c).map (fun p => Dt.pidx p P) = now := ⟨_, rfl⟩
              have hnl : now.length ≤ 10100 := by
                have h1 : (L.take c).length ≤ c := by rw [List.length_take]; exact Nat.min_le_left _ _
                rw [← hnow, List.length_map]; omega
              have HTN : Hid ((L.take (c + 1)).map (fun p => Dt.pidx p P) = now ++ [z]) := Lib.hid (by rw [HTK.out, List.map_append, hnow, List.map_cons, List.map_nil, HZZ.out])
              rw [hnow] at HR4
              obtain ⟨na, nc, rfl⟩ := HR4.out.slice
              obtain ⟨nn, hnn⟩ : ∃ nn, now.length = nn := ⟨_, rfl⟩
              have HRW : Hid (w4.ownsRow w3.heap.size 3 1 (.slice na nn nc) nn (ints now)) := Lib.hid (by have h := HR4.out; unfold Nw at h; rw [hnn] at h; exact h)
              have hszW := HB4.out.size
              rw [hnn] at hnl ⊢
              have HNN := Lib.hid hnn
              have HNB : Hid (nn + 1 ≤ maxLen ∧ (nn + 1) * 8 ≤ 140737488355328) := Lib.hid (by unfold maxLen; omega)
              have HSB : Hid (w3.heap.size ≤ (w4.alloc (.cells #[.int .i64 z] 3)).heap.size) := Lib.hid (by simp; omega)
              have HAL2 : Hid (∀ p ∈ L.take (c + 1), p ∈ P) := Lib.hid (fun p hp => by
                rw [HTK.out] at hp
                rcases List.mem_append.1 hp with h | h
                · exact HAL.out p h
                · rw [List.mem_singleton.1 h]
                  exact HIN.out)
              clear hnn hnow
              go_wp2_with (first | (at_builtin; refine wpList_append_own _ rfl _ _ 57 rfl w3.heap.size 3 i0 (.int .i64 0) 1 8 Try.underlying57 HI.out HZ0.out HZ1.out HZ2.out rfl (by decide) _ _ _ rfl (HRW.out.alloc _) ⟨w4.heap.size, 0, none⟩ 1 1 [.int .i64 z] rfl rfl (cell_one_new _ _ _) (by intro u hu; simp at hu; subst hu; rfl) HNB.out.1 HNB.out.2 HSB.out ?_; intro v5 w5 hown5 hgrow5 hnil5; refine hold ?_))
              have hB5 : Below w3.heap.size w3 w5 := (HB4.out.alloc HB4.out.size _).grown hgrow5 HSB.out (fun g hg => (HRW.out.lt g hg).1)
              have hR5 : Nw w3.heap.size w5 v5 (now ++ [z]) := by
                unfold Nw
                rw [ints_snoc, List.length_append, HNN.out]
                exact hown5
              have HB5 := Lib.hid hB5
              have HR5 := Lib.hid hR5
              clear hown5 hgrow5 hnil5 hB5 hR5
              refine go_on ?_
              go_wp2
              go_roundw
              case rel => exact ⟨c + 1, by omega, by go_num, Lib.hid (by rw [HTN.out]; exact HR5.out), HB5, HAL2⟩
              case measure => simp [intOf]; omega
          · obtain rfl : q = c := by omega
            have hnn : ¬ (q : Int) < q := by omega
            have hall : L.all (fun p => decide (p ∈ P)) = true := by
              rw [List.all_eq_true]
              intro p hp
              have h := HAL.out p
              rw [List.take_of_length_le (by rw [HQQ.out]; exact Nat.le_refl _)] at h
              exact decide_eq_true (h hp)
            have hE0 : E = 0 := by rw [HI1.out, if_pos hall]
            have HRF : Hid (FsAt wr u9 R) := Lib.hid (by
              rw [HRL.out, if_pos hE0, HIL.out]
              have h := HR.out
              rw [List.take_of_length_le (by rw [HQQ.out]; exact Nat.le_refl _)] at h
              exact h.row)
            have HBF := Lib.hid (HB3.out.trans (HB.out.mono HB3.out.size))
            clear hall
            subst hE0
            go_wp2
            go_ret2
            exact ⟨⟨_, rfl, HRF.out⟩, HBF.out⟩
  · obtain ⟨z1, z2⟩ := Dt.insE_bad (d := d) (t := t) (f := f) (by rw [HE.out]; exact h0)
    rw [z1, z2]
    have hne : (E == 0) = false := by simpa using h0
    have hne2 : (E != 0) = true := by simpa using h0
    clear h0 z1 z2
    go_enter Try.func44, Try.ntmps44
    go_wp2_with fail
    refine HCK.out.mono ?_
    rintro e w1 ⟨rfl, hb⟩
    have HB1 := Lib.hid hb
    clear hb
    go_wp2
    go_ret2
    exact ⟨⟨_, rfl, FsAt.nil _⟩, HB1.out⟩

end Go.Proofs.Yteidhlfiofiocaa
