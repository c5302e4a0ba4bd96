/- The reference's Has, reach, Reach and Recursive; the laws' same; the law DatasReaches. -/
import Derived.Test.YteidhlfiofiocaaZU
set_option linter.unusedVariables false
set_option linter.unusedSimpArgs false
namespace Go.Proofs.Yteidhlfiofiocaa
open Go.RowKit Go.Shelf Go.Maps

set_option maxRecDepth 100000 in
set_option maxHeartbeats 1600000 in
theorem rHas_any (v : Value) (l : List Int) (t : Int) (r : Bool) (w : World) (hv : FsAt w v l) (hn : l.length ≤ 100000) (hr : Hid (Dt.hasT t l = r)) :
    Calls Try.prog 74 #[v, .int .i64 t] w fun e w' => e = .returned (.bool r) ∧ w' = w := by
  obtain ⟨ad, cap, rfl⟩ := hv.slice
  obtain ⟨n, hln⟩ : ∃ n, l.length = n := ⟨_, rfl⟩
  rw [hln] at hn hv ⊢
  have HL := Lib.hid hln
  have HV := Lib.hid hv
  clear hln hv
  go_enter Try.func74, Try.ntmps74
  go_wp2
  go_loop [5] (fun i => ∃ k : Nat, k ≤ n ∧ i = .int .i64 k ∧ Hid (∀ j (h : j < k) (h2 : j < l.length), (t == l[j]'h2) = false)) (fun i => n - (intOf i).toNat)
  case atStart => exact ⟨0, Nat.zero_le _, rfl, Lib.hid (fun j h => absurd h (Nat.not_lt_zero _))⟩
  case round =>
    obtain ⟨k, hk, rfl, A⟩ := hrel
    by_cases hlt : k < n
    · have hltz : (k : Int) < (n : Int) := by omega
      have hkm : k < l.length := by rw [HL.out]; exact hlt
      obtain ⟨b, off, rfl, hb, c0⟩ := HV.out.at k hkm
      obtain ⟨x, hx⟩ : ∃ x, l[k] = x := ⟨_, rfl⟩
      rw [hx] at c0
      have HX := Lib.hid hx
      obtain ⟨q, hq⟩ : ∃ q, (t == x) = q := ⟨_, rfl⟩
      have hq2 : (x == t) = q := by rw [← hq]; exact Bool.beq_comm
      clear hx
      cases q with
      | true =>
        have hre : r = true := by
          rw [← hr.out]
          simp only [Dt.hasT, List.any_eq_true]
          exact ⟨x, by rw [← HX.out]; exact List.getElem_mem hkm, hq⟩
        clear hq
        go_wp2
        go_ret
        subst hre
        exact ⟨rfl, rfl⟩
      | false =>
        have HQ := Lib.hid hq
        clear hq
        go_wp2
        go_round
        case rel =>
          refine ⟨k + 1, by omega, by go_num, Lib.hid (fun j h h2 => ?_)⟩
          by_cases e : j = k
          · subst e; rw [HX.out]; exact HQ.out
          · exact A.out j (by omega) h2
        case measure => simp [intOf]; omega
    · obtain rfl : n = k := by omega
      have hnn : ¬ (n : Int) < n := by omega
      have hre : r = false := by
        rw [← hr.out, Dt.hasT, List.any_eq_false]
        intro x hx
        obtain ⟨j, hj, rfl⟩ := List.getElem_of_mem hx
        rw [A.out j (by rw [← HL.out]; exact hj) hj]; simp
      go_wp2
      go_ret
      subst hre
      exact ⟨rfl, rfl⟩

/-- A row of types of the call's own. -/
def Rw (B : Nat) (W : World) (v : Value) (l : List Int) : Prop := W.ownsRow B 28 1 v l.length (ints l)
theorem Rw.types {B : Nat} {W : World} {v : Value} {l : List Int} (h : Rw B W v l) : FsAt W v l := by
  rcases h.2 with ⟨hv, h0⟩ | ⟨g, cap, cur, hv, hg, hgb, hnc, hcm, hcs, htk⟩
  · obtain rfl := List.length_eq_zero_iff.1 h0
    rw [hv]; exact FsAt.nil W
  · refine ⟨_, _, _, hv, rfl, .inr ⟨g, 0, rfl, (Array.getElem?_eq_some_iff.1 hgb).1, fun i hi => ?_⟩⟩
    have h1 := congrArg (fun l => l[i]?) htk
    rw [List.getElem?_take_of_lt (by omega)] at h1
    simp only [World.cell?, hgb, Nat.zero_add]
    simpa [ints, hi] using h1
theorem Rw.slice {B : Nat} {W : World} {v : Value} {l : List Int} (h : Rw B W v l) : ∃ a c, v = .slice a l.length c := h.types.slice
theorem Dt.hasT_iff (t : Int) (l : List Int) : Dt.hasT t l = true ↔ t ∈ l := by
  unfold Dt.hasT
  rw [List.any_eq_true]
  exact ⟨fun ⟨x, hx, e⟩ => by rw [beq_iff_eq] at e; exact e ▸ hx, fun h => ⟨t, h, by simp⟩⟩

/-- What is asked of the reference's reach at so many calls. -/
def RrOk (w : World) (d : List DataM) (dv : Value) (k : Nat) : Prop :=
  ∀ (t : Int) (W : World) (v : Value) (l : List Int), Below w.heap.size w W → Rw w.heap.size W v l → Dt.unmet d l < k → l.length + Dt.unmet d l ≤ 200 →
    Calls Try.prog 69 #[dv, .int .i64 t, v] W fun e W' => ∃ u, e = .returned u ∧ Rw w.heap.size W' u (Dt.reachF d k t l) ∧ Below w.heap.size w W'

set_option maxRecDepth 100000 in
set_option maxHeartbeats 6400000 in
theorem rreach_step (w : World) (d : List DataM) (hd : Sm d) (dv : Value) (hdv : DsAt w dv d) (k : Nat) (ih : RrOk w d dv k) : RrOk w d dv (k + 1) := by
  intro t W v l hB hR hun hol
  obtain ⟨ad, cap, rfl⟩ := hdv.slice
  obtain ⟨n, hn⟩ : ∃ n, d.length = n := ⟨_, rfl⟩
  obtain ⟨va, vc, rfl⟩ := hR.slice
  obtain ⟨m, hm⟩ : ∃ m, l.length = m := ⟨_, rfl⟩
  rw [hn] at hdv ih ⊢
  rw [hm] at hR ⊢
  have HN := Lib.hid hn
  have HM := Lib.hid hm
  have HR := Lib.hid hR
  have HB := Lib.hid hB
  have HIH := Lib.hid ih
  have HDV := Lib.hid hdv
  have hm200 : m ≤ 200 := by omega
  have HUN := Lib.hid hun
  have HOL := Lib.hid hol
  cases hok : Dt.ok d t with
  | false =>
    have e : Dt.reachF d (k + 1) t l = l := by rw [Dt.reachF, if_neg (by simp [hok])]
    rw [e]
    have HE := Lib.hid (rIsType_any ad n cap t d false W HN (Lib.hid hok))
    clear hn hm hR hB ih hdv hun hol hok e
    go_enter Try.func69, Try.ntmps69
    go_wp2_with fail
    refine HE.out.mono ?_
    rintro e w' ⟨rfl, hw⟩
    rw [hw]
    clear hw w'
    go_wp2
    go_ret
    exact ⟨_, rfl, HR.out, HB.out⟩
  | true =>
    have HE := Lib.hid (rIsType_any ad n cap t d true W HN (Lib.hid hok))
    cases hto : Dt.hasT t l with
    | true =>
      have e : Dt.reachF d (k + 1) t l = l := by rw [Dt.reachF, if_neg (fun h => h.2 ((Dt.hasT_iff t l).1 hto))]
      rw [e]
      have HH := Lib.hid (rHas_any (.slice va m vc) l t true W hR.types (by omega) (Lib.hid hto))
      clear hn hm hR hB ih hdv hun hol hok e hto
      go_enter Try.func69, Try.ntmps69
      go_wp2_with fail
      refine HE.out.mono ?_
      rintro e w' ⟨rfl, hw⟩
      rw [hw]
      clear hw w'
      go_wp2_with fail
      refine HH.out.mono ?_
      rintro e w' ⟨rfl, hw⟩
      rw [hw]
      clear hw w'
      go_wp2
      go_ret
      exact ⟨_, rfl, HR.out, HB.out⟩
    | false =>
      have htl : ¬ t ∈ l := fun h => by rw [(Dt.hasT_iff t l).2 h] at hto; cases hto
      have e : Dt.reachF d (k + 1) t l = (Dt.fieldsOf d t).foldl (fun l f => Dt.reachF d k f l) (l ++ [t]) := by rw [Dt.reachF, if_pos ⟨hok, htl⟩]
      rw [e]
      obtain ⟨X, hX⟩ : ∃ X, (Dt.fieldsOf d t).foldl (fun l f => Dt.reachF d k f l) (l ++ [t]) = X := ⟨_, rfl⟩
      rw [hX]
      have HX := Lib.hid hX
      have HH := Lib.hid (rHas_any (.slice va m vc) l t false W hR.types (by omega) (Lib.hid hto))
      have HUS := Lib.hid (Dt.unmet_snoc d hok htl)
      obtain ⟨i0, hi, hz0, hz1, hz2⟩ := info_parts infoType
      have HI := Lib.hid hi
      have HZ0 := Lib.hid hz0
      have HZ1 := Lib.hid hz1
      have HZ2 := Lib.hid hz2
      have hszW := hB.size
      have HR1 : Hid (W.ownsRow w.heap.size 28 1 (.slice va m vc) m (ints l)) := Lib.hid (by have := hR; unfold Rw at this; rw [hm] at this; exact this)
      have HOK := Lib.hid hok
      have HFO : Hid (t = 0 → Dt.fieldsOf d t = []) := Lib.hid (fun h => by subst h; simp [Dt.fieldsOf, Dt.consOf])
      clear hn hm hR hB ih hdv hun hol hok e hto htl hi hz0 hz1 hz2 hX
      go_enter Try.func69, Try.ntmps69
      go_wp2_with fail
      refine HE.out.mono ?_
      rintro e w' ⟨rfl, hw⟩
      rw [hw]
      clear hw w'
      go_wp2_with fail
      refine HH.out.mono ?_
      rintro e w' ⟨rfl, hw⟩
      rw [hw]
      clear hw w'
      go_wp2_with (first | (at_builtin; refine wpList_append_own _ rfl _ _ 39 rfl w.heap.size 28 i0 (.int .i64 0) 1 8 Try.underlying39 HI.out HZ0.out HZ1.out HZ2.out rfl (by decide) _ _ _ rfl (HR1.out.alloc _) ⟨W.heap.size, 0, none⟩ 1 1 [.int .i64 t] rfl rfl (cell_one_new _ _ _) (by intro u hu; simp at hu; subst hu; rfl) (by unfold maxLen; omega) (by omega) (by simp; omega) ?_; intro v2 w2 hown2 hgrow2 hnil2; refine hold ?_))
      have hB2 : Below w.heap.size w w2 := (HB.out.alloc (by have := HB.out.size; omega) _).grown hgrow2 (by simp; omega) (fun k hk => (HR1.out.lt k hk).1)
      have hR2 : Rw w.heap.size w2 v2 (l ++ [t]) := by
        unfold Rw
        rw [ints_snoc, List.length_append, HM.out]
        exact hown2
      have HB2 := Lib.hid hB2
      have HR2 := Lib.hid hR2
      clear hown2 hgrow2 hnil2 hB2 hR2 HH HE
      refine go_on ?_
      by_cases h0 : t = 0
      · have e0 := HFO.out h0
        have e1 := HX.out
        rw [e0] at e1
        have HR3 : Hid (Rw w.heap.size w2 v2 X) := Lib.hid (by rw [← e1]; exact HR2.out)
        subst h0
        clear e0 e1
        go_wp2
        go_ret
        exact ⟨_, rfl, HR3.out, HB2.out⟩
      · have ht0 : (t == 0) = false := by simp [h0]
        obtain ⟨p, y, b, off, fa, fc, hxp, hpd, hy, hcons, _, hade, hb, c0, c1, hcs⟩ := typ_at HDV.out HOK.out h0
        subst hade
        have hys : SmD y := hd.2 y (List.mem_of_getElem? hy)
        rw [HN.out] at hpd
        have hn100 : n ≤ 100 := by rw [← HN.out]; exact hd.1
        have hpn : (p : Int) < n := by omega
        obtain ⟨cs, hcse⟩ : ∃ cs, y.cons = cs := ⟨_, rfl⟩
        have HFE : Hid (Dt.fieldsOf d t = cs.flatMap (·.fields)) := Lib.hid (by unfold Dt.fieldsOf; rw [hcons, hcse])
        have hcl := hys.2.1
        have hcsm := hys.2.2
        rw [hcse] at c1 hcs hcl hcsm
        obtain ⟨q, hq⟩ : ∃ q, cs.length = q := ⟨_, rfl⟩
        rw [hq] at c1 hcs hcl
        have HQ := Lib.hid hq
        have HCS := Lib.hid hcs
        have HCSM := Lib.hid hcsm
        have HC1 := Lib.hid c1
        have HBB := Lib.hid hb
        have HPT : Hid (t = (p : Int) + 1) := Lib.hid hxp
        obtain ⟨F, hF⟩ : ∃ F : List Int → List Int, F = (fun fs => fs.foldl (fun l f => Dt.reachF d k f l) (l ++ [t])) := ⟨_, rfl⟩
        have HFF : Hid (∀ fs, (F fs).length + Dt.unmet d (F fs) ≤ 200 ∧ Dt.unmet d (F fs) < k) := Lib.hid (fun fs => by
          have h1 := Dt.fold_bound (Dt.reach_bound d k) fs (l ++ [t])
          have h2 := Dt.fold_unmet d k fs (l ++ [t])
          have h3 := HUS.out
          have h4 := HUN.out
          have h5 := HOL.out
          rw [List.length_append, List.length_singleton] at h1
          rw [hF]
          dsimp only
          omega)
        have HFS : Hid (∀ fs f, F (fs ++ [f]) = Dt.reachF d k f (F fs)) := Lib.hid (fun fs f => by rw [hF]; simp)
        have HF0 : Hid (F [] = l ++ [t]) := Lib.hid (by rw [hF]; rfl)
        have HXF : Hid (F (cs.flatMap (·.fields)) = X) := Lib.hid (by rw [← HX.out, hF, HFE.out])
        rw [← HF0.out] at HR2
        clear hys hcse hq hcs hcsm hy hcons c0 c1 hb hxp hF HFE
        have hw1 : wrap64 (t - 1) = p := by rw [HPT.out, show (p : Int) + 1 - 1 = p by omega]; exact wrap_k p (by omega)
        have hw2 : IntKind.i64.wrap (t - 1) = p := by rw [HPT.out, show (p : Int) + 1 - 1 = p by omega]; exact wrap_k' p (by omega)
        go_wp2
        go_loopw [2, 7] (fun v i wr => ∃ c : Nat, c ≤ q ∧ i = .int .i64 c ∧ Hid (Rw w.heap.size wr v (F ((cs.take c).flatMap (·.fields)))) ∧ Hid (Below w.heap.size w wr)) (fun _ i _ => q - (intOf i).toNat)
        case atStart => exact ⟨0, Nat.zero_le _, rfl, HR2, HB2⟩
        case round =>
          obtain ⟨c, hc, rfl, HRR, HBR⟩ := hrel
          have hc1 := (HBR.out.cell (p := ⟨b, off + p * 2 + 1, none⟩) HBB.out).trans HC1.out
          by_cases hlt : c < q
          · have hltz : (c : Int) < (q : Int) := by omega
            have hjl : c < cs.length := by rw [HQ.out]; exact hlt
            obtain ⟨b2, off2, ga, gc, rfl, hb2, e0, e1, hfs⟩ := HCS.out.at c hjl
            replace e1 := (HBR.out.cell (p := ⟨b2, off2 + c * 2 + 1, none⟩) hb2).trans e1
            have HTK : Hid ((cs.take (c + 1)).flatMap (·.fields) = (cs.take c).flatMap (·.fields) ++ cs[c].fields) := Lib.hid (by
              rw [← List.take_append_getElem hjl, List.flatMap_append]; simp)
            have hzs : SmC cs[c] := HCSM.out _ (List.getElem_mem hjl)
            obtain ⟨fl, hfl⟩ : ∃ fl, cs[c].fields = fl := ⟨_, rfl⟩
            have hfl1 := hzs.2.1
            rw [hfl] at e1 hfs HTK hfl1
            obtain ⟨g, hg⟩ : ∃ g, fl.length = g := ⟨_, rfl⟩
            rw [hg] at e1 hfs hfl1
            have HG := Lib.hid hg
            have HFL := Lib.hid hfs
            obtain ⟨pre, hpre⟩ : ∃ pre, (cs.take c).flatMap (·.fields) = pre := ⟨_, rfl⟩
            rw [hpre] at HTK HRR
            clear hzs hfl hg hfs e0 hjl hpre
            go_wp2
            clear hc1 e1
            go_loopw [2, 9] (fun v i wr => ∃ r : Nat, r ≤ g ∧ i = .int .i64 r ∧ Hid (Rw w.heap.size wr v (F (pre ++ fl.take r))) ∧ Hid (Below w.heap.size w wr)) (fun _ i _ => g - (intOf i).toNat)
            case atStart => exact ⟨0, Nat.zero_le _, rfl, Lib.hid (by rw [List.take_zero, List.append_nil]; exact HRR.out), HBR⟩
            case round =>
              obtain ⟨r, hr, rfl, HRR, HBR⟩ := hrel
              by_cases hrlt : r < g
              · have hrz : (r : Int) < (g : Int) := by omega
                have hrl : r < fl.length := by rw [HG.out]; exact hrlt
                obtain ⟨b3, off3, rfl, hb3, s0⟩ := HFL.out.at r hrl
                replace s0 := (HBR.out.cell (p := ⟨b3, off3 + r, none⟩) hb3).trans s0
                obtain ⟨f, hfe⟩ : ∃ f, fl[r] = f := ⟨_, rfl⟩
                rw [hfe] at s0
                have HTK2 : Hid (pre ++ fl.take (r + 1) = (pre ++ fl.take r) ++ [f]) := Lib.hid (by rw [← hfe, List.append_assoc, List.take_append_getElem hrl])
                have HCALL := Lib.hid (HIH.out f _ _ _ HBR.out HRR.out (HFF.out _).2 (HFF.out _).1)
                rw [← HFS.out, ← HTK2.out] at HCALL
                clear hfe hrl
                go_wp2_with fail
                refine HCALL.out.mono ?_
                rintro e w' ⟨u, rfl, hru, hbu⟩
                have HRU := Lib.hid hru
                have HBU := Lib.hid hbu
                clear hru hbu HCALL s0
                go_wp2
                go_roundw
                case rel => exact ⟨r + 1, by omega, by go_num, HRU, HBU⟩
                case measure => simp [intOf]; omega
              · obtain rfl : g = r := by omega
                have hnn : ¬ (g : Int) < g := by omega
                have HRF : Hid (Rw w.heap.size wr u2 (F ((cs.take (c + 1)).flatMap (·.fields)))) := Lib.hid (by
                  rw [HTK.out]
                  have h := HRR.out
                  rw [List.take_of_length_le (by rw [HG.out]; exact Nat.le_refl _)] at h
                  exact h)
                go_wp2
                go_roundw
                case rel => exact ⟨c + 1, by omega, by go_num, HRF, HBR⟩
                case measure => simp [intOf]; omega
          · obtain rfl : q = c := by omega
            have hnn : ¬ (q : Int) < q := by omega
            have HRF : Hid (Rw w.heap.size wr u2 X) := Lib.hid (by
              rw [← HXF.out]
              have h := HRR.out
              rw [List.take_of_length_le (by rw [HQ.out]; exact Nat.le_refl _)] at h
              exact h)
            go_wp2
            go_ret
            exact ⟨_, rfl, HRF.out, HBR.out⟩

theorem rreach_ok (w : World) (d : List DataM) (hd : Sm d) (dv : Value) (hdv : DsAt w dv d) : ∀ k, RrOk w d dv k
  | 0 => fun t W v l hB hR hun hol => absurd hun (Nat.not_lt_zero _)
  | k + 1 => rreach_step w d hd dv hdv k (rreach_ok w d hd dv hdv k)

set_option maxRecDepth 100000 in
set_option maxHeartbeats 1600000 in
theorem rReach_any (v : Value) (d : List DataM) (t : Int) (w : World) (hv : DsAt w v d) (hd : Sm d) :
    Calls Try.prog 31 #[v, .int .i64 t] w fun e w' => (∃ u, e = .returned u ∧ FsAt w' u (Dt.reach d t)) ∧ Below w.heap.size w w' := by
  have h1 := Dt.unmet_le d []
  have h2 := hd.1
  have HC := Lib.hid (rreach_ok w d hd v hv 150 t w (.slice none 0 0) [] (Below.refl _ _) (World.ownsRow_nil _ _ _ _) (by omega) (by simp; omega))
  obtain ⟨ad, cap, hE⟩ := hv.slice
  generalize d.length = n at hE
  subst hE
  clear hv h1 h2
  go_enter Try.func31, Try.ntmps31
  go_wp2_with fail
  refine HC.out.mono ?_
  rintro e w1 ⟨u, rfl, hr, hb⟩
  have HR := Lib.hid hr.types
  have HB := Lib.hid hb
  clear hr hb
  go_wp2
  go_ret
  exact ⟨⟨_, rfl, HR.out⟩, HB.out⟩

set_option maxRecDepth 100000 in
set_option maxHeartbeats 3200000 in
theorem same_any (u v : Value) (l : List Int) (w : World) (hu : FsAt w u l) (hv : FsAt w v l) (hn : l.length ≤ 100000) :
    Calls Try.prog 29 #[u, v] w fun e w' => e = .returned (.bool true) ∧ Below w.heap.size w w' := by
  obtain ⟨au, cu, rfl⟩ := hu.slice
  obtain ⟨av, cv, rfl⟩ := hv.slice
  obtain ⟨n, hln⟩ : ∃ n, l.length = n := ⟨_, rfl⟩
  rw [hln] at hn hv hu ⊢
  have HL := Lib.hid hln
  have HV := Lib.hid hv
  have HU := Lib.hid hu
  clear hln hv hu
  go_enter Try.func29, Try.ntmps29
  go_wp2
  go_loopw [5] (fun i wr => ∃ k : Nat, k ≤ n ∧ i = .int .i64 k ∧ Hid (Below w.heap.size w wr)) (fun i _ => n - (intOf i).toNat)
  case atStart => exact ⟨0, Nat.zero_le _, rfl, Lib.hid (Below.refl _ _)⟩
  case round =>
    obtain ⟨k, hk, rfl, HB⟩ := hrel
    by_cases hlt : k < n
    · have hltz : (k : Int) < (n : Int) := by omega
      have hkm : k < l.length := by rw [HL.out]; exact hlt
      obtain ⟨b, off, rfl, hb, c0⟩ := HU.out.at k hkm
      obtain ⟨b2, off2, rfl, hb2, c1⟩ := HV.out.at k hkm
      replace c0 := (HB.out.cell (p := ⟨b, off + k, none⟩) hb).trans c0
      replace c1 := (HB.out.cell (p := ⟨b2, off2 + k, none⟩) hb2).trans c1
      obtain ⟨x, hx⟩ : ∃ x, l[k] = x := ⟨_, rfl⟩
      rw [hx] at c0 c1
      have hk0 : (0 : Int) ≤ k := by omega
      clear hx hkm
      go_wp2
      go_quiet ((fail))
      go_wp2
      go_roundw
      case rel => exact ⟨k + 1, by omega, by go_num, Lib.hid (HB.out.trans ((below_drewNg wr _).mono HB.out.size))⟩
      case measure => simp [intOf]; omega
    · obtain rfl : n = k := by omega
      have hnn : ¬ (n : Int) < n := by omega
      go_wp2
      go_ret
      exact ⟨rfl, HB.out⟩

namespace Dt
theorem recB_iff {d : List DataM} (hd : Sm d) (t : Int) : recB d t = true ↔ (∃ f ∈ fieldsOf d t, t ∈ reach d f) ∧ ok d t = true := by
  have hu : unmet d [] < 150 := by have h1 := unmet_le d []; have h2 := hd.1; omega
  have e1 : ∀ x, recT d t x = true ↔ t ∈ fieldsOf d x := by
    intro x
    unfold recT recC fieldsOf
    rw [List.any_eq_true, List.mem_flatMap]
    exact ⟨fun ⟨c, hc, h⟩ => ⟨c, hc, (hasT_iff t _).1 h⟩, fun ⟨c, hc, h⟩ => ⟨c, hc, (hasT_iff t _).2 h⟩⟩
  unfold recB reach
  rw [List.any_eq_true]
  constructor
  · rintro ⟨x, hx, h⟩
    have h2 := recursive_iff.1 ⟨x, (mem_reach hu).1 hx, (e1 x).1 h⟩
    obtain ⟨⟨f, hf, hw⟩, hok⟩ := h2
    exact ⟨⟨f, hf, (mem_reach hu).2 hw⟩, hok⟩
  · rintro ⟨⟨f, hf, hw⟩, hok⟩
    obtain ⟨x, hx, h⟩ := recursive_iff.2 ⟨⟨f, hf, (mem_reach hu).1 hw⟩, hok⟩
    exact ⟨x, (mem_reach hu).2 hx, (e1 x).2 h⟩
end Dt

set_option maxRecDepth 100000 in
set_option maxHeartbeats 6400000 in
theorem rRecursive_any (v : Value) (d : List DataM) (t : Int) (r : Bool) (w : World) (hv : DsAt w v d) (hd : Sm d) (hr : Hid (Dt.recB d t = r)) :
    Calls Try.prog 33 #[v, .int .i64 t] w fun e w' => e = .returned (.bool r) ∧ Below w.heap.size w w' := by
  obtain ⟨ad, cap, rfl⟩ := hv.slice
  obtain ⟨n, hn⟩ : ∃ n, d.length = n := ⟨_, rfl⟩
  rw [hn] at hv ⊢
  have HN := Lib.hid hn
  have HV := Lib.hid hv
  have HD := Lib.hid hd
  have HRB := Lib.hid (Dt.recB_iff hd t)
  by_cases h0 : t = 0
  · obtain rfl : r = false := by
      rw [← hr.out, ← Bool.not_eq_true]
      intro h
      obtain ⟨⟨f, hf, _⟩, _⟩ := HRB.out.1 h
      subst h0
      simp [Dt.fieldsOf, Dt.consOf] at hf
    subst h0
    clear hn hv hd HRB hr
    go_enter Try.func33, Try.ntmps33
    go_wp2
    go_ret
    exact ⟨rfl, Below.refl _ _⟩
  · have ht0 : (t == 0) = false := by simp [h0]
    cases hok : Dt.ok d t with
    | false =>
      obtain rfl : r = false := by
        rw [← hr.out, ← Bool.not_eq_true]
        intro h
        have := (HRB.out.1 h).2
        rw [hok] at this; cases this
      have HE := Lib.hid (rIsType_any ad n cap t d false w HN (Lib.hid hok))
      clear hn hv hd HRB hr hok
      go_enter Try.func33, Try.ntmps33
      go_wp2_with fail
      refine HE.out.mono ?_
      rintro e w' ⟨rfl, hw⟩
      rw [hw]
      clear hw w'
      go_wp2
      go_ret
      exact ⟨rfl, Below.refl _ _⟩
    | true =>
      have HE := Lib.hid (rIsType_any ad n cap t d true w HN (Lib.hid hok))
      obtain ⟨p, y, b, off, fa, fc, hxp, hpd, hy, hcons, _, hade, hb, c0, c1, hcs⟩ := typ_at HV.out hok h0
      subst hade
      have hys : SmD y := hd.2 y (List.mem_of_getElem? hy)
      rw [HN.out] at hpd
      have hn100 : n ≤ 100 := by rw [← HN.out]; exact hd.1
      have hpn : (p : Int) < n := by omega
      obtain ⟨cs, hcse⟩ : ∃ cs, y.cons = cs := ⟨_, rfl⟩
      have HFE : Hid (Dt.fieldsOf d t = cs.flatMap (·.fields)) := Lib.hid (by unfold Dt.fieldsOf; rw [hcons, hcse])
      have hcl := hys.2.1
      have hcsm := hys.2.2
      rw [hcse] at c1 hcs hcl hcsm
      obtain ⟨q, hq⟩ : ∃ q, cs.length = q := ⟨_, rfl⟩
      rw [hq] at c1 hcs hcl
      have HQ := Lib.hid hq
      have HCS := Lib.hid hcs
      have HCSM := Lib.hid hcsm
      have HC1 := Lib.hid c1
      have HBB := Lib.hid hb
      have HHIT : Hid (∀ f, (∃ c ∈ cs, f ∈ c.fields) → Dt.hasT t (Dt.reach d f) = true → r = true) := Lib.hid (fun f hf h => by
        rw [← hr.out]
        refine HRB.out.2 ⟨⟨f, ?_, (Dt.hasT_iff _ _).1 h⟩, hok⟩
        rw [HFE.out, List.mem_flatMap]
        obtain ⟨c, h1, h2⟩ := hf
        exact ⟨c, h1, h2⟩)
      have HMISS : Hid ((∀ j (h : j < cs.length), ∀ f ∈ (cs[j]'h).fields, Dt.hasT t (Dt.reach d f) = false) → r = false) := Lib.hid (fun h => by
        rw [← hr.out, ← Bool.not_eq_true]
        intro h2
        obtain ⟨⟨f, hf, hw⟩, _⟩ := HRB.out.1 h2
        rw [HFE.out, List.mem_flatMap] at hf
        obtain ⟨c, h1, h3⟩ := hf
        obtain ⟨j, hj, rfl⟩ := List.getElem_of_mem h1
        have := h j hj f h3
        rw [(Dt.hasT_iff _ _).2 hw] at this; cases this)
      have HPT : Hid (t = (p : Int) + 1) := Lib.hid hxp
      clear hys hcse hq hcs hcsm hy hcons c0 c1 hb hxp HFE HRB hr hok hv hd hn
      have hw1 : wrap64 (t - 1) = p := by rw [HPT.out, show (p : Int) + 1 - 1 = p by omega]; exact wrap_k p (by omega)
      have hw2 : IntKind.i64.wrap (t - 1) = p := by rw [HPT.out, show (p : Int) + 1 - 1 = p by omega]; exact wrap_k' p (by omega)
      go_enter Try.func33, Try.ntmps33
      go_wp2_with fail
      refine HE.out.mono ?_
      rintro e w' ⟨rfl, hw⟩
      rw [hw]
      clear hw w'
      go_wp2
      go_loopw [5] (fun i wr => ∃ c : Nat, c ≤ q ∧ i = .int .i64 c ∧ Hid (∀ j (h : j < c) (h2 : j < cs.length), ∀ f ∈ (cs[j]'h2).fields, Dt.hasT t (Dt.reach d f) = false) ∧ Hid (Below w.heap.size w wr)) (fun i _ => q - (intOf i).toNat)
      case atStart => exact ⟨0, Nat.zero_le _, rfl, Lib.hid (fun j h => absurd h (Nat.not_lt_zero _)), Lib.hid (Below.refl _ _)⟩
      case round =>
        obtain ⟨c, hc, rfl, HA, HBR⟩ := hrel
        have hc1 := (HBR.out.cell (p := ⟨b, off + p * 2 + 1, none⟩) HBB.out).trans HC1.out
        by_cases hlt : c < q
        · have hltz : (c : Int) < (q : Int) := by omega
          have hjl : c < cs.length := by rw [HQ.out]; exact hlt
          obtain ⟨b2, off2, ga, gc, rfl, hb2, e0, e1, hfs⟩ := HCS.out.at c hjl
          replace e1 := (HBR.out.cell (p := ⟨b2, off2 + c * 2 + 1, none⟩) hb2).trans e1
          obtain ⟨z, hz⟩ : ∃ z, cs[c] = z := ⟨_, rfl⟩
          rw [hz] at e1 hfs
          have HZ := Lib.hid hz
          have HZM : Hid (z ∈ cs) := Lib.hid (by rw [← hz]; exact List.getElem_mem hjl)
          have hzs : SmC z := HCSM.out _ HZM.out
          obtain ⟨fl, hfl⟩ : ∃ fl, z.fields = fl := ⟨_, rfl⟩
          have HFLE := Lib.hid hfl
          have hfl1 := hzs.2.1
          have hfl2 := hzs.2.2
          rw [hfl] at e1 hfs hfl1 hfl2
          obtain ⟨g, hg⟩ : ∃ g, fl.length = g := ⟨_, rfl⟩
          rw [hg] at e1 hfs hfl1
          have HG := Lib.hid hg
          have HFL := Lib.hid hfs
          clear hzs hfl hfl2 hg hfs e0 hz
          go_wp2
          clear hc1 e1
          go_loopw [7] (fun i wr => ∃ s : Nat, s ≤ g ∧ i = .int .i64 s ∧ Hid (∀ j (h : j < s) (h2 : j < fl.length), Dt.hasT t (Dt.reach d (fl[j]'h2)) = false) ∧ Hid (Below w.heap.size w wr)) (fun i _ => g - (intOf i).toNat)
          case atStart => exact ⟨0, Nat.zero_le _, rfl, Lib.hid (fun j h => absurd h (Nat.not_lt_zero _)), HBR⟩
          case round =>
            obtain ⟨s, hs, rfl, HAF, HBR⟩ := hrel
            by_cases hrlt : s < g
            · have hrz : (s : Int) < (g : Int) := by omega
              have hrl : s < fl.length := by rw [HG.out]; exact hrlt
              obtain ⟨b3, off3, rfl, hb3, s0⟩ := HFL.out.at s hrl
              replace s0 := (HBR.out.cell (p := ⟨b3, off3 + s, none⟩) hb3).trans s0
              obtain ⟨f, hfe⟩ : ∃ f, fl[s] = f := ⟨_, rfl⟩
              rw [hfe] at s0
              have HFX := Lib.hid hfe
              have HFM : Hid (f ∈ fl) := Lib.hid (by rw [← hfe]; exact List.getElem_mem hrl)
              have HCALL := Lib.hid (rReach_any _ d f wr (HV.out.keep HBR.out (Nat.le_refl _)) HD.out)
              have HLEN := Lib.hid (Dt.reach_length HD.out f)
              obtain ⟨o, ho⟩ : ∃ o, Dt.hasT t (Dt.reach d f) = o := ⟨_, rfl⟩
              have HO := Lib.hid ho
              clear hfe ho
              go_wp2_with fail
              refine HCALL.out.mono ?_
              rintro e w1 ⟨⟨u, rfl, hu⟩, hb⟩
              have HB1 := Lib.hid (HBR.out.trans (hb.mono HBR.out.size))
              have HHAS := Lib.hid (rHas_any u _ t o w1 hu (by have := HLEN.out; omega) HO)
              clear hb hu HCALL s0
              go_wp2_with fail
              refine HHAS.out.mono ?_
              rintro e w' ⟨rfl, hw⟩
              rw [hw]
              clear hw w' HHAS
              cases o with
              | true =>
                have hre : r = true := HHIT.out f ⟨z, HZM.out, by rw [HFLE.out]; exact HFM.out⟩ HO.out
                have HRE := Lib.hid hre
                clear hre
                go_wp2
                go_ret
                exact ⟨by rw [HRE.out] <;> rfl, HB1.out⟩
              | false =>
                go_wp2
                go_roundw
                case rel =>
                  refine ⟨s + 1, by omega, by go_num, Lib.hid (fun j h h2 => ?_), HB1⟩
                  by_cases e : j = s
                  · subst e; rw [HFX.out]; exact HO.out
                  · exact HAF.out j (by omega) h2
                case measure => simp [intOf]; omega
            · obtain rfl : g = s := by omega
              have hnn : ¬ (g : Int) < g := by omega
              go_wp2
              go_roundw
              case rel =>
                refine ⟨c + 1, by omega, by go_num, Lib.hid (fun j h h2 => ?_), HBR⟩
                by_cases e : j = c
                · subst e
                  rw [HZ.out, HFLE.out]
                  intro f hf
                  obtain ⟨i, hi, rfl⟩ := List.getElem_of_mem hf
                  exact HAF.out i (by rw [← HG.out]; exact hi) hi
                · exact HA.out j (by omega) h2
              case measure => simp [intOf]; omega
        · obtain rfl : q = c := by omega
          have hnn : ¬ (q : Int) < q := by omega
          have HRE := Lib.hid (HMISS.out (fun j h => HA.out j (by rw [← HQ.out]; exact h) h))
          go_wp2
          go_ret
          exact ⟨by rw [HRE.out] <;> rfl, HBR.out⟩

set_option maxRecDepth 100000 in
set_option maxHeartbeats 3200000 in
theorem law_DatasReaches (v : Value) (d : List DataM) (t : Int) (w : World) (hv : DsAt w v d) (h64 : H64 d) (ht : In64 t) :
    Calls Try.prog 6 #[v, .int .i64 t] w fun e w' => e = .returned (.bool true) ∧ Below w.heap.size w w' := by
  obtain ⟨ad, cap, hE⟩ := hv.slice
  have HV := Lib.hid hv
  have HT := Lib.hid ht
  generalize d.length = n at hE
  subst hE
  cases hf : Dt.few d with
  | false =>
    have HF := Lib.hid hf
    clear hv h64 ht hf
    go_enter Try.func6, Try.ntmps6
    go_wp2_with fail
    refine (awake_any w).mono ?_
    rintro e w1 ⟨rfl, hb⟩
    have HB := Lib.hid hb
    have HV1 := Lib.hid (HV.out.keep hb (Nat.le_refl _))
    clear hb
    go_wp2_with fail
    refine (Few_any _ d false w1 HV1.out HF).mono ?_
    rintro e w2 ⟨rfl, rfl⟩
    go_wp2
    go_ret
    exact ⟨rfl, HB.out⟩
  | true =>
    have HF := Lib.hid hf
    have HS := Lib.hid (Dt.few_sm hf h64)
    clear hv h64 ht hf
    go_enter Try.func6, Try.ntmps6
    go_wp2_with fail
    refine (awake_any w).mono ?_
    rintro e w1 ⟨rfl, hb⟩
    have HB := Lib.hid hb
    have HV1 := Lib.hid (HV.out.keep hb (Nat.le_refl _))
    clear hb
    go_wp2_with fail
    refine (Few_any _ d true w1 HV1.out HF).mono ?_
    rintro e w2 ⟨rfl, h⟩
    rw [h]
    clear h w2
    go_wp2_with fail
    refine (Reach_any _ d t w1 HV1.out HS.out HT.out).mono ?_
    rintro e w3 ⟨⟨u, rfl, hu⟩, hb⟩
    have HB3 := Lib.hid (HB.out.trans (hb.mono HB.out.size))
    have HV3 := Lib.hid (HV1.out.keep hb (Nat.le_refl _))
    have HU := Lib.hid hu
    clear hb hu
    go_wp2_with fail
    refine (rReach_any _ d t w3 HV3.out HS.out).mono ?_
    rintro e w4 ⟨⟨u2, rfl, hu2⟩, hb⟩
    have HB4 := Lib.hid (HB3.out.trans (hb.mono HB3.out.size))
    have HV4 := Lib.hid (HV3.out.keep hb (Nat.le_refl _))
    have HSM := Lib.hid (same_any u u2 _ w4 (HU.out.keep hb (Nat.le_refl _)) hu2 (by have := Dt.reach_length HS.out t; omega))
    clear hb hu2
    go_wp2_with fail
    refine HSM.out.mono ?_
    rintro e w5 ⟨rfl, hb⟩
    have HB5 := Lib.hid (HB4.out.trans (hb.mono HB4.out.size))
    have HV5 := Lib.hid (HV4.out.keep hb (Nat.le_refl _))
    obtain ⟨r, hr⟩ : ∃ r, Dt.recB d t = r := ⟨_, rfl⟩
    have HR := Lib.hid hr
    clear hb hr
    go_wp2_with fail
    refine (Recursive_any _ d t r w5 HV5.out HS.out HT.out HR).mono ?_
    rintro e w6 ⟨rfl, hb⟩
    have HB6 := Lib.hid (HB5.out.trans (hb.mono HB5.out.size))
    have HV6 := Lib.hid (HV5.out.keep hb (Nat.le_refl _))
    clear hb
    go_wp2_with fail
    refine (rRecursive_any _ d t r w6 HV6.out HS.out HR).mono ?_
    rintro e w7 ⟨rfl, hb⟩
    have HB7 := Lib.hid (HB6.out.trans (hb.mono HB6.out.size))
    clear hb
    go_wp2
    go_ret
    exact ⟨rfl, HB7.out⟩

end Go.Proofs.Yteidhlfiofiocaa
