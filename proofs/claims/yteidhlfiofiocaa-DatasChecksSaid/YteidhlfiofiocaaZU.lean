/- The laws' has; the law DatasCloses. -/
import Derived.Test.YteidhlfiofiocaaZT
import Derived.Deep.QuietTactic
import Derived.BigQuiet
set_option linter.unusedVariables false
set_option linter.unusedSimpArgs false
namespace Go.Proofs.Yteidhlfiofiocaa
open Go.RowKit Go.Shelf

theorem FsAt.take {w : World} {ad : Option Addr} {n cap : Nat} {l : List Int} (h : FsAt w (.slice ad n cap) l) (i cap' : Nat) (hi : i ≤ n) : FsAt w (.slice ad i cap') (l.take i) := by
  obtain ⟨ad', n', cap2, e, hn, h⟩ := h
  cases e
  refine ⟨ad, i, cap', rfl, by rw [List.length_take]; omega, ?_⟩
  rcases h with h | ⟨b, off, rfl, h1, h2⟩
  · exact .inl (by omega)
  · refine .inr ⟨b, off, rfl, h1, fun j hj => ?_⟩
    rw [List.length_take] at hj
    rw [List.getElem_take]
    exact h2 j (by omega)

set_option maxRecDepth 100000 in
set_option maxHeartbeats 1600000 in
theorem has_any (v : Value) (l : List Int) (t : Int) (r : Bool) (w : World) (hv : FsAt w v l) (hn : l.length ≤ 100000) (hr : Hid (Dt.hasT t l = r)) :
    Calls Try.prog 34 #[v, .int .i64 t] w fun e w' => e = .returned (.bool r) ∧ w' = w := by
  obtain ⟨ad, cap, rfl⟩ := hv.slice
  obtain ⟨n, hln⟩ : ∃ n, l.length = n := ⟨_, rfl⟩
  rw [hln] at hn hv ⊢
  have HL := Lib.hid hln
  have HV := Lib.hid hv
  clear hln hv
  go_enter Try.func34, Try.ntmps34
  go_wp2
  go_loop [5] (fun i => ∃ k : Nat, k ≤ n ∧ i = .int .i64 k ∧ Hid (∀ j (h : j < k) (h2 : j < l.length), (t == l[j]'h2) = false)) (fun i => n - (intOf i).toNat)
  case atStart => exact ⟨0, Nat.zero_le _, rfl, Lib.hid (fun j h => absurd h (Nat.not_lt_zero _))⟩
  case round =>
    obtain ⟨k, hk, rfl, A⟩ := hrel
    by_cases hlt : k < n
    · have hltz : (k : Int) < (n : Int) := by omega
      have hkm : k < l.length := by rw [HL.out]; exact hlt
      obtain ⟨b, off, rfl, hb, c0⟩ := HV.out.at k hkm
      obtain ⟨x, hx⟩ : ∃ x, l[k] = x := ⟨_, rfl⟩
      rw [hx] at c0
      have HX := Lib.hid hx
      obtain ⟨q, hq⟩ : ∃ q, (t == x) = q := ⟨_, rfl⟩
      have hq2 : (x == t) = q := by rw [← hq]; exact Bool.beq_comm
      clear hx
      cases q with
      | true =>
        have hre : r = true := by
          rw [← hr.out]
          simp only [Dt.hasT, List.any_eq_true]
          exact ⟨x, by rw [← HX.out]; exact List.getElem_mem hkm, hq⟩
        clear hq
        go_wp2
        go_ret
        subst hre
        exact ⟨rfl, rfl⟩
      | false =>
        have HQ := Lib.hid hq
        clear hq
        go_wp2
        go_round
        case rel =>
          refine ⟨k + 1, by omega, by go_num, Lib.hid (fun j h h2 => ?_)⟩
          by_cases e : j = k
          · subst e; rw [HX.out]; exact HQ.out
          · exact A.out j (by omega) h2
        case measure => simp [intOf]; omega
    · obtain rfl : n = k := by omega
      have hnn : ¬ (n : Int) < n := by omega
      have hre : r = false := by
        rw [← hr.out, Dt.hasT, List.any_eq_false]
        intro x hx
        obtain ⟨j, hj, rfl⟩ := List.getElem_of_mem hx
        rw [A.out j (by rw [← HL.out]; exact hj) hj]; simp
      go_wp2
      go_ret
      subst hre
      exact ⟨rfl, rfl⟩

namespace Dt
theorem typed_of_check {d : List DataM} (h : check d = 0) : typed d = true := by
  unfold check at h
  split at h
  · omega
  · split at h
    · omega
    · split at h
      · omega
      · split at h
        · omega
        · next h4 => simpa using h4
theorem typed_field {d : List DataM} (h : typed d = true) {t f : Int} (hf : f ∈ fieldsOf d t) : ok d f = true := by
  unfold fieldsOf at hf
  obtain ⟨c, hc, hfc⟩ := List.mem_flatMap.1 hf
  unfold consOf at hc
  split at hc
  · simp at hc
  · cases hx : d[(t - 1).toNat]? with
    | none => rw [hx] at hc; simp at hc
    | some x =>
      rw [hx] at hc
      simp at hc
      have hxm : x ∈ d := List.mem_of_getElem? hx
      have h1 : d.any (offD d) = false := by simpa [typed] using h
      rw [List.any_eq_false] at h1
      have h2 := h1 x hxm
      simp only [offD, Bool.not_eq_true] at h2
      rw [List.any_eq_false] at h2
      have h3 := h2 c hc
      simp only [offC, Bool.not_eq_true] at h3
      rw [List.any_eq_false] at h3
      have h4 := h3 f hfc
      simpa [offT] using h4
theorem reach_none {d : List DataM} {t : Int} (h : ok d t = false) : reach d t = [] := by
  unfold reach
  rw [reachF]
  simp [h]
theorem reach_head {d : List DataM} {t : Int} (h : ok d t = true) : ∃ l, reach d t = t :: l := by
  unfold reach
  rw [reachF, if_pos ⟨h, by simp⟩]
  have hp : ([] ++ [t]) <+: (fieldsOf d t).foldl (fun l f => reachF d 149 f l) ([] ++ [t]) := foldl_prefix (fun l x => reach_prefix d 149 x l) _ _
  obtain ⟨s, hs⟩ := hp
  exact ⟨s, by rw [← hs]; rfl⟩
theorem reach_oks {d : List DataM} (t : Int) : (∀ x ∈ reach d t, ok d x = true) ∧ (reach d t).Nodup := reach_good d 150 t [] (by simp) (by simp)
theorem reach_has {d : List DataM} (hd : Sm d) (ht : typed d = true) (t x f : Int) (hx : x ∈ reach d t) (hf : f ∈ fieldsOf d x) : f ∈ reach d t := by
  have h1 := unmet_le d []
  have h2 := hd.1
  rcases (reach_closed d 150 t [] (by omega)).2 x hx with h | h
  · simp at h
  · exact h f hf (typed_field ht hf)
theorem nodup_take {l : List Int} (h : l.Nodup) (i : Nat) (hi : i < l.length) : hasT l[i] (l.take i) = false := by
  rw [hasT, List.any_eq_false]
  intro x hx
  obtain ⟨j, hj, rfl⟩ := List.getElem_of_mem hx
  rw [List.length_take] at hj
  rw [List.getElem_take]
  simp only [beq_iff_eq]
  intro e
  have := (List.getElem_inj h).1 e
  omega
end Dt

set_option maxRecDepth 100000 in
set_option maxHeartbeats 6400000 in
theorem law_DatasCloses (v : Value) (d : List DataM) (t : Int) (w : World) (hv : DsAt w v d) (h64 : H64 d) (ht : In64 t) :
    Calls Try.prog 7 #[v, .int .i64 t] w fun e w' => e = .returned (.bool true) ∧ Below w.heap.size w w' := by
  obtain ⟨ad, cap, hE⟩ := hv.slice
  have HV := Lib.hid hv
  have HT := Lib.hid ht
  obtain ⟨n, hn⟩ : ∃ n, d.length = n := ⟨_, rfl⟩
  rw [hn] at hE
  have HN := Lib.hid hn
  subst hE
  cases hf : Dt.few d with
  | false =>
    have HF := Lib.hid hf
    clear hv h64 ht hf hn
    go_enter Try.func7, Try.ntmps7
    go_wp2_with fail
    refine (awake_any w).mono ?_
    rintro e w1 ⟨rfl, hb⟩
    have HB := Lib.hid hb
    have HV1 := Lib.hid (HV.out.keep hb (Nat.le_refl _))
    clear hb
    go_wp2_with fail
    refine (Few_any _ d false w1 HV1.out HF).mono ?_
    rintro e w2 ⟨rfl, rfl⟩
    go_wp2
    go_ret
    exact ⟨rfl, HB.out⟩
  | true =>
    have HF := Lib.hid hf
    have HS := Lib.hid (Dt.few_sm hf h64)
    obtain ⟨E, hE⟩ : ∃ E, Dt.check d = E := ⟨_, rfl⟩
    have HE := Lib.hid hE
    clear hv h64 ht hf hE hn
    by_cases hE0 : E = 0
    · subst hE0
      have HTY := Lib.hid (Dt.typed_of_check HE.out)
      go_enter Try.func7, Try.ntmps7
      go_wp2_with fail
      refine (awake_any w).mono ?_
      rintro e w1 ⟨rfl, hb⟩
      have HB := Lib.hid hb
      have HV1 := Lib.hid (HV.out.keep hb (Nat.le_refl _))
      clear hb
      go_wp2_with fail
      refine (Few_any _ d true w1 HV1.out HF).mono ?_
      rintro e w2 ⟨rfl, h⟩
      rw [h]
      clear h w2
      have HCK := Lib.hid (Check_any _ d w1 HV1.out HS.out)
      rw [HE.out] at HCK
      go_wp2_with fail
      refine HCK.out.mono ?_
      rintro e w3 ⟨rfl, hb⟩
      have HB3 := Lib.hid (HB.out.trans (hb.mono HB.out.size))
      have HV3 := Lib.hid (HV1.out.keep hb (Nat.le_refl _))
      clear hb
      go_wp2_with fail
      refine (Reach_fits _ d t w3 HV3.out HS.out HT.out).mono ?_
      rintro e w4 ⟨⟨u, rfl, hu, hfit⟩, hb⟩
      have HB4 := Lib.hid (HB3.out.trans (hb.mono HB3.out.size))
      have HV4 := Lib.hid (HV3.out.keep hb (Nat.le_refl _))
      obtain ⟨hoks, hnd⟩ := @Dt.reach_oks d t
      have hhas := Dt.reach_has HS.out HTY.out t
      have hlen := Dt.reach_length HS.out t
      cases hok : Dt.ok d t with
      | false =>
        rw [Dt.reach_none hok] at hu
        obtain ⟨la, lc, rfl⟩ := hu.slice
        have hok2 : ¬ (0 ≤ t ∧ t ≤ (n : Int)) := by
          intro h
          have : Dt.ok d t = true := by simp [Dt.ok, HN.out, h.1, h.2]
          rw [hok] at this; cases this
        clear hb hu hoks hnd hhas hlen hok HV4 HV3 HV1 HV hfit
        by_cases ht0 : t < 0
        · go_wp2
          go_ret
          exact ⟨rfl, HB4.out⟩
        · have htn : (n : Int) < t := by omega
          go_wp2
          go_ret
          exact ⟨rfl, HB4.out⟩
      | true =>
        obtain ⟨ht1, ht2⟩ := (ok_iff d t).1 hok
        rw [HN.out] at ht2
        have ht0 : ¬ t < 0 := by omega
        have htn : ¬ (n : Int) < t := by omega
        obtain ⟨tl, htl⟩ := Dt.reach_head hok
        obtain ⟨la, n0, lc, rfl, hfit⟩ := hfit
        obtain ⟨L, hL⟩ : ∃ L, Dt.reach d t = L := ⟨_, rfl⟩
        rw [hL] at hu hoks hnd hhas hlen htl
        obtain ⟨m, hm⟩ : ∃ m, L.length = m := ⟨_, rfl⟩
        have hu2 := hu.slice
        rw [hm] at hu2 hlen
        obtain ⟨ax, cx, hxx⟩ := hu2
        have hmn : m = n0 := by cases hxx; rfl
        subst hmn
        clear hxx
        have hm0 : 0 < m := by rw [← hm, htl]; simp
        obtain ⟨lb, lo, rfl, hlb, hl0⟩ := hu.at 0 (by omega)
        have hl00 : L[0]'(by omega) = t := by simp [htl]
        rw [hl00, Nat.add_zero] at hl0
        have HOK := Lib.hid hoks
        have HND := Lib.hid hnd
        have HHS := Lib.hid hhas
        have HM := Lib.hid hm
        have HU := Lib.hid hu
        have hmz : ((m : Int) == 0) = false := by simp; omega
        have hm0z : (0 : Int) < m := by omega
        clear hb hu hoks hnd hhas hok hL htl hl00 hm
        go_wp2
        clear hl0 hmz ht0 htn ht1 ht2
        go_loopw [6] (fun i wr => ∃ k : Nat, k ≤ m ∧ i = .int .i64 k ∧ Hid (Below w4.heap.size w4 wr)) (fun i _ => m - (intOf i).toNat)
        case atStart => exact ⟨0, Nat.zero_le _, rfl, Lib.hid (Below.refl _ _)⟩
        case round =>
          obtain ⟨k, hk, rfl, HWR⟩ := hrel
          by_cases hlt : k < m
          · have hltz : (k : Int) < (m : Int) := by omega
            have hkl : k < L.length := by rw [HM.out]; exact hlt
            obtain ⟨x, hx⟩ : ∃ x, L[k] = x := ⟨_, rfl⟩
            have HVR := Lib.hid (HV4.out.keep HWR.out (Nat.le_refl _))
            have HUR := Lib.hid (HU.out.keep HWR.out (Nat.le_refl _))
            obtain ⟨lb2, lo2, hle, _, hlk⟩ := HUR.out.at k hkl
            cases hle
            rw [hx] at hlk
            have hxm : x ∈ L := by rw [← hx]; exact List.getElem_mem hkl
            have hxok := HOK.out x hxm
            obtain ⟨hx1, hx2⟩ := (ok_iff d x).1 hxok
            rw [HN.out] at hx2
            have hx0 : ¬ x < 0 := by omega
            have hxn : ¬ (n : Int) < x := by omega
            have hnot : Hid (Dt.hasT x (L.take k) = false) := Lib.hid (by rw [← hx]; exact Dt.nodup_take HND.out k hkl)
            have hkc : k ≤ lc := by omega
            have hkcz : (k : Int) ≤ lc := by omega
            have hk0 : (0 : Int) ≤ k := by omega
            have HXM := Lib.hid hxm
            have HXOK := Lib.hid hxok
            have HHAS := Lib.hid (fun c' q => has_any (.slice (some ⟨lb, lo, none⟩) k c') (L.take k) x false (wr.drewN q) (show FsAt (wr.drewN q) _ _ from FsAt.take HUR.out k c' hk) (by rw [List.length_take]; omega) hnot)
            have HXF : Hid (∀ f ∈ Dt.fieldsOf d x, Dt.hasT f L = true) := Lib.hid (fun f hf => by
              have h1 := HHS.out x f HXM.out hf
              rw [Dt.hasT, List.any_eq_true]
              exact ⟨f, h1, by simp⟩)
            clear hx hxm hxok hnot hkl
            go_wp2
            go_quiet ((go_at_call 34; exact (HHAS.out _ _).mono fun _ _ h => ⟨h.1, _, h.2⟩))
            have HB5 := Lib.hid (HWR.out.trans ((below_drewNg wr nq).mono HWR.out.size))
            have HV5 := Lib.hid (HVR.out.keep (below_drewNg wr nq) (Nat.le_refl _))
            have HU5 := Lib.hid (HUR.out.keep (below_drewNg wr nq) (Nat.le_refl _))
            have hlk5 : (wr.drewN nq).cell? ⟨lb, lo + k, none⟩ = some (.int .i64 x) := hlk
            generalize wr.drewN nq = W5 at HB5 HV5 HU5 hlk5 ⊢
            clear hlk HVR HUR HHAS hx0 hxn hx1 hx2
            by_cases hx0 : x = 0
            · subst hx0
              go_wp2
              go_roundw
              case rel => exact ⟨k + 1, by omega, by go_num, HB5⟩
              case measure => simp [intOf]; omega
            · have hxz : (x == 0) = false := by simp [hx0]
              obtain ⟨p, y, b, off, fa, fc, hxp, hpd, hy, hcons, _, hade, hb5, c0, c1, hcs⟩ := typ_at HV5.out HXOK.out hx0
              subst hade
              have HFO : Hid (∀ c ∈ y.cons, ∀ f ∈ c.fields, Dt.hasT f L = true) := Lib.hid (fun c hc f hf => HXF.out f (by
                unfold Dt.fieldsOf
                rw [hcons]
                exact List.mem_flatMap.2 ⟨c, hc, hf⟩))
              have hys : SmD y := HS.out.2 y (List.mem_of_getElem? hy)
              rw [HN.out] at hpd
              have hn100 : n ≤ 100 := by rw [← HN.out]; exact HS.out.1
              have hpn : (p : Int) < n := by omega
              subst hxp
              have hw1 : wrap64 ((p : Int) + 1 - 1) = p := by rw [show (p : Int) + 1 - 1 = p by omega]; exact wrap_k p (by omega)
              have hw2 : IntKind.i64.wrap ((p : Int) + 1 - 1) = p := by rw [show (p : Int) + 1 - 1 = p by omega]; exact wrap_k' p (by omega)
              obtain ⟨cs, hcse⟩ : ∃ cs, y.cons = cs := ⟨_, rfl⟩
              have hcl := hys.2.1
              have hcsm := hys.2.2
              rw [hcse] at c1 hcs HFO hcl hcsm
              obtain ⟨q, hq⟩ : ∃ q, cs.length = q := ⟨_, rfl⟩
              rw [hq] at c1 hcs hcl
              have HQ := Lib.hid hq
              have HCS := Lib.hid hcs
              have HCSM := Lib.hid hcsm
              clear hys hcse hq hcs hy hcons hx0 HXF HXM c0 hcsm
              go_wp2
              clear hw1 hw2 hlk5 c1
              go_loop [8] (fun i => ∃ j : Nat, j ≤ q ∧ i = .int .i64 j) (fun i => q - (intOf i).toNat)
              case atStart => exact ⟨0, Nat.zero_le _, rfl⟩
              case round =>
                obtain ⟨j, hj, rfl⟩ := hrel
                by_cases hjlt : j < q
                · have hjz : (j : Int) < (q : Int) := by omega
                  have hjl : j < cs.length := by rw [HQ.out]; exact hjlt
                  obtain ⟨b2, off2, ga, gc, rfl, hb2, e0, e1, hfs⟩ := HCS.out.at j hjl
                  obtain ⟨z, hz⟩ : ∃ z, cs[j] = z := ⟨_, rfl⟩
                  rw [hz] at e1 hfs
                  have hzm : z ∈ cs := by rw [← hz]; exact List.getElem_mem hjl
                  have hzs : SmC z := HCSM.out z hzm
                  have HFZ : Hid (∀ f ∈ z.fields, Dt.hasT f L = true) := Lib.hid (HFO.out z hzm)
                  obtain ⟨fl, hfl⟩ : ∃ fl, z.fields = fl := ⟨_, rfl⟩
                  have hfl1 := hzs.2.1
                  rw [hfl] at e1 hfs HFZ hfl1
                  obtain ⟨g, hg⟩ : ∃ g, fl.length = g := ⟨_, rfl⟩
                  rw [hg] at e1 hfs hfl1
                  have HG := Lib.hid hg
                  have HFS := Lib.hid hfs
                  clear hz hzm hzs hfl hg hfs e0 hjl
                  go_wp2
                  go_loop [9] (fun i => ∃ r : Nat, r ≤ g ∧ i = .int .i64 r) (fun i => g - (intOf i).toNat)
                  case atStart => exact ⟨0, Nat.zero_le _, rfl⟩
                  case round =>
                    obtain ⟨r, hr, rfl⟩ := hrel
                    by_cases hrlt : r < g
                    · have hrz : (r : Int) < (g : Int) := by omega
                      have hrl : r < fl.length := by rw [HG.out]; exact hrlt
                      obtain ⟨b3, off3, rfl, hb3, s0⟩ := HFS.out.at r hrl
                      obtain ⟨f, hfe⟩ : ∃ f, fl[r] = f := ⟨_, rfl⟩
                      rw [hfe] at s0
                      have HFT : Hid (Dt.hasT f L = true) := Lib.hid (HFZ.out f (by rw [← hfe]; exact List.getElem_mem hrl))
                      have HHAS := Lib.hid (has_any _ L f true W5 HU5.out (by rw [HM.out]; omega) HFT)
                      clear hfe hrl
                      go_wp2_with fail
                      refine HHAS.out.mono ?_
                      rintro e w' ⟨rfl, hw'⟩
                      rw [hw']
                      clear hw' w' HHAS
                      go_wp2
                      go_round
                      case rel => exact ⟨r + 1, by omega, by go_num⟩
                      case measure => simp [intOf]; omega
                    · obtain rfl : g = r := by omega
                      have hnn : ¬ (g : Int) < g := by omega
                      go_wp2
                      go_round
                      case rel => exact ⟨j + 1, by omega, by go_num⟩
                      case measure => simp [intOf]; omega
                · obtain rfl : q = j := by omega
                  have hnn : ¬ (q : Int) < q := by omega
                  go_wp2
                  go_roundw
                  case rel => exact ⟨k + 1, by omega, by go_num, HB5⟩
                  case measure => simp [intOf]; omega
          · obtain rfl : m = k := by omega
            have hnn : ¬ (m : Int) < m := by omega
            have HBF := Lib.hid (HB4.out.trans (HWR.out.mono HB4.out.size))
            go_wp2
            go_ret
            exact ⟨rfl, HBF.out⟩
    · have hne : (E == 0) = false := by simpa using hE0
      have hne2 : (E != 0) = true := by simpa using hE0
      clear hE0
      go_enter Try.func7, Try.ntmps7
      go_wp2_with fail
      refine (awake_any w).mono ?_
      rintro e w1 ⟨rfl, hb⟩
      have HB := Lib.hid hb
      have HV1 := Lib.hid (HV.out.keep hb (Nat.le_refl _))
      clear hb
      go_wp2_with fail
      refine (Few_any _ d true w1 HV1.out HF).mono ?_
      rintro e w2 ⟨rfl, h⟩
      rw [h]
      clear h w2
      have HCK := Lib.hid (Check_any _ d w1 HV1.out HS.out)
      rw [HE.out] at HCK
      go_wp2_with fail
      refine HCK.out.mono ?_
      rintro e w3 ⟨rfl, hb⟩
      have HB3 := Lib.hid (HB.out.trans (hb.mono HB.out.size))
      clear hb
      go_wp2
      go_ret
      exact ⟨rfl, HB3.out⟩

end Go.Proofs.Yteidhlfiofiocaa
