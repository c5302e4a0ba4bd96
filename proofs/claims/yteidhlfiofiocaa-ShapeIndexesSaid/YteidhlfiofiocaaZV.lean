/- Names that differ; the law DatasNames. -/
import Derived.Test.YteidhlfiofiocaaZU
set_option linter.unusedVariables false
set_option linter.unusedSimpArgs false
namespace Go.Proofs.Yteidhlfiofiocaa
open Go.RowKit Go.Shelf

namespace Dt
theorem seq_self (a : ByteArray) : seq a a = true := by unfold seq; simp
theorem seq_comm (a b : ByteArray) : seq a b = seq b a := by unfold seq; exact Bool.beq_comm
theorem inS_app (S T : List ByteArray) (x : ByteArray) : inS (S ++ T) x = (inS S x || inS T x) := by unfold inS; exact List.any_append
theorem inS_mem {S : List ByteArray} {x y : ByteArray} (h : inS S x = false) (hy : y ∈ S) : seq y x = false := by
  unfold inS at h
  rw [List.any_eq_false] at h
  simpa using h y hy
theorem twice_of_check {d : List DataM} (h : check d = 0) : twice d = false := by
  unfold check at h
  split at h
  · omega
  · split at h
    · omega
    · split at h
      · omega
      · next h4 => simpa using h4
theorem twF_names : ∀ (l : List DataM) (T S : List ByteArray), twF T S l = false → ∀ i (h : i < l.length), inS (T ++ (l.take i).map (·.name)) l[i].name = false
  | [], T, S, h, i, hi => by simp at hi
  | x :: l, T, S, h, i, hi => by
    unfold twF at h
    split at h
    · cases h
    · next h1 =>
      split at h
      · cases h
      · next S' hS =>
        cases i with
        | zero => simpa using h1
        | succ i =>
          have := twF_names l (T ++ [x.name]) S' h i (by simpa using hi)
          simpa using this
theorem conStep_some : ∀ (cs : List ConM) (S S' : List ByteArray), conStep S cs = some S' → S' = S ++ cs.map (·.name) ∧ ∀ k (h : k < cs.length), inS (S ++ (cs.take k).map (·.name)) cs[k].name = false
  | [], S, S', h => by
    unfold conStep at h
    cases h
    exact ⟨by simp, fun k hk => by simp at hk⟩
  | c :: cs, S, S', h => by
    unfold conStep at h
    split at h
    · cases h
    · next h1 =>
      obtain ⟨e, hh⟩ := conStep_some cs (S ++ [c.name]) S' h
      refine ⟨by rw [e]; simp, fun k hk => ?_⟩
      cases k with
      | zero => simpa using h1
      | succ k =>
        have := hh k (by simpa using hk)
        simpa using this
theorem twF_con : ∀ (l : List DataM) (T S : List ByteArray) (s : Int), twF T S l = false → ∀ i (h : i < l.length) k (hk : k < l[i].cons.length), inS S l[i].cons[k].name = false ∧ conFrom l[i].cons[k].name l s = (s + i + 1, (k : Int), true)
  | [], T, S, s, h, i, hi, k, hk => by simp at hi
  | x :: l, T, S, s, h, i, hi, k, hk => by
    unfold twF at h
    split at h
    · cases h
    · split at h
      · cases h
      · next S' hS =>
        obtain ⟨e, hh⟩ := conStep_some x.cons S S' hS
        cases i with
        | zero =>
          have hk2 : k < x.cons.length := by simpa using hk
          have h1 := hh k hk2
          show inS S x.cons[k].name = false ∧ conFrom x.cons[k].name (x :: l) s = _
          rw [inS_app, Bool.or_eq_false_iff] at h1
          refine ⟨h1.1, ?_⟩
          have hf : fidx (fun c => seq c.name x.cons[k].name) x.cons = k := by
            refine fidx_hit _ _ k hk2 (seq_self _) (fun j hj => ?_)
            refine inS_mem h1.2 ?_
            rw [List.mem_map]
            exact ⟨x.cons[j], by rw [List.mem_take_iff_getElem]; exact ⟨j, by omega, rfl⟩, rfl⟩
          unfold conFrom
          rw [hf, if_pos (by omega)]
          simp
        | succ i =>
          have hi2 : i < l.length := by simpa using hi
          have hk2 : k < l[i].cons.length := by simpa using hk
          obtain ⟨h1, h2⟩ := twF_con l (T ++ [x.name]) S' (s + 1) h i hi2 k hk2
          show inS S l[i].cons[k].name = false ∧ conFrom l[i].cons[k].name (x :: l) s = _
          rw [e, inS_app, Bool.or_eq_false_iff] at h1
          refine ⟨h1.1, ?_⟩
          have hf : fidx (fun c => seq c.name l[i].cons[k].name) x.cons = -1 := by
            refine fidx_miss _ _ (fun j hj => ?_)
            refine inS_mem h1.2 ?_
            rw [List.mem_map]
            exact ⟨x.cons[j], List.getElem_mem hj, rfl⟩
          unfold conFrom
          rw [hf, if_neg (by omega), h2]
          simp
          omega
theorem typeOf_own {d : List DataM} (h : twice d = false) (i : Nat) (hi : i < d.length) : typeOf d d[i].name = ((i : Int) + 1, true) := by
  have h1 := twF_names d [intN] [] h i hi
  rw [inS_app, Bool.or_eq_false_iff] at h1
  have h2 : seq d[i].name intN = false := by rw [seq_comm]; exact inS_mem h1.1 (by simp)
  have hf : fidx (fun x => seq x.name d[i].name) d = i := by
    refine fidx_hit _ _ i hi (seq_self _) (fun j hj => ?_)
    refine inS_mem h1.2 ?_
    rw [List.mem_map]
    exact ⟨d[j], by rw [List.mem_take_iff_getElem]; exact ⟨j, by omega, rfl⟩, rfl⟩
  unfold typeOf
  rw [h2, hf]
  simp
theorem conOf_own {d : List DataM} (h : twice d = false) (i : Nat) (hi : i < d.length) (k : Nat) (hk : k < d[i].cons.length) : conOf d d[i].cons[k].name = ((i : Int) + 1, (k : Int), true) := by
  have := (twF_con d [intN] [] 0 h i hi k hk).2
  unfold conOf
  rw [this]
  simp
theorem nameOf_own {d : List DataM} (i : Nat) (hi : i < d.length) : nameOf d ((i : Int) + 1) = d[i].name := by
  have h1 : ok d ((i : Int) + 1) = true := by simp [ok]; omega
  have h2 : ((i : Int) + 1 - 1).toNat = i := by omega
  unfold nameOf
  rw [if_neg (by omega), if_pos h1, h2, List.getElem?_eq_getElem hi]
  rfl
end Dt

set_option maxRecDepth 100000 in
set_option maxHeartbeats 6400000 in
theorem law_DatasNames (v : Value) (d : List DataM) (w : World) (hv : DsAt w v d) (h64 : H64 d) :
    Calls Try.prog 8 #[v] w fun e w' => e = .returned (.bool true) ∧ Below w.heap.size w w' := by
  obtain ⟨ad, cap, hE⟩ := hv.slice
  have HV := Lib.hid hv
  obtain ⟨n, hn⟩ : ∃ n, d.length = n := ⟨_, rfl⟩
  rw [hn] at hE
  have HN := Lib.hid hn
  subst hE
  cases hf : Dt.few d with
  | false =>
    have HF := Lib.hid hf
    clear hv h64 hf hn
    go_enter Try.func8, Try.ntmps8
    go_wp2_with fail
    refine (awake_any w).mono ?_
    rintro e w1 ⟨rfl, hb⟩
    have HB := Lib.hid hb
    have HV1 := Lib.hid (HV.out.keep hb (Nat.le_refl _))
    clear hb
    go_wp2_with fail
    refine (Few_any _ d false w1 HV1.out HF).mono ?_
    rintro e w2 ⟨rfl, rfl⟩
    go_wp2
    go_ret
    exact ⟨rfl, HB.out⟩
  | true =>
    have HF := Lib.hid hf
    have HS := Lib.hid (Dt.few_sm hf h64)
    obtain ⟨E, hE⟩ : ∃ E, Dt.check d = E := ⟨_, rfl⟩
    have HE := Lib.hid hE
    clear hv h64 hf hE hn
    by_cases hE0 : E = 0
    · subst hE0
      have HTW := Lib.hid (Dt.twice_of_check HE.out)
      have hn100 : n ≤ 100 := by rw [← HN.out]; exact HS.out.1
      go_enter Try.func8, Try.ntmps8
      go_wp2_with fail
      refine (awake_any w).mono ?_
      rintro e w1 ⟨rfl, hb⟩
      have HB := Lib.hid hb
      have HV1 := Lib.hid (HV.out.keep hb (Nat.le_refl _))
      clear hb
      go_wp2_with fail
      refine (Few_any _ d true w1 HV1.out HF).mono ?_
      rintro e w2 ⟨rfl, h⟩
      rw [h]
      clear h w2
      have HCK := Lib.hid (Check_any _ d w1 HV1.out HS.out)
      rw [HE.out] at HCK
      go_wp2_with fail
      refine HCK.out.mono ?_
      rintro e w3 ⟨rfl, hb⟩
      have HB3 := Lib.hid (HB.out.trans (hb.mono HB.out.size))
      have HV3 := Lib.hid (HV1.out.keep hb (Nat.le_refl _))
      clear hb HCK
      go_wp2
      go_loopw [3] (fun i wr => ∃ k : Nat, k ≤ n ∧ i = .int .i64 k ∧ Hid (Below w3.heap.size w3 wr)) (fun i _ => n - (intOf i).toNat)
      case atStart => exact ⟨0, Nat.zero_le _, rfl, Lib.hid (Below.refl _ _)⟩
      case round =>
        obtain ⟨i, hi, rfl, HWR⟩ := hrel
        by_cases hlt : i < n
        · have hltz : (i : Int) < (n : Int) := by omega
          have hid : i < d.length := by rw [HN.out]; exact hlt
          have HVR := Lib.hid (HV3.out.keep HWR.out (Nat.le_refl _))
          obtain ⟨b, off, fa, fc, rfl, hb, c0, c1, hcs⟩ := HVR.out.at i hid
          have HT := Lib.hid (Type_any (.slice (some ⟨b, off, none⟩) n cap) d d[i].name wr HVR.out HS.out)
          rw [Dt.typeOf_own HTW.out i hid] at HT
          have HNM := Lib.hid (fun W q (h : DsAt W (.slice (some ⟨b, off, none⟩) n cap) d) => Name_any (.slice (some ⟨b, off, none⟩) n cap) d ((i : Int) + 1) (World.drewN W q) (show DsAt (World.drewN W q) _ _ from h) HS.out)
          rw [Dt.nameOf_own i hid] at HNM
          have HCO : Hid (∀ k (hk : k < d[i].cons.length), Dt.conOf d d[i].cons[k].name = ((i : Int) + 1, (k : Int), true)) := Lib.hid (fun k hk => Dt.conOf_own HTW.out i hid k hk)
          obtain ⟨y, hy⟩ : ∃ y, d[i] = y := ⟨_, rfl⟩
          have hys : SmD y := HS.out.2 y (by rw [← hy]; exact List.getElem_mem hid)
          rw [hy] at c0 c1 hcs HT HNM HCO
          obtain ⟨nm, hnm⟩ : ∃ nm, y.name = nm := ⟨_, rfl⟩
          obtain ⟨cs, hcse⟩ : ∃ cs, y.cons = cs := ⟨_, rfl⟩
          have hcl := hys.2.1
          rw [hcse] at c1 hcs HCO hcl
          rw [hnm] at c0 HT HNM
          obtain ⟨m, hm⟩ : ∃ m, cs.length = m := ⟨_, rfl⟩
          rw [hm] at c1 hcs hcl
          have HM := Lib.hid hm
          have HCS := Lib.hid hcs
          have HC0 := Lib.hid c0
          have HC1 := Lib.hid c1
          have HBB := Lib.hid hb
          clear hys hy hnm hcse hm hcs hid c1
          go_wp2_with fail
          refine HT.out.mono ?_
          rintro e w4 ⟨rfl, hb4⟩
          have HW4 := Lib.hid (HWR.out.trans (hb4.mono HWR.out.size))
          have HV4 := Lib.hid (HVR.out.keep hb4 (Nat.le_refl _))
          have HCS4 := Lib.hid (HCS.out.keep hb4 (Nat.le_refl _))
          have c04 := (hb4.cell (p := ⟨b, off + i * 2, none⟩) hb).trans c0
          have HC14 := Lib.hid ((hb4.cell (p := ⟨b, off + i * 2 + 1, none⟩) hb).trans HC1.out)
          have HB4 := Lib.hid (Nat.lt_of_lt_of_le hb hb4.size)
          clear c0 hb4 HT
          have hw1 : wrap64 ((i : Int) + 1) = (i : Int) + 1 := wrap_one i (by omega)
          have hw2 : IntKind.i64.wrap ((i : Int) + 1) = (i : Int) + 1 := wrap_one' i (by omega)
          have hi0 : (0 : Int) ≤ i := by omega
          go_wp2
          go_quiet ((go_at_call 27; exact (HNM.out w4 _ HV4.out).mono fun _ _ h => ⟨h.1, _, h.2⟩))
          have HW5 := Lib.hid (HW4.out.trans ((below_drewNg w4 nq).mono HW4.out.size))
          have HV5 := Lib.hid (HV4.out.keep (below_drewNg w4 nq) (Nat.le_refl _))
          have HCS5 := Lib.hid (HCS4.out.keep (below_drewNg w4 nq) (Nat.le_refl _))
          have HC5 : Hid ((w4.drewN nq).cell? ⟨b, off + i * 2 + 1, none⟩ = some (.slice fa m fc)) := HC14
          have HB5 : Hid (b < (w4.drewN nq).heap.size) := HB4
          generalize w4.drewN nq = W5 at HW5 HV5 HCS5 HC5 HB5 ⊢
          clear hw1 hw2 c04 HNM HCS4 HC14 HCS HVR HC0 HC1 HBB hb
          go_wp2
          go_loopw [6] (fun j wr => ∃ k : Nat, k ≤ m ∧ j = .int .i64 k ∧ Hid (Below W5.heap.size W5 wr)) (fun j _ => m - (intOf j).toNat)
          case atStart => exact ⟨0, Nat.zero_le _, rfl, Lib.hid (Below.refl _ _)⟩
          case round =>
            obtain ⟨k, hk, rfl, HWR2⟩ := hrel
            have hc1 := (HWR2.out.cell (p := ⟨b, off + i * 2 + 1, none⟩) HB5.out).trans HC5.out
            by_cases hklt : k < m
            · have hkz : (k : Int) < (m : Int) := by omega
              have hkl : k < cs.length := by rw [HM.out]; exact hklt
              have HVR := Lib.hid (HV5.out.keep HWR2.out (Nat.le_refl _))
              have HCR := Lib.hid (HCS5.out.keep HWR2.out (Nat.le_refl _))
              obtain ⟨b2, off2, ga, gc, rfl, hb2, e0, e1, hfs⟩ := HCR.out.at k hkl
              have HCN := Lib.hid (Con_any (.slice (some ⟨b, off, none⟩) n cap) d cs[k].name wr HVR.out HS.out)
              rw [HCO.out k hkl] at HCN
              obtain ⟨cn, hcn⟩ : ∃ cn, cs[k].name = cn := ⟨_, rfl⟩
              rw [hcn] at e0 HCN
              clear hcn hfs e1 hkl
              go_wp2_with fail
              refine HCN.out.mono ?_
              rintro e w6 ⟨rfl, hb6⟩
              have HW6 := Lib.hid (HWR2.out.trans (hb6.mono HWR2.out.size))
              clear hb6 hc1 e0
              go_wp2
              go_roundw
              case rel => exact ⟨k + 1, by omega, by go_num, HW6⟩
              case measure => simp [intOf]; omega
            · obtain rfl : m = k := by omega
              have hnn : ¬ (m : Int) < m := by omega
              have HW7 := Lib.hid (HW5.out.trans (HWR2.out.mono HW5.out.size))
              go_wp2
              go_roundw
              case rel => exact ⟨i + 1, by omega, by go_num, HW7⟩
              case measure => simp [intOf]; omega
        · obtain rfl : n = i := by omega
          have hnn : ¬ (n : Int) < n := by omega
          have HBF := Lib.hid (HB3.out.trans (HWR.out.mono HB3.out.size))
          go_wp2
          go_ret
          exact ⟨rfl, HBF.out⟩
    · have hne : (E == 0) = false := by simpa using hE0
      have hne2 : (E != 0) = true := by simpa using hE0
      clear hE0
      go_enter Try.func8, Try.ntmps8
      go_wp2_with fail
      refine (awake_any w).mono ?_
      rintro e w1 ⟨rfl, hb⟩
      have HB := Lib.hid hb
      have HV1 := Lib.hid (HV.out.keep hb (Nat.le_refl _))
      clear hb
      go_wp2_with fail
      refine (Few_any _ d true w1 HV1.out HF).mono ?_
      rintro e w2 ⟨rfl, h⟩
      rw [h]
      clear h w2
      have HCK := Lib.hid (Check_any _ d w1 HV1.out HS.out)
      rw [HE.out] at HCK
      go_wp2_with fail
      refine HCK.out.mono ?_
      rintro e w3 ⟨rfl, hb⟩
      have HB3 := Lib.hid (HB.out.trans (hb.mono HB.out.size))
      clear hb
      go_wp2
      go_ret
      exact ⟨rfl, HB3.out⟩

end Go.Proofs.Yteidhlfiofiocaa
