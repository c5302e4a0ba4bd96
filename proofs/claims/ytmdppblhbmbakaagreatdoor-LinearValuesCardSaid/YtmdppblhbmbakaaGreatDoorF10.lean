/- What Eval does: numbers in a row; the value of a form. -/
import Derived.Test.YtmdppblhbmbakaaGreatDoorF9
import Derived.Test.YtmdppblhbmbakaaGreatDoorF1
import Derived.Deep.RegionWith
set_option linter.unusedVariables false
set_option linter.unusedSimpArgs false
namespace Go.Proofs.YtmdppblhbmbakaaGreatDoor
open Go.RowKit Go.Maps _root_.Go.Proofs.YtmdppblhbmbakaaGreatDoor.Nm

/-- A slice of texts that lies in memory. -/
def SsAt (W : World) (v : Value) (l : List ByteArray) : Prop := ∃ ad n cap, v = .slice ad n cap ∧ n = l.length ∧
  (n = 0 ∨ ∃ g off, ad = some ⟨g, off, none⟩ ∧ g < W.heap.size ∧ ∀ (i : Nat) (h : i < l.length), W.cell? ⟨g, off + i, none⟩ = some (.string l[i]))
theorem SsAt.keep {W W' : World} {v : Value} {l : List ByteArray} {B : Nat} (h : SsAt W v l) (hb : Below B W W') (hB : W.heap.size ≤ B) : SsAt W' v l := by
  obtain ⟨ad, n, cap, e1, e2, h⟩ := h
  refine ⟨ad, n, cap, e1, e2, ?_⟩
  rcases h with h | ⟨g, off, e3, h1, h2⟩
  · exact .inl h
  · refine .inr ⟨g, off, e3, Nat.lt_of_lt_of_le h1 hb.size, fun i hi => ?_⟩
    rw [hb.cell (p := ⟨g, off + i, none⟩) (Nat.lt_of_lt_of_le h1 hB)]; exact h2 i hi

set_option maxRecDepth 100000 in
set_option maxHeartbeats 3200000 in
theorem indexNoNum_any (v : Value) (l : List ByteArray) (r : Bool) (w : World) (hv : SsAt w v l) (hl : ∀ s ∈ l, s.size ≤ 100000) (hn : l.length ≤ 1000) (hr : Hid (l.any noNum = r)) :
    Calls Tryz.prog 88 #[v, .func (.func 54) #[] #[]] w fun e w' => ∃ i : Int, e = .returned (.int .i64 i) ∧ decide (0 ≤ i) = r ∧ Below w.heap.size w w' := by
  have eg : ∀ args w, (callFunc 54 args).run Tryz.prog w = .ok (.enter 54 args) w := enters_of Tryz.func54 (by kernel_rfl) rfl
  obtain ⟨ad, n, cap, rfl, hlen, hv⟩ := hv
  have HV := Lib.hid hv
  have HL := Lib.hid hl
  have HLEN := Lib.hid (And.intro trivial hlen)
  have hn1 : n ≤ 1000 := by omega
  clear hv hl hlen hn
  go_enter Tryz.func88, Tryz.ntmps88
  go_wp2
  go_loopw [8] (fun i wr => ∃ k : Nat, k ≤ n ∧ i = .int .i64 k ∧ Hid (∀ (j : Nat) (h : j < l.length), j < k → noNum l[j] = false) ∧ Hid (Below w.heap.size w wr)) (fun i _ => n - (intOf i).toNat)
  case atStart => exact ⟨0, Nat.zero_le _, rfl, Lib.hid (fun j _ h => absurd h (Nat.not_lt_zero j)), Lib.hid (Below.refl _ _)⟩
  case round =>
    obtain ⟨k, hk, rfl, HA, HW⟩ := hrel
    by_cases hlt : k < n
    · have hkl : k < l.length := by rw [← HLEN.out.2]; exact hlt
      obtain ⟨g, off, rfl, hg, hc⟩ : ∃ g off, ad = some ⟨g, off, none⟩ ∧ g < w.heap.size ∧ ∀ (i : Nat) (h : i < l.length), w.cell? ⟨g, off + i, none⟩ = some (.string l[i]) := by
        rcases HV.out with h | h
        · omega
        · exact h
      have hcell := (HW.out.cell (p := ⟨g, off + k, none⟩) hg).trans (hc k hkl)
      obtain ⟨x, hx⟩ : ∃ x, l[k] = x := ⟨_, rfl⟩
      rw [hx] at hcell
      have hxs : x.size ≤ 100000 := by rw [← hx]; exact HL.out _ (List.getElem_mem hkl)
      have h1 : (0 : Int) ≤ k := by omega
      have h2 : (k : Int) < n := by omega
      obtain ⟨b, hb⟩ : ∃ b, noNum x = b := ⟨_, rfl⟩
      have HB := Lib.hid hb
      clear hc
      cases b
      · have HA2 : Hid (∀ (j : Nat) (h : j < l.length), j < k + 1 → noNum l[j] = false) := Lib.hid (fun j h hj => by
          rcases Nat.lt_or_ge j k with h3 | h3
          · exact HA.out j h h3
          · obtain rfl : j = k := by omega
            rw [hx]; exact HB.out)
        clear hx hb
        go_wp2_with (go_at_fn 54; refine (isNoNumber_any x false _ HB hxs).mono ?_; rintro e w1 ⟨rfl, hb⟩; have HW1 := Lib.hid (HW.out.trans (hb.mono HW.out.size)); clear hb)
        go_roundw
        case rel => exact ⟨k + 1, by omega, by go_num, HA2, HW1⟩
        case measure => simp [intOf]; omega
      · have hr1 : r = true := by
          rw [← hr.out, List.any_eq_true]
          exact ⟨x, by rw [← hx]; exact List.getElem_mem hkl, hb⟩
        subst hr1
        clear hx hb
        go_wp2_with (go_at_fn 54; refine (isNoNumber_any x true _ HB hxs).mono ?_; rintro e w1 ⟨rfl, hb⟩; have HW1 := Lib.hid (HW.out.trans (hb.mono HW.out.size)); clear hb)
        go_ret
        exact ⟨(k : Int), rfl, by simp, HW1.out⟩
    · obtain rfl : k = n := by omega
      have hr0 : r = false := by
        rw [← hr.out, List.any_eq_false]
        intro s hs
        obtain ⟨j, hj, rfl⟩ := List.mem_iff_getElem.1 hs
        rw [HA.out j hj (by rw [HLEN.out.2]; exact hj)]; simp
      subst hr0
      go_wp2
      go_ret
      exact ⟨-1, rfl, by decide, HW.out⟩

set_option maxRecDepth 100000 in
set_option maxHeartbeats 1600000 in
theorem containsNoNum_any (v : Value) (l : List ByteArray) (r : Bool) (w : World) (hv : SsAt w v l) (hl : ∀ s ∈ l, s.size ≤ 100000) (hn : l.length ≤ 1000) (hr : Hid (l.any noNum = r)) :
    Calls Tryz.prog 53 #[v, .func (.func 54) #[] #[]] w fun e w' => e = .returned (.bool r) ∧ Below w.heap.size w w' := by
  obtain ⟨ad, n, cap, rfl⟩ : ∃ ad n cap, v = .slice ad n cap := by obtain ⟨ad, n, cap, h, _⟩ := hv; exact ⟨ad, n, cap, h⟩
  have H := Lib.hid (indexNoNum_any _ l r w hv hl hn hr)
  clear hv hl hn hr
  go_enter Tryz.func53, Tryz.ntmps53
  go_wp2_with (first | (go_at_call 88; refine H.out.mono ?_; rintro e w1 ⟨i, rfl, hi, hb⟩))
  go_ret
  exact ⟨by rw [← hi]; rfl, hb⟩

/-- Texts that are those of numbers. -/
def valsQ (vs : List Rat) : List ByteArray := vs.map txt
def atQ (vs : List Rat) (c : Int) : Rat := vs[c.toNat]?.getD 0
theorem valsQ_ex : ∀ (l : List ByteArray), l.any noNum = false → ∃ vs : List Rat, l = valsQ vs ∧ ∀ v ∈ vs, rshort v = true
  | [], _ => ⟨[], rfl, by simp⟩
  | s :: l, h => by
    simp only [List.any_cons, Bool.or_eq_false_iff] at h
    obtain ⟨q, h1, h2⟩ := noNum_ex h.1
    obtain ⟨vs, h3, h4⟩ := valsQ_ex l h.2
    refine ⟨q :: vs, by rw [h3, h1]; rfl, fun v hv => ?_⟩
    rcases List.mem_cons.1 hv with rfl | hv
    · exact h2
    · exact h4 v hv
theorem valsQ_any {vs : List Rat} (h : ∀ v ∈ vs, rshort v = true) : (valsQ vs).any noNum = false := by
  rw [List.any_eq_false]
  intro s hs
  obtain ⟨v, hv, rfl⟩ := List.mem_map.1 hs
  rw [noNum_txt (h v hv)]; simp

/-- What Eval answers for a valid form and numbers. -/
def EvalIs (qc : Rat) (q : List Qm) (vs : List Rat) (s : ByteArray) (e : Int) : Prop :=
  if (∃ p ∈ q, (vs.length : Int) ≤ p.1) then s = ⟨#[]⟩ ∧ e = 2 else match evalQ qc q (atQ vs) with
    | some t => s = txt t ∧ e = 0
    | none => s = ⟨#[]⟩ ∧ e = 5

theorem last_big {q : List Qm} (hs : q.Pairwise (fun a b => a.1 < b.1)) {m : Int} {k : Nat} (hk : q.length = k + 1) : (∃ p ∈ q, m ≤ p.1) ↔ m ≤ (q[k]'(by omega)).1 := by
  constructor
  · rintro ⟨p, hp, h⟩
    obtain ⟨i, hi, rfl⟩ := List.mem_iff_getElem.1 hp
    exact Int.le_trans h (cols_mono hs hi (by omega) (by omega))
  · intro h
    exact ⟨_, List.getElem_mem (by omega), h⟩

set_option maxRecDepth 100000 in
set_option maxHeartbeats 6400000 in
theorem Eval_loop (qc : Rat) (q : List Qm) (vs : List Rat) (ad1 ad2 : Option Addr) (n1 c1 n2 c2 : Nat) (s : ByteArray) (ec : Int) (w : World) (hv : TsAt w (.slice ad1 n1 c1) (tms q)) (hv2 : SsAt w (.slice ad2 n2 c2) (valsQ vs)) (hq : Fo q) (hc : rshort qc = true) (hvs : ∀ v ∈ vs, rshort v = true) (hn : q.length ≤ 1000) (hn2 : vs.length ≤ 1000) (htab : Tab w) (hr : Hid (EvalIs qc q vs s ec)) :
    Calls Tryz.prog 22 #[.agg #[.slice ad1 n1 c1, .string (txt qc)], .slice ad2 n2 c2] w fun e w' => e = .returned (.tuple #[.string s, .int .i64 ec]) ∧ Below w.heap.size w w' := by
  obtain ⟨x, hx⟩ : ∃ x, txt qc = x := ⟨_, rfl⟩
  have HX := Lib.hid hx
  have HT := Lib.hid htab
  have HQ := Lib.hid hq
  have HVS := Lib.hid hvs
  have HRC := Lib.hid hc
  have HN := Lib.hid (And.intro hn hn2)
  have hl1 : n1 = q.length := by obtain ⟨_, _, _, e1, e2, _⟩ := hv; cases e1; simpa [tms] using e2
  have hl2 : n2 = vs.length := by obtain ⟨_, _, _, e1, e2, _⟩ := hv2; cases e1; simpa [valsQ] using e2
  have HL := Lib.hid (And.intro hl1 hl2)
  have hA := (Below.refl w.heap.size w).alloc (Nat.le_refl _) (.cells #[.slice ad1 n1 c1, .string x] 24)
  have HV0 := Lib.hid hv
  have HS0 := Lib.hid hv2
  have HV := Lib.hid (hv.keep hA (Nat.le_refl _))
  have HB := Lib.hid (Bx.new w (.slice ad1 n1 c1) (.string x) 24)
  have HW := Lib.hid hA
  have HCK : Hid (checkErr x (tms q) = 0) := Lib.hid (by rw [← hx]; exact checkErr_fo hc hq)
  have HTS : Hid (∀ t ∈ tms q, t.2.size ≤ 100000) := Lib.hid (fun t ht => by
    obtain ⟨p, hp, rfl⟩ := List.mem_map.1 ht
    have := txt_size (hq.1 p hp).2.1
    dsimp only; omega)
  have HSS : Hid (∀ s ∈ valsQ vs, s.size ≤ 100000) := Lib.hid (fun s hs => by
    obtain ⟨p, hp, rfl⟩ := List.mem_map.1 hs
    have := txt_size (hvs p hp); omega)
  have HSN : Hid ((valsQ vs).any noNum = false) := Lib.hid (valsQ_any hvs)
  have hxs : x.size ≤ 100000 := by rw [← hx]; have := txt_size hc; omega
  have hnn1 : n1 ≤ 1000 := by omega
  have hnn2 : n2 ≤ 1000 := by omega
  rw [hx]
  clear hv hv2 hq hc hvs hn hn2 htab hl1 hl2 hA hx
  go_enter Tryz.func22, Tryz.ntmps22
  go_wp2_with fail
  refine (Check_any x ad1 n1 c1 (tms q) 0 _ HV.out hxs HTS.out (by have := HN.out.1; simp [tms]; omega) HCK).mono ?_
  rintro e w1 ⟨rfl, hb⟩
  have HW1 := Lib.hid (HW.out.trans (hb.mono HW.out.size))
  have HB1 := Lib.hid (HB.out.below hb HB.out.lt)
  clear hb
  go_wp2_with fail
  refine (containsNoNum_any _ (valsQ vs) false _ (HS0.out.keep HW1.out (Nat.le_refl _)) HSS.out (by have := HN.out.2; simp [valsQ]; omega) HSN).mono ?_
  rintro e w2 ⟨rfl, hb⟩
  have HW2 := Lib.hid (HW1.out.trans (hb.mono HW1.out.size))
  have HB2 := Lib.hid (HB1.out.below hb HB1.out.lt)
  clear hb
  obtain ⟨b0, b1, b2, b3⟩ := HB2.out.cell
  by_cases h0 : n1 = 0
  · have hq0 : q = [] := List.length_eq_zero_iff.1 (HL.out.1.symm.trans h0)
    have hse : s = x ∧ ec = 0 := by
      have h := hr.out
      unfold EvalIs at h
      rw [hq0, if_neg (by simp)] at h
      simp only [evalQ] at h
      rw [HX.out] at h; exact h
    obtain ⟨rfl, rfl⟩ := hse
    subst h0
    clear hq0 hr
    go_wp2
    go_loopw [41, 7] (fun i t wr => i = .int .i64 0 ∧ t = .string s ∧ w2 = wr) (fun _ _ _ => 0)
    case atStart => exact ⟨rfl, rfl, rfl⟩
    case round =>
      obtain ⟨rfl, rfl, rfl⟩ := hrel
      go_wp2
      go_ret2
      exact ⟨rfl, HW2.out⟩
  · have hg0 : decide (0 < n1) = true := decide_eq_true (Nat.pos_of_ne_zero h0)
    have hqm : q.length = (n1 - 1) + 1 := by rw [← HL.out.1]; omega
    obtain ⟨ad', n', cap', e1, e2, hv⟩ := HV0.out
    cases e1
    clear e2
    obtain ⟨g, off, rfl, hg, hcc⟩ : ∃ g off, ad1 = some ⟨g, off, none⟩ ∧ g < w.heap.size ∧ ∀ (i : Nat) (h : i < (tms q).length), w.cell? ⟨g, off + i * 2, none⟩ = some (.int .i64 (tms q)[i].1) ∧ w.cell? ⟨g, off + i * 2 + 1, none⟩ = some (.string (tms q)[i].2) := by
      rcases hv with h | h
      · omega
      · exact h
    have HCC := Lib.hid (And.intro hg hcc)
    have hlast := (hcc (n1 - 1) (by simp [tms]; omega)).1
    have ek : ((tms q)[n1 - 1]'(by simp [tms]; omega)).1 = (q[n1 - 1]'(by omega)).1 := by simp [tms]
    rw [ek] at hlast
    obtain ⟨lc, hlc⟩ : ∃ lc, (q[n1 - 1]'(by omega)).1 = lc := ⟨_, rfl⟩
    rw [hlc] at hlast
    have hl2 := (HW2.out.cell (p := ⟨g, off + (n1 - 1) * 2, none⟩) hg).trans hlast
    have hbig := last_big HQ.out.2 (m := (vs.length : Int)) hqm
    rw [hlc, ← HL.out.2] at hbig
    clear hv hcc ek hlast hqm hlc
    by_cases hlb : (n2 : Int) ≤ lc
    · have hse : s = ⟨#[]⟩ ∧ ec = 2 := by
        have h := hr.out
        unfold EvalIs at h
        rw [← HL.out.2, if_pos (hbig.2 hlb)] at h
        exact h
      obtain ⟨rfl, rfl⟩ := hse
      clear hbig hr
      go_wp2
      go_ret2
      exact ⟨rfl, HW2.out⟩
    · have hse : ¬ ∃ p ∈ q, (vs.length : Int) ≤ p.1 := by rw [← HL.out.2, hbig]; exact hlb
      have HSE := Lib.hid hse
      have hlb2 : lc < (n2 : Int) := by omega
      obtain ⟨o, ho⟩ : ∃ o, evalQ qc q (atQ vs) = o := ⟨_, rfl⟩
      have hres := hr.out
      unfold EvalIs at hres
      rw [if_neg hse, ho] at hres
      have HRES := Lib.hid hres
      have HO := Lib.hid ho
      clear hbig hse hres ho hr hlb
      go_wp2
      clear b0 b1 b2 b3 hl2 hg0 hlb2 h0
      go_loopw [41, 7] (fun i t wr => ∃ (k : Nat) (tot : Rat) (ts : ByteArray), k ≤ n1 ∧ i = .int .i64 k ∧ t = .string ts ∧ Hid (ts = txt tot ∧ rshort tot = true ∧ evalQ tot (q.drop k) (atQ vs) = o) ∧ Hid (Below w.heap.size w wr)) (fun i _ _ => n1 - (intOf i).toNat)
      case atStart => exact ⟨0, qc, x, Nat.zero_le _, rfl, rfl, Lib.hid ⟨HX.out.symm, HRC.out, HO.out⟩, HW2⟩
      case round =>
        obtain ⟨k, tot, ts, hk, rfl, rfl, HA, HWk⟩ := hrel
        by_cases hlt : k < n1
        · have hkq : k < q.length := by rw [← HL.out.1]; exact hlt
          obtain ⟨p, hp⟩ : ∃ p, q[k] = p := ⟨_, rfl⟩
          have hmem : p ∈ q := by rw [← hp]; exact List.getElem_mem hkq
          obtain ⟨hcol, hsh, hnz⟩ := HQ.out.1 p hmem
          have hj : ¬ (vs.length : Int) ≤ p.1 := fun h => HSE.out ⟨p, hmem, h⟩
          obtain ⟨j, hpj⟩ : ∃ j : Nat, p.1 = (j : Int) := ⟨p.1.toNat, by rw [Int.toNat_of_nonneg hcol.1]⟩
          have hjv : j < vs.length := by omega
          obtain ⟨hcell0, hcell1⟩ := HCC.out.2 k (by simpa [tms] using hkq)
          have ek : (tms q)[k]'(by simpa [tms] using hkq) = (p.1, txt p.2) := by simp [tms, hp]
          rw [ek] at hcell0 hcell1
          have hd0 := (HWk.out.cell (p := ⟨g, off + k * 2, none⟩) HCC.out.1).trans hcell0
          have hd1 := (HWk.out.cell (p := ⟨g, off + k * 2 + 1, none⟩) HCC.out.1).trans hcell1
          obtain ⟨z, hz⟩ : ∃ z, txt p.2 = z := ⟨_, rfl⟩
          dsimp only at hd0 hd1
          rw [hpj] at hd0
          rw [hz] at hd1
          obtain ⟨ad', n', cap', e1, e2, hv⟩ := (HS0.out.keep HWk.out (Nat.le_refl _))
          cases e1
          clear e2
          obtain ⟨g2, off2, rfl, hg2, hc2⟩ : ∃ g2 off2, ad2 = some ⟨g2, off2, none⟩ ∧ g2 < wr.heap.size ∧ ∀ (i : Nat) (h : i < (valsQ vs).length), wr.cell? ⟨g2, off2 + i, none⟩ = some (.string (valsQ vs)[i]) := by
            rcases hv with h | h
            · have := HL.out.2; omega
            · exact h
          have hy := hc2 j (by simpa [valsQ] using hjv)
          obtain ⟨v, hvv⟩ : ∃ v, vs[j] = v := ⟨_, rfl⟩
          have ey : (valsQ vs)[j]'(by simpa [valsQ] using hjv) = txt v := by simp [valsQ, hvv]
          obtain ⟨y, hyy⟩ : ∃ y, txt v = y := ⟨_, rfl⟩
          rw [ey, hyy] at hy
          have hvsh : rshort v = true := by rw [← hvv]; exact HVS.out _ (List.getElem_mem hjv)
          have hat : atQ vs p.1 = v := by unfold atQ; rw [hpj]; simp [hjv, hvv]
          have hdrop : q.drop k = p :: q.drop (k + 1) := by rw [List.drop_eq_getElem_cons hkq, hp]
          have hev := HA.out.2.2
          rw [hdrop] at hev
          unfold evalQ at hev
          rw [hat] at hev
          have hA := (Below.refl wr.heap.size wr).alloc (Nat.le_refl _) (.cells #[.int .i64 (j : Int), .string z] 68)
          have hy2 := (hA.cell (p := ⟨g2, off2 + j, none⟩) hg2).trans hy
          have HWA := Lib.hid (HWk.out.trans (hA.mono HWk.out.size))
          have HEV := Lib.hid hev
          have HSZ : Hid (z.size ≤ 100000 ∧ y.size ≤ 100000) := Lib.hid ⟨by rw [← hz]; have := txt_size hsh; omega, by rw [← hyy]; have := txt_size hvsh; omega⟩
          have HMUL := Lib.hid (mulRes hsh hvsh)
          have HZY := Lib.hid (And.intro hz hyy)
          obtain ⟨c0, c1', c2', c3⟩ := (Bx.new wr (.int .i64 (j : Int)) (.string z) 68).cell
          have h1 : (0 : Int) ≤ k := by omega
          have h2 : (k : Int) < n1 := by omega
          have h3 : (0 : Int) ≤ j := by omega
          have h4 : (j : Int) < n2 := by have := HL.out.2; omega
          clear hv hc2 hy ey hvsh hat hdrop hev hA hz hyy hvv hsh hcol hmem hp hcell0 hcell1 ek hj hnz
          by_cases hs1 : rshort (p.2 * v) = true
          · obtain ⟨z2, hz2⟩ : ∃ z2, txt (p.2 * v) = z2 := ⟨_, rfl⟩
            have HM : Hid (OpRes fMul gAdd z y z2 0) := Lib.hid (by rw [← HZY.out.1, ← HZY.out.2, ← hz2]; exact HMUL.out.1 hs1)
            have HADD := Lib.hid (addRes HA.out.2.1 hs1)
            have HZ2 := Lib.hid hz2
            have HS1 := Lib.hid hs1
            have hz2s : z2.size ≤ 100000 := by rw [← hz2]; have := txt_size hs1; omega
            have HTS1 : Hid (ts.size ≤ 100000) := Lib.hid (by rw [HA.out.1]; have := txt_size HA.out.2.1; omega)
            clear hz2 hs1
            go_wp2_with fail
            go_region_held3 (fun w' => w'.cell? ⟨wr.heap.size, 0, none⟩ = some (.int .i64 (j : Int)) ∧ w'.cell? ⟨wr.heap.size, 1, none⟩ = some (.string z) ∧ w'.cell? ⟨g2, off2 + j, none⟩ = some (.string y)) (first | ((try dsimp only); (repeat' apply And.intro); all_goals with_reducible assumption) | go_keep) (first | (go_at_call 55; refine (qMul_any z y z2 0 _ HM HSZ.out.1 HSZ.out.2 (by first | exact tab_keep HT.out HWA.out | exact tab_keep HT.out (Bel.drewN HWA.out _) | exact tab_keep HT.out HWA.out.drew)).mono ?_; rintro e w3 ⟨rfl, hb⟩; have hW3 := HWA.out.drew.trans (hb.mono HWA.out.size); have k0 := (hb.cell (p := ⟨wr.heap.size, 0, none⟩) (by simp)).trans c0; have k1 := (hb.cell (p := ⟨wr.heap.size, 1, none⟩) (by simp)).trans c1'; have k2 := (hb.cell (p := ⟨g2, off2 + j, none⟩) (by simp; omega)).trans hy2; clear c0 c1' hy2))
            have HW3 := Lib.hid hW3
            clear hW3 hb k0 k1 k2
            go_wp2_with fail
            by_cases hs2 : rshort (tot + p.2 * v) = true
            · obtain ⟨z3, hz3⟩ : ∃ z3, txt (tot + p.2 * v) = z3 := ⟨_, rfl⟩
              have HA2 : Hid (OpRes fAdd gAdd ts z2 z3 0) := Lib.hid (by rw [HA.out.1, ← HZ2.out, ← hz3]; exact HADD.out.1 hs2)
              have HEV2 : Hid (evalQ (tot + p.2 * v) (q.drop (k + 1)) (atQ vs) = o) := Lib.hid (by have h := HEV.out; rw [HS1.out, hs2] at h; simpa using h)
              have HS2 := Lib.hid (And.intro hz3.symm hs2)
              clear hz3 hs2
              refine (qAdd_any ts z2 z3 0 _ HA2 HTS1.out hz2s (tab_keep HT.out HW3.out)).mono ?_
              rintro e w4 ⟨rfl, hb⟩
              have HW4 := Lib.hid (HW3.out.trans (hb.mono HW3.out.size))
              clear hb
              go_wp2
              go_roundw
              case rel => exact ⟨k + 1, tot + p.2 * v, z3, by omega, by go_num, rfl, Lib.hid ⟨HS2.out.1, HS2.out.2, HEV2.out⟩, HW4⟩
              case measure => simp [intOf]; omega
            · have hs3 : rshort (tot + p.2 * v) = false := by simpa using hs2
              have HA2 : Hid (OpRes fAdd gAdd ts z2 ⟨#[]⟩ 5) := Lib.hid (by rw [HA.out.1, ← HZ2.out]; exact HADD.out.2 hs3)
              have ho : o = none := by have h := HEV.out; rw [hs3] at h; simpa using h.symm
              have hse : s = ⟨#[]⟩ ∧ ec = 5 := by have h := HRES.out; rw [ho] at h; exact h
              obtain ⟨rfl, rfl⟩ := hse
              clear hs2 hs3 ho
              refine (qAdd_any ts z2 ⟨#[]⟩ 5 _ HA2 HTS1.out hz2s (tab_keep HT.out HW3.out)).mono ?_
              rintro e w4 ⟨rfl, hb⟩
              have HW4 := Lib.hid (HW3.out.trans (hb.mono HW3.out.size))
              clear hb
              go_wp2
              go_ret2
              exact ⟨rfl, HW4.out⟩
          · have hs3 : rshort (p.2 * v) = false := by simpa using hs1
            have HM : Hid (OpRes fMul gAdd z y ⟨#[]⟩ 5) := Lib.hid (by rw [← HZY.out.1, ← HZY.out.2]; exact HMUL.out.2 hs3)
            have ho : o = none := by have h := HEV.out; rw [hs3] at h; simpa using h.symm
            have hse : s = ⟨#[]⟩ ∧ ec = 5 := by have h := HRES.out; rw [ho] at h; exact h
            obtain ⟨rfl, rfl⟩ := hse
            clear hs1 hs3 ho
            go_wp2_with fail
            go_region_held3 (fun w' => w'.cell? ⟨wr.heap.size, 0, none⟩ = some (.int .i64 (j : Int)) ∧ w'.cell? ⟨wr.heap.size, 1, none⟩ = some (.string z) ∧ w'.cell? ⟨g2, off2 + j, none⟩ = some (.string y)) (first | ((try dsimp only); (repeat' apply And.intro); all_goals with_reducible assumption) | go_keep) (first | (go_at_call 55; refine (qMul_any z y ⟨#[]⟩ 5 _ HM HSZ.out.1 HSZ.out.2 (by first | exact tab_keep HT.out HWA.out | exact tab_keep HT.out (Bel.drewN HWA.out _) | exact tab_keep HT.out HWA.out.drew)).mono ?_; rintro e w3 ⟨rfl, hb⟩; have hW3 := HWA.out.drew.trans (hb.mono HWA.out.size); have k0 := (hb.cell (p := ⟨wr.heap.size, 0, none⟩) (by simp)).trans c0; have k1 := (hb.cell (p := ⟨wr.heap.size, 1, none⟩) (by simp)).trans c1'; have k2 := (hb.cell (p := ⟨g2, off2 + j, none⟩) (by simp; omega)).trans hy2; clear c0 c1' hy2))
            have HW3 := Lib.hid hW3
            clear hW3 hb k0 k1 k2
            go_wp2
            go_ret2
            exact ⟨rfl, HW3.out⟩
        · obtain rfl : k = n1 := by omega
          have ho : o = some tot := by
            have h := HA.out.2.2
            rw [List.drop_of_length_le (by rw [← HL.out.1]; exact Nat.le_refl _)] at h
            exact h.symm
          have hse : s = txt tot ∧ ec = 0 := by have h := HRES.out; rw [ho] at h; exact h
          obtain ⟨e1, rfl⟩ := hse
          obtain rfl : ts = s := HA.out.1.trans e1.symm
          clear ho e1
          go_wp2
          go_ret2
          exact ⟨rfl, HWk.out⟩
set_option maxRecDepth 100000 in
set_option maxHeartbeats 1600000 in
theorem Eval_bad (x : ByteArray) (l : List Tm) (ss : List ByteArray) (ad1 ad2 : Option Addr) (n1 c1 n2 c2 : Nat) (w : World) (hv : TsAt w (.slice ad1 n1 c1) l) (hv2 : SsAt w (.slice ad2 n2 c2) ss) (hxs : x.size ≤ 100000) (hls : ∀ t ∈ l, t.2.size ≤ 100000) (hll : l.length ≤ 1000) (hss : ∀ s ∈ ss, s.size ≤ 100000) (hsl : ss.length ≤ 1000) (hbad : checkErr x l ≠ 0 ∨ ss.any noNum = true) :
    Calls Tryz.prog 22 #[.agg #[.slice ad1 n1 c1, .string x], .slice ad2 n2 c2] w fun e w' => e = .returned (.tuple #[.string ⟨#[]⟩, .int .i64 3]) ∧ Below w.heap.size w w' := by
  have hA := (Below.refl w.heap.size w).alloc (Nat.le_refl _) (.cells #[.slice ad1 n1 c1, .string x] 24)
  have HV := Lib.hid (hv.keep hA (Nat.le_refl _))
  have HS := Lib.hid hv2
  have HB := Lib.hid (Bx.new w (.slice ad1 n1 c1) (.string x) 24)
  have HW := Lib.hid hA
  have HLS := Lib.hid hls
  have HSS := Lib.hid hss
  obtain ⟨r1, hr1⟩ : ∃ r, checkErr x l = r := ⟨_, rfl⟩
  rw [hr1] at hbad
  have HR1 := Lib.hid hr1
  clear hA hv hv2 hls hss hr1
  go_enter Tryz.func22, Tryz.ntmps22
  by_cases hz : r1 = 0
  · have hz2 : ss.any noNum = true := hbad.resolve_left (fun h => h hz)
    have hg1 : (r1 != 0) = false := by simp [hz]
    have HA := Lib.hid hz2
    clear hbad hz hz2
    go_wp2_with fail
    refine (Check_any x ad1 n1 c1 l r1 _ HV.out hxs HLS.out hll HR1).mono ?_
    rintro e w1 ⟨rfl, hb⟩
    have HW1 := Lib.hid (HW.out.trans (hb.mono HW.out.size))
    clear hb
    go_wp2_with fail
    refine (containsNoNum_any _ ss true _ (HS.out.keep HW1.out (Nat.le_refl _)) HSS.out hsl HA).mono ?_
    rintro e w2 ⟨rfl, hb⟩
    have HW2 := Lib.hid (HW1.out.trans (hb.mono HW1.out.size))
    clear hb
    go_wp2
    go_ret2
    exact ⟨rfl, HW2.out⟩
  · have hg1 : (r1 != 0) = true := by simpa using hz
    clear hbad hz
    go_wp2_with fail
    refine (Check_any x ad1 n1 c1 l r1 _ HV.out hxs HLS.out hll HR1).mono ?_
    rintro e w1 ⟨rfl, hb⟩
    have HW1 := Lib.hid (HW.out.trans (hb.mono HW.out.size))
    clear hb
    go_wp2
    go_ret2
    exact ⟨rfl, HW1.out⟩

end Go.Proofs.YtmdppblhbmbakaaGreatDoor
