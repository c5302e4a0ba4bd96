/- What short and Light do. Values of sums and of forms with another form in the place of a column: the mathematics of LinearValues; Eval at any form. -/
import Derived.Test.YtmdppblhbmbakaaGreatDoorF10
import Derived.Test.YtmdppblhbmbakaaGreatDoorFN
import Derived.Test.YtmdppblhbmbakaaGreatDoorF17
set_option linter.unusedVariables false
set_option linter.unusedSimpArgs false
namespace Go.Proofs.YtmdppblhbmbakaaGreatDoor
open Go.RowKit Go.Maps _root_.Go.Proofs.YtmdppblhbmbakaaGreatDoor.Nm

/-- All of some texts are short. -/
def shortC (l : List ByteArray) : Bool := l.all fun s => decide (s.size ≤ 120)
theorem shortC_snoc (l : List ByteArray) (s : ByteArray) : shortC (l ++ [s]) = (shortC l && decide (s.size ≤ 120)) := by unfold shortC; simp
theorem shortC_take (l : List ByteArray) (k : Nat) (h : shortC (l.take k) = false) : shortC l = false := by
  cases hs : shortC l with
  | false => rfl
  | true =>
    exfalso
    unfold shortC at h hs
    rw [List.all_eq_true] at hs
    have : (l.take k).all (fun s => decide (s.size ≤ 120)) = true := by rw [List.all_eq_true]; exact fun x hx => hs x (List.mem_of_mem_take hx)
    rw [this] at h; cases h
theorem shortC_one (s : ByteArray) : shortC [s] = decide (s.size ≤ 120) := by unfold shortC; simp

set_option maxRecDepth 100000 in
set_option maxHeartbeats 1600000 in
theorem lshort_any (ad : Option Addr) (n c : Nat) (l : List ByteArray) (b : Bool) (w : World) (h : SsAt w (.slice ad n c) l) (hn : n ≤ 1000) (hb : Hid (shortC l = b)) :
    Calls Tryz.prog 10 #[.slice ad n c] w fun e w' => e = .returned (.bool b) ∧ w = w' := by
  obtain ⟨ad', n', cap', e1, hl, hv⟩ := h
  cases e1
  have HL := Lib.hid (And.intro trivial hl)
  have HV := Lib.hid hv
  clear hl hv
  go_enter Tryz.func10, Tryz.ntmps10
  go_wp2
  go_loop [7] (fun i => ∃ k : Nat, k ≤ n ∧ i = .int .i64 k ∧ Hid (shortC (l.take k) = true)) (fun i => n - (intOf i).toNat)
  case atStart => exact ⟨0, Nat.zero_le _, rfl, Lib.hid rfl⟩
  case round =>
    obtain ⟨k, hk, rfl, HK⟩ := hrel
    by_cases hlt : k < n
    · have hkl : k < l.length := by rw [← HL.out.2]; exact hlt
      obtain ⟨g, off, rfl, hg, hc⟩ : ∃ g off, ad = some ⟨g, off, none⟩ ∧ g < w.heap.size ∧ ∀ (i : Nat) (h : i < l.length), w.cell? ⟨g, off + i, none⟩ = some (.string l[i]) := by
        rcases HV.out with h | h
        · omega
        · exact h
      have hcell := hc k hkl
      have hsn : shortC (l.take (k + 1)) = (shortC (l.take k) && decide (l[k].size ≤ 120)) := by
        rw [← shortC_snoc, List.take_succ_eq_append_getElem hkl]
      obtain ⟨x, hx⟩ : ∃ x, l[k] = x := ⟨_, rfl⟩
      rw [hx] at hcell hsn
      rw [HK.out, Bool.true_and] at hsn
      have HSN := Lib.hid hsn
      have h1 : (0 : Int) ≤ k := by omega
      have h2 : (k : Int) < n := by omega
      clear hx hsn hkl hc
      by_cases hbig : (120 : Int) < x.size
      · obtain rfl : b = false := by rw [← hb.out]; exact shortC_take l (k + 1) (by rw [HSN.out]; exact decide_eq_false (by omega))
        go_wp2
        go_ret
        exact ⟨rfl, rfl⟩
      · have HK2 : Hid (shortC (l.take (k + 1)) = true) := Lib.hid (by rw [HSN.out]; exact decide_eq_true (by omega))
        go_wp2
        go_round
        case rel => exact ⟨k + 1, by omega, by go_num, HK2⟩
        case measure => simp [intOf]; omega
    · obtain rfl : k = n := by omega
      obtain rfl : b = true := by
        rw [← hb.out]
        have h := HK.out
        rwa [List.take_of_length_le (by rw [← HL.out.2]; exact Nat.le_refl _)] at h
      go_wp2
      go_ret
      exact ⟨rfl, rfl⟩

/-- One text, out of a slice of its own. -/
theorem SsAt.one (W : World) (x : ByteArray) (T : TypeId) : SsAt (W.alloc (.cells #[.string x] T)) (.slice (some ⟨W.heap.size, 0, none⟩) 1 1) [x] := by
  refine ⟨_, _, _, rfl, rfl, .inr ⟨W.heap.size, 0, rfl, by simp, fun i hi => ?_⟩⟩
  obtain rfl : i = 0 := by simp at hi; exact hi
  exact (Bo.new W (.string x) T).cell.1

/-- A form is small. -/
def lightB (x : ByteArray) (l : List Tm) : Bool := shortC (l.map Prod.snd) && (decide (l.length ≤ 8) && decide (x.size ≤ 120))

set_option maxRecDepth 100000 in
set_option maxHeartbeats 3200000 in
theorem Light_any (x : ByteArray) (ad : Option Addr) (n cap : Nat) (l : List Tm) (b : Bool) (w : World) (hv : TsAt w (.slice ad n cap) l) (hm : n ≤ 9223372036854775807) (hb : Hid (lightB x l = b)) :
    Calls Tryz.prog 9 #[.agg #[.slice ad n cap, .string x]] w fun e w' => e = .returned (.bool b) ∧ Below w.heap.size w w' := by
  have HV := Lib.hid (hv.keep ((Below.refl w.heap.size w).alloc (Nat.le_refl _) (.cells #[.slice ad n cap, .string x] 24)) (Nat.le_refl _))
  have HB0 := Lib.hid (Bx.new w (.slice ad n cap) (.string x) 24)
  have HW0 := Lib.hid ((Below.refl w.heap.size w).alloc (Nat.le_refl _) (.cells #[.slice ad n cap, .string x] 24))
  clear hv
  obtain ⟨b0, b1, b2, b3⟩ := HB0.out.cell
  go_enter Tryz.func9, Tryz.ntmps9
  go_wp2
  clear b0 b1 b2 b3
  go_loopw [8] (fun i wr => ∃ k : Nat, k ≤ n ∧ i = .int .i64 k ∧ Hid (shortC ((l.map Prod.snd).take k) = true) ∧ Hid (Bx wr w.heap.size (.slice ad n cap) (.string x)) ∧ Hid (TsAt wr (.slice ad n cap) l) ∧ Hid (Below w.heap.size w wr)) (fun i _ => n - (intOf i).toNat)
  case atStart => exact ⟨0, Nat.zero_le _, rfl, Lib.hid rfl, HB0, HV, HW0⟩
  case round =>
    obtain ⟨k, hk, rfl, HK, HB, HT, HW⟩ := hrel
    obtain ⟨ad', n', cap', e1, e2, hv⟩ := HT.out
    cases e1
    have HLEN := Lib.hid (And.intro trivial e2)
    clear e2
    by_cases hlt : k < n
    · have hkl : k < l.length := by rw [← HLEN.out.2]; exact hlt
      obtain ⟨g, off, rfl, hg, hc⟩ : ∃ g off, ad = some ⟨g, off, none⟩ ∧ g < wr.heap.size ∧ ∀ (i : Nat) (h : i < l.length), wr.cell? ⟨g, off + i * 2, none⟩ = some (.int .i64 l[i].1) ∧ wr.cell? ⟨g, off + i * 2 + 1, none⟩ = some (.string l[i].2) := by
        rcases hv with h | h
        · omega
        · exact h
      obtain ⟨hcell0, hcell1⟩ := hc k hkl
      have hsn : shortC ((l.map Prod.snd).take (k + 1)) = (shortC ((l.map Prod.snd).take k) && decide (l[k].2.size ≤ 120)) := by
        rw [← shortC_snoc, List.take_succ_eq_append_getElem (by simpa using hkl), List.getElem_map]
      obtain ⟨col, hcol⟩ : ∃ col, l[k].1 = col := ⟨_, rfl⟩
      obtain ⟨y, hy⟩ : ∃ y, l[k].2 = y := ⟨_, rfl⟩
      rw [hcol] at hcell0
      rw [hy] at hcell1 hsn
      rw [HK.out, Bool.true_and] at hsn
      have HSN := Lib.hid hsn
      have HWA := Lib.hid (HW.out.alloc HW.out.size (.cells #[.int .i64 col, .string y] 68))
      have HBA := Lib.hid (HB.out.alloc (.cells #[.int .i64 col, .string y] 68))
      have HTA := Lib.hid (HT.out.keep ((Below.refl wr.heap.size wr).alloc (Nat.le_refl _) (.cells #[.int .i64 col, .string y] 68)) (Nat.le_refl _))
      obtain ⟨d0, d1, d2, d3⟩ := (Bx.new wr (.int .i64 col) (.string y) 68).cell
      have HWA2 := Lib.hid (HWA.out.alloc HWA.out.size (.cells #[.string y] 9))
      have HBA2 := Lib.hid (HBA.out.alloc (.cells #[.string y] 9))
      have HTA2 := Lib.hid (HTA.out.keep ((Below.refl _ (wr.alloc (.cells #[.int .i64 col, .string y] 68))).alloc (Nat.le_refl _) (.cells #[.string y] 9)) (Nat.le_refl _))
      have hss := SsAt.one (wr.alloc (.cells #[.int .i64 col, .string y] 68)) y 9
      simp only [World.size_alloc] at hss
      have HSS := Lib.hid hss
      clear hss
      have h1 : (0 : Int) ≤ k := by omega
      have h2 : (k : Int) < n := by omega
      clear hv hc hcol hy hsn hkl hg
      go_wp2_with fail
      by_cases hbig : y.size ≤ 120
      · have HK2 : Hid (shortC ((l.map Prod.snd).take (k + 1)) = true) := Lib.hid (by rw [HSN.out]; exact decide_eq_true hbig)
        refine (lshort_any _ _ _ [y] true _ HSS.out (by omega) (Lib.hid (by rw [shortC_one]; exact decide_eq_true hbig))).mono ?_
        rintro e w' ⟨rfl, rfl⟩
        clear d0 d1 d2 d3
        go_wp2
        go_roundw
        case rel => exact ⟨k + 1, by omega, by go_num, HK2, HBA2, HTA2, HWA2⟩
        case measure => simp [intOf]; omega
      · obtain rfl : b = false := by
          rw [← hb.out]
          unfold lightB
          rw [shortC_take _ (k + 1) (by rw [HSN.out]; exact decide_eq_false hbig)]; rfl
        refine (lshort_any _ _ _ [y] false _ HSS.out (by omega) (Lib.hid (by rw [shortC_one]; exact decide_eq_false hbig))).mono ?_
        rintro e w' ⟨rfl, rfl⟩
        clear d0 d1 d2 d3
        go_wp2
        go_ret
        exact ⟨rfl, HWA2.out⟩
    · obtain rfl : k = n := by omega
      have hall : shortC (l.map Prod.snd) = true := by
        have h := HK.out
        rwa [List.take_of_length_le (by rw [List.length_map, ← HLEN.out.2]; exact Nat.le_refl _)] at h
      have hb2 : (decide (l.length ≤ 8) && decide (x.size ≤ 120)) = b := by
        rw [← hb.out]; unfold lightB; rw [hall]; rfl
      obtain ⟨b0, b1, b2, b3⟩ := HB.out.cell
      have HB2 := Lib.hid hb2
      clear hall hv hb2
      by_cases h8 : (k : Int) ≤ 8
      · obtain rfl : decide (x.size ≤ 120) = b := by
          have h := HB2.out
          rw [← HLEN.out.2, decide_eq_true (show k ≤ 8 by omega), Bool.true_and] at h; exact h
        have HWA := Lib.hid (HW.out.alloc HW.out.size (.cells #[.string x] 9))
        have HSS := Lib.hid (SsAt.one wr x 9)
        clear HB2
        go_wp2_with fail
        refine (lshort_any _ _ _ [x] _ _ HSS.out (by omega) (Lib.hid (shortC_one x))).mono ?_
        rintro e w' ⟨rfl, rfl⟩
        clear b0 b1 b2 b3
        go_wp2
        go_ret
        exact ⟨rfl, HWA.out⟩
      · obtain rfl : b = false := by
          have h := HB2.out
          rw [← HLEN.out.2, decide_eq_false (show ¬ k ≤ 8 by omega), Bool.false_and] at h; exact h.symm
        clear HB2
        go_wp2
        go_ret
        exact ⟨rfl, HW.out⟩

end Go.Proofs.YtmdppblhbmbakaaGreatDoor
set_option linter.unusedVariables false
set_option linter.unusedSimpArgs false
namespace Go.Proofs.YtmdppblhbmbakaaGreatDoor
open Go.RowKit Go.Maps _root_.Go.Proofs.YtmdppblhbmbakaaGreatDoor.Nm

theorem EvalIs.zero {qc : Rat} {q : List Qm} {vs : List Rat} {s : ByteArray} (h : EvalIs qc q vs s 0) (hc : rshort qc = true) :
    (∀ p ∈ q, p.1 < (vs.length : Int)) ∧ ∃ r, s = txt r ∧ rshort r = true ∧ r = qc + val q (atQ vs) := by
  unfold EvalIs at h
  split at h
  · exact absurd h.2 (by decide)
  · next hn =>
    refine ⟨fun p hp => ?_, ?_⟩
    · rcases Int.lt_or_le p.1 vs.length with h1 | h1
      · exact h1
      · exact absurd ⟨p, hp, h1⟩ hn
    · split at h
      · next t ht => exact ⟨t, h.1, evalQ_short _ _ _ _ hc ht, evalQ_some _ _ _ _ ht⟩
      · exact absurd h.2 (by decide)
theorem EvalIs.fits {qc : Rat} {q : List Qm} {vs : List Rat} {s : ByteArray} {e : Int} (h : EvalIs qc q vs s e) (hin : ∀ p ∈ q, p.1 < (vs.length : Int)) : e = 0 ∨ e = 5 := by
  unfold EvalIs at h
  split at h
  · next hn => obtain ⟨p, hp, h1⟩ := hn; have := hin p hp; omega
  · split at h
    · exact .inl h.2
    · exact .inr h.2
theorem EvalIs.ex (qc : Rat) (q : List Qm) (vs : List Rat) : ∃ s e, EvalIs qc q vs s e := by
  unfold EvalIs
  split
  · exact ⟨_, _, rfl, rfl⟩
  · split
    · exact ⟨_, _, rfl, rfl⟩
    · exact ⟨_, _, rfl, rfl⟩

theorem sum_in {p1 p2 : Rat} {q1 q2 : List Qm} {g : Int → Rat} {n : Int} (h1 : Fo q1) (h2 : Fo q2) (h : sumRes p1 p2 q1 q2 = some g) (i1 : ∀ p ∈ q1, p.1 < n) (i2 : ∀ p ∈ q2, p.1 < n) : ∀ p ∈ formOf g, p.1 < n := by
  obtain ⟨_, rfl, _⟩ := sumRes_some h1 h2 h
  intro p hp
  rcases mem_two (q1 := q1) (q2 := q2) hp (fun e1 e2 => by rw [e1, e2]; exact Rat.add_zero 0) with ⟨x, hx, e⟩ | ⟨x, hx, e⟩
  · rw [← e]; exact i1 x hx
  · rw [← e]; exact i2 x hx
theorem put_in {p1 p2 : Rat} {q1 q2 : List Qm} {c : Int} {g : Int → Rat} {n : Int} (h1 : Fo q1) (h2 : Fo q2) (h : putRes p1 p2 q1 q2 c = some g) (i1 : ∀ p ∈ q1, p.1 < n) (i2 : ∀ p ∈ q2, p.1 < n) : ∀ p ∈ formOf g, p.1 < n := by
  obtain ⟨_, rfl, _⟩ := putRes_some h1 h2 h
  intro p hp
  rcases mem_two (q1 := q1) (q2 := q2) hp (fun e1 e2 => by rw [co_wo, e1, e2, Rat.zero_mul]; split <;> exact Rat.add_zero 0) with ⟨x, hx, e⟩ | ⟨x, hx, e⟩
  · rw [← e]; exact i1 x hx
  · rw [← e]; exact i2 x hx

/-- The value of a sum. -/
theorem sum_value {p1 p2 r1 r2 r : Rat} {q1 q2 : List Qm} {g : Int → Rat} {v : Int → Rat} (h1 : Fo q1) (h2 : Fo q2) (h : sumRes p1 p2 q1 q2 = some g) (e1 : r1 = p1 + val q1 v) (e2 : r2 = p2 + val q2 v) (e : r = (p1 + p2) + val (formOf g) v) : r = r1 + r2 := by
  obtain ⟨_, rfl, _⟩ := sumRes_some h1 h2 h
  rw [val_sum h1 h2] at e
  rw [e, e1, e2]
  grind
/-- The values with another first one. -/
theorem atQ_first (y : Rat) (vs : List Rat) (x : Int) (h0 : 0 ≤ x) (hx : x ≠ 0) : atQ vs x = atQ (y :: vs.tail) x := by
  unfold atQ
  obtain ⟨k, hk⟩ : ∃ k : Nat, x.toNat = k + 1 := ⟨x.toNat - 1, by omega⟩
  rw [hk, List.getElem?_cons_succ, List.getElem?_tail]
theorem atQ_zero (y : Rat) (vs : List Rat) : atQ (y :: vs) 0 = y := by
  unfold atQ
  simp
theorem put_value {p1 p2 y r r' : Rat} {q1 q2 : List Qm} {g : Int → Rat} {vs : List Rat} (h1 : Fo q1) (h2 : Fo q2) (h : putRes p1 p2 q1 q2 0 = some g) (ey : y = p2 + val q2 (atQ vs))
    (e : r = (p1 + p2 * co q1 0) + val (formOf g) (atQ vs)) (e' : r' = p1 + val q1 (atQ (y :: vs.tail))) : r = r' := by
  obtain ⟨_, rfl, _⟩ := putRes_some h1 h2 h
  rw [val_put h1 h2] at e
  have hw := val_wo h1 0 (by omega) (atQ (y :: vs.tail))
  rw [Int.natCast_zero, atQ_zero, ← val_wo_congr h1 0 (atQ vs) _ (fun x hx0 hx => atQ_first y vs x hx0 hx)] at hw
  rw [hw] at e'
  rw [e, e', ey]
  grind

/-- What Eval answers, for whatever form and values. -/
def EvalRes (x : ByteArray) (l : List Tm) (ss : List ByteArray) (s : ByteArray) (e : Int) : Prop :=
  ((checkErr x l ≠ 0 ∨ ss.any noNum = true) ∧ s = ⟨#[]⟩ ∧ e = 3) ∨ ∃ qc q vs, x = txt qc ∧ rshort qc = true ∧ l = tms q ∧ Fo q ∧ ss = valsQ vs ∧ (∀ v ∈ vs, rshort v = true) ∧ EvalIs qc q vs s e
theorem EvalRes.ex (x : ByteArray) (l : List Tm) (ss : List ByteArray) : ∃ s e, EvalRes x l ss s e := by
  by_cases h : checkErr x l ≠ 0 ∨ ss.any noNum = true
  · exact ⟨_, _, .inl ⟨h, rfl, rfl⟩⟩
  · have h1 : checkErr x l = 0 := Decidable.byContradiction fun e => h (.inl e)
    have h2 : ss.any noNum = false := by
      cases hb : ss.any noNum with
      | false => rfl
      | true => exact absurd (.inr hb) h
    obtain ⟨qc, q, e1, e2, e3, e4⟩ := checkErr_zero h1
    obtain ⟨vs, e5, e6⟩ := valsQ_ex ss h2
    obtain ⟨s, e, hh⟩ := EvalIs.ex qc q vs
    exact ⟨s, e, .inr ⟨qc, q, vs, e1, e2, e3, e4, e5, e6, hh⟩⟩
theorem txt_small {q : Rat} (h : rshort q = true) : (txt q).size ≤ 1000 := (txt_is h).size
theorem EvalRes.size {x : ByteArray} {l : List Tm} {ss : List ByteArray} {s : ByteArray} {e : Int} (h : EvalRes x l ss s e) : s.size ≤ 1000 := by
  rcases h with ⟨_, rfl, _⟩ | ⟨qc, q, vs, _, h2, _, _, _, _, h⟩
  · exact Nat.zero_le _
  · unfold EvalIs at h
    split at h
    · rw [h.1]; exact Nat.zero_le _
    · split at h
      · next t ht => rw [h.1]; exact txt_small (evalQ_short _ _ _ _ h2 ht)
      · rw [h.1]; exact Nat.zero_le _
theorem EvalRes.good {x : ByteArray} {l : List Tm} {ss : List ByteArray} {s : ByteArray} (h : EvalRes x l ss s 0) : ∃ qc q vs, x = txt qc ∧ rshort qc = true ∧ l = tms q ∧ Fo q ∧ ss = valsQ vs ∧ (∀ v ∈ vs, rshort v = true) ∧ EvalIs qc q vs s 0 := by
  rcases h with ⟨_, _, h⟩ | h
  · exact absurd h (by decide)
  · exact h
theorem tms_inj : ∀ {a b : List Qm}, (∀ p ∈ a, rshort p.2 = true) → (∀ p ∈ b, rshort p.2 = true) → tms a = tms b → a = b
  | [], [], _, _, _ => rfl
  | [], q :: b, _, _, h => by cases h
  | p :: a, [], _, _, h => by cases h
  | p :: a, q :: b, ha, hb, h => by
    have h1 : ((p.1, txt p.2) : Tm) :: tms a = (q.1, txt q.2) :: tms b := h
    rw [List.cons.injEq, Prod.mk.injEq] at h1
    obtain ⟨⟨e1, e2⟩, e3⟩ := h1
    rw [tms_inj (fun x hx => ha x (by simp [hx])) (fun x hx => hb x (by simp [hx])) e3]
    congr 1
    exact Prod.ext e1 (txt_inj (ha p (by simp)) (hb q (by simp)) e2)
theorem valsQ_inj : ∀ {a b : List Rat}, (∀ p ∈ a, rshort p = true) → (∀ p ∈ b, rshort p = true) → valsQ a = valsQ b → a = b
  | [], [], _, _, _ => rfl
  | [], q :: b, _, _, h => by cases h
  | p :: a, [], _, _, h => by cases h
  | p :: a, q :: b, ha, hb, h => by
    have h1 : txt p :: valsQ a = txt q :: valsQ b := h
    rw [List.cons.injEq] at h1
    rw [valsQ_inj (fun x hx => ha x (by simp [hx])) (fun x hx => hb x (by simp [hx])) h1.2, txt_inj (ha p (by simp)) (hb q (by simp)) h1.1]
/-- .. of a valid form and numbers. -/
theorem EvalRes.is {qc : Rat} {q : List Qm} {vs : List Rat} {s : ByteArray} {e : Int} (h : EvalRes (txt qc) (tms q) (valsQ vs) s e) (hc : rshort qc = true) (hq : Fo q) (hv : ∀ v ∈ vs, rshort v = true) : EvalIs qc q vs s e := by
  rcases h with ⟨h, _⟩ | ⟨qc', q', vs', e1, e2, e3, e4, e5, e6, h⟩
  · rcases h with h | h
    · exact absurd (checkErr_fo hc hq) h
    · rw [valsQ_any hv] at h; cases h
  · rw [txt_inj hc e2 e1, tms_inj (fun p hp => (hq.1 p hp).2.1) (fun p hp => (e4.1 p hp).2.1) e3, valsQ_inj hv e6 e5]
    exact h

theorem Eval_all (x : ByteArray) (l : List Tm) (ss : List ByteArray) (ad1 ad2 : Option Addr) (n1 c1 n2 c2 : Nat) (s : ByteArray) (e : Int) (w : World) (h : InF w ad1 n1 c1 x l) (hv2 : SsAt w (.slice ad2 n2 c2) ss) (hss : ∀ s ∈ ss, s.size ≤ 100000) (hsl : ss.length ≤ 1000) (htab : Tab w) (hr : Hid (EvalRes x l ss s e)) :
    Calls Tryz.prog 22 #[.agg #[.slice ad1 n1 c1, .string x], .slice ad2 n2 c2] w fun e' w' => e' = .returned (.tuple #[.string s, .int .i64 e]) ∧ Below w.heap.size w w' := by
  rcases hr.out with ⟨hb, rfl, rfl⟩ | ⟨qc, q, vs, rfl, h2, rfl, h4, rfl, h6, hh⟩
  · exact Eval_bad x l ss ad1 ad2 n1 c1 n2 c2 w h.at_ hv2 h.size h.sizes (by have := h.len; omega) hss hsl hb
  · exact Eval_loop qc q vs ad1 ad2 n1 c1 n2 c2 s e w h.at_ hv2 h4 h2 h6 (by have := h.len; simp [tms] at this; omega) (by simpa [valsQ] using hsl) htab (Lib.hid hh)

end Go.Proofs.YtmdppblhbmbakaaGreatDoor
