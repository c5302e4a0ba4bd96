/- What Add and Put return, for whatever valid forms; the memory of the laws' walks. The examples of the chapter: the walk of awake. -/
import Derived.Test.YtmdppblhbmbakaaGreatDoorG2
import Derived.Test.YtmdppblhbmbakaaGreatDoorF20
import Derived.Test.YtmdppblhbmbakaaGreatDoorF24
set_option linter.unusedVariables false
set_option linter.unusedSimpArgs false
namespace Go.Proofs.YtmdppblhbmbakaaGreatDoor
open Go.RowKit Go.Maps _root_.Go.Proofs.YtmdppblhbmbakaaGreatDoor.Nm

/-- A form and an error: the form without terms and ErrLong, or OK and a form of which G holds. -/
def FG (G : List Tm → ByteArray → Prop) (w : World) (e : Ending) (w' : World) : Prop :=
  ∃ ad n cap s ec l, e = .returned (.tuple #[.agg #[.slice ad n cap, .string s], .int .i64 ec]) ∧ InF w' ad n cap s l ∧ Below w.heap.size w w' ∧ ((ec = 5 ∧ l = [] ∧ s = ⟨#[]⟩) ∨ (ec = 0 ∧ G l s))
theorem FormRes.fg {o : Option (Int → Rat)} {c : ByteArray} {w w' : World} {e : Ending} (h : FormRes o c w e w') (hc : c.size ≤ 100000) (hg : ∀ g, o = some g → Good g ∧ (formOf g).length ≤ 500) :
    FG (fun l s => ∃ g, o = some g ∧ Good g ∧ s = c ∧ l = tms (formOf g)) w e w' := by
  obtain ⟨hb, h⟩ := h
  cases o with
  | none =>
    exact ⟨_, _, _, _, _, [], h, ⟨TsAt.nil _ _ _, Nat.zero_le _, by simp, Nat.zero_le _, fun _ => rfl⟩, hb, .inl ⟨rfl, rfl, rfl⟩⟩
  | some f =>
    obtain ⟨ad, n, cap, he, hts, a, ha, hl⟩ := h
    obtain ⟨h1, h2⟩ := hg f rfl
    refine ⟨ad, n, cap, c, 0, _, he, ⟨hts, hc, fun t ht => ?_, by simpa [tms] using h2, fun h => by rw [ha] at h; cases h⟩, hb, .inr ⟨rfl, f, rfl, h1, rfl, rfl⟩⟩
    obtain ⟨p, hp, rfl⟩ := List.mem_map.1 ht
    have := txt_small ((formOf_fo h1).1 p hp).2.1
    dsimp only; omega

theorem sumRes_len {p1 p2 : Rat} {q1 q2 : List Qm} {g : Int → Rat} (h : sumRes p1 p2 q1 q2 = some g) : (formOf g).length ≤ q1.length + q2.length := by
  unfold sumRes at h
  split at h
  · have := acc_length0 h
    rwa [List.length_append] at this
  · cases h
theorem sclRes_len {p r : Rat} {q : List Qm} {g : Int → Rat} (h : sclRes p r q = some g) : (formOf g).length ≤ q.length := by
  unfold sclRes at h
  split at h
  · have := acc_length0 h
    unfold scl at this
    rwa [List.length_map] at this
  · cases h
theorem putRes_len {p1 p2 : Rat} {q1 q2 : List Qm} {c : Int} {g : Int → Rat} (h : putRes p1 p2 q1 q2 c = some g) : (formOf g).length ≤ q1.length + q2.length := by
  unfold putRes at h
  cases ho : sclRes p2 (co q1 c) q2 with
  | none => rw [ho] at h; cases h
  | some f =>
    rw [ho] at h
    have h1 := sclRes_len ho
    have h2 := sumRes_len (p1 := p1) (p2 := p2 * co q1 c) (q1 := wo q1 c) (q2 := formOf f) (g := g) h
    have h3 := wo_length q1 c
    omega
/-- The text of any number is not long enough to matter. -/
theorem Add_gen (p1 p2 : Rat) (x1 x2 : ByteArray) (ad1 ad2 : Option Addr) (n1 c1 n2 c2 : Nat) (q1 q2 : List Qm) (w : World) (h1 : InV w ad1 n1 c1 p1 x1 q1) (h2 : InV w ad2 n2 c2 p2 x2 q2) (hl : q1.length + q2.length ≤ 500) (htab : Tab w) :
    Calls Tryz.prog 13 #[.agg #[.slice ad1 n1 c1, .string x1], .agg #[.slice ad2 n2 c2, .string x2]] w (FG (fun l s => ∃ g, sumRes p1 p2 q1 q2 = some g ∧ Good g ∧ s = txt (p1 + p2) ∧ l = tms (formOf g)) w) := by
  refine (Add_good p1 p2 x1 x2 ad1 ad2 n1 c1 n2 c2 q1 q2 w h1 h2 htab).mono fun e w' h => ?_
  cases ho : sumRes p1 p2 q1 q2 with
  | none =>
    rw [ho] at h
    obtain ⟨hb, h⟩ := h
    exact ⟨_, _, _, _, _, [], h, ⟨TsAt.nil _ _ _, Nat.zero_le _, by simp, Nat.zero_le _, fun _ => rfl⟩, hb, .inl ⟨rfl, rfl, rfl⟩⟩
  | some g =>
    rw [ho] at h
    obtain ⟨hs, _, hg⟩ := sumRes_some h1.fo h2.fo ho
    exact h.fg (by have := txt_small hs; omega) (fun f hf => by cases hf; exact ⟨hg, by have := sumRes_len ho; omega⟩)
theorem Put_gen (p1 p2 : Rat) (x1 x2 : ByteArray) (ad1 ad2 : Option Addr) (n1 c1 n2 c2 : Nat) (q1 q2 : List Qm) (c : Int) (w : World) (h1 : InV w ad1 n1 c1 p1 x1 q1) (h2 : InV w ad2 n2 c2 p2 x2 q2) (hcol : ColIn c) (hl : q1.length + q2.length ≤ 500) (htab : Tab w) :
    Calls Tryz.prog 25 #[.agg #[.slice ad1 n1 c1, .string x1], .int .i64 c, .agg #[.slice ad2 n2 c2, .string x2]] w (FG (fun l s => ∃ g, putRes p1 p2 q1 q2 c = some g ∧ Good g ∧ s = txt (p1 + p2 * co q1 c) ∧ l = tms (formOf g)) w) := by
  refine (Put_good p1 p2 x1 x2 ad1 ad2 n1 c1 n2 c2 q1 q2 c w h1 h2 hcol htab).mono fun e w' h => ?_
  cases ho : putRes p1 p2 q1 q2 c with
  | none =>
    rw [ho] at h
    obtain ⟨hb, h⟩ := h
    exact ⟨_, _, _, _, _, [], h, ⟨TsAt.nil _ _ _, Nat.zero_le _, by simp, Nat.zero_le _, fun _ => rfl⟩, hb, .inl ⟨rfl, rfl, rfl⟩⟩
  | some g =>
    rw [ho] at h
    obtain ⟨hs, _, hg⟩ := putRes_some h1.fo h2.fo ho
    exact h.fg (by have := txt_small hs; omega) (fun f hf => by cases hf; exact ⟨hg, by have := putRes_len ho; omega⟩)

/-- A small form's terms and constant are within what the contracts ask. -/
theorem inF_light {w : World} {ad : Option Addr} {n cap : Nat} {x : ByteArray} {l : List Tm} (h : TsAt w (.slice ad n cap) l) (h0 : ad = none → cap = 0) (hl : lightB x l = true) : InF w ad n cap x l ∧ l.length ≤ 8 := by
  unfold lightB shortC at hl
  rw [Bool.and_eq_true, Bool.and_eq_true, List.all_eq_true, decide_eq_true_eq, decide_eq_true_eq] at hl
  obtain ⟨h1, h2, h3⟩ := hl
  refine ⟨⟨h, by omega, fun t ht => ?_, by omega, h0⟩, h2⟩
  have := of_decide_eq_true (h1 t.2 (List.mem_map.2 ⟨t, ht, rfl⟩))
  omega

/-- Two forms in boxes of a law's own, and values. -/
structure LV (w W : World) (x0 : Option Addr) (n0 c0 : Nat) (s0 : ByteArray) (l0 : List Tm) (x1 : Option Addr) (n1 c1 : Nat) (s1 : ByteArray) (l1 : List Tm) (x2 : Option Addr) (n2 c2 : Nat) (ss : List ByteArray) : Prop where
  a : Bx W w.heap.size (.slice x0 n0 c0) (.string s0)
  b : Bx W (w.heap.size + 1) (.slice x1 n1 c1) (.string s1)
  fa : TsAt W (.slice x0 n0 c0) l0
  fb : TsAt W (.slice x1 n1 c1) l1
  vs : SsAt W (.slice x2 n2 c2) ss
  tab : Tab W
  ers : Ers W
  below : Below w.heap.size w W
theorem LV.keep {w W W' : World} {x0 : Option Addr} {n0 c0 : Nat} {s0 : ByteArray} {l0 : List Tm} {x1 : Option Addr} {n1 c1 : Nat} {s1 : ByteArray} {l1 : List Tm} {x2 : Option Addr} {n2 c2 : Nat} {ss : List ByteArray}
    (h : LV w W x0 n0 c0 s0 l0 x1 n1 c1 s1 l1 x2 n2 c2 ss) (hb : Below W.heap.size W W') : LV w W' x0 n0 c0 s0 l0 x1 n1 c1 s1 l1 x2 n2 c2 ss :=
  ⟨h.a.below hb h.a.lt, h.b.below hb h.b.lt, h.fa.keep hb (Nat.le_refl _), h.fb.keep hb (Nat.le_refl _), h.vs.keep hb (Nat.le_refl _), tab_keep h.tab hb, h.ers.keep hb (Nat.le_refl _), h.below.trans (hb.mono h.below.size)⟩
theorem LV.start (w : World) {x0 : Option Addr} {n0 c0 : Nat} {s0 : ByteArray} {l0 : List Tm} {x1 : Option Addr} {n1 c1 : Nat} {s1 : ByteArray} {l1 : List Tm} {x2 : Option Addr} {n2 c2 : Nat} {ss : List ByteArray}
    (ha : TsAt w (.slice x0 n0 c0) l0) (hb : TsAt w (.slice x1 n1 c1) l1) (hv : SsAt w (.slice x2 n2 c2) ss) (ht : Tab w) (he : Ers w) :
    LV w ((w.alloc (.cells #[.slice x0 n0 c0, .string s0] 24)).alloc (.cells #[.slice x1 n1 c1, .string s1] 24)) x0 n0 c0 s0 l0 x1 n1 c1 s1 l1 x2 n2 c2 ss := by
  have hA := (Below.refl w.heap.size w).alloc (Nat.le_refl _) (.cells #[.slice x0 n0 c0, .string s0] 24)
  have hA2 := hA.alloc (by simp) (.cells #[.slice x1 n1 c1, .string s1] 24)
  have hn := Bx.new (w.alloc (.cells #[.slice x0 n0 c0, .string s0] 24)) (.slice x1 n1 c1) (.string s1) 24
  simp only [World.size_alloc] at hn
  exact ⟨(Bx.new w (.slice x0 n0 c0) (.string s0) 24).alloc _, hn, ha.keep hA2 (Nat.le_refl _), hb.keep hA2 (Nat.le_refl _), hv.keep hA2 (Nat.le_refl _), tab_keep ht hA2, he.keep hA2 (Nat.le_refl _), hA2⟩
/-- A form stored in a box of its own. -/
theorem stored (W : World) (u v : Value) (T : TypeId) : Below W.heap.size W (((W.alloc (.cells #[.slice none 0 0, .string ⟨#[]⟩] T)).setCell ⟨W.heap.size, 0, none⟩ u).setCell ⟨W.heap.size, 1, none⟩ v) :=
  (((Below.refl _ W).alloc (Nat.le_refl _) _).setCell (Nat.le_refl _) _).setCell (Nat.le_refl _) _

end Go.Proofs.YtmdppblhbmbakaaGreatDoor
set_option linter.unusedVariables false
set_option linter.unusedSimpArgs false
namespace Go.Proofs.YtmdppblhbmbakaaGreatDoor
open Go.RowKit Go.Maps _root_.Go.Proofs.YtmdppblhbmbakaaGreatDoor.Nm

theorem FormRes.inv {g : Int → Rat} {c : ByteArray} {w w' : World} {e : Ending} (h : FormRes (some g) c w e w') {qc : Rat} (hc : txt qc = c) (hs : rshort qc = true) (hg : Good g) (hl : (formOf g).length ≤ 500) :
    ∃ ad n cap, e = .returned (.tuple #[.agg #[.slice ad n cap, .string c], .int .i64 0]) ∧ InV w' ad n cap qc c (formOf g) ∧ Below w.heap.size w w' := by
  obtain ⟨hb, ad, n, cap, he, hts, a, ha, hl2⟩ := h
  refine ⟨ad, n, cap, he, ⟨⟨hts, by rw [← hc]; have := txt_small hs; omega, fun t ht => ?_, by simpa [tms] using hl, fun h => by rw [ha] at h; cases h⟩, hc, hs, formOf_fo hg⟩, hb⟩
  obtain ⟨p, hp, rfl⟩ := List.mem_map.1 ht
  have := txt_small ((formOf_fo hg).1 p hp).2.1
  dsimp only; omega

set_option maxRecDepth 100000 in
set_option maxHeartbeats 6400000 in
theorem lawake_any (w : World) (htab : Tab w) (he : Ers w) : Calls Tryz.prog 11 #[] w fun e w' => e = .returned (.bool true) ∧ Below w.heap.size w w' := by
  obtain ⟨g1, hg1, hf1⟩ := Option.map_eq_some_iff.1 ex_of
  obtain ⟨g2, hg2, hf2⟩ := Option.map_eq_some_iff.1 ex_put
  have hG1 : Good g1 := acc_good _ _ _ good_zero (fun p hp => (ex_fo1 p hp).1) hg1
  have hG2 : Good g2 := (putRes_some ex_fo2 ex_fob hg2).2.2
  have hA := (Below.refl w.heap.size w).alloc (Nat.le_refl _) (.cells #[.int .i64 3, .string ⟨#[50]⟩, .int .i64 0, .string ⟨#[45, 49, 47, 50]⟩, .int .i64 3, .string ⟨#[49]⟩, .int .i64 1, .string ⟨#[49]⟩, .int .i64 1, .string ⟨#[45, 49]⟩] 68)
  have hts0 : TsAt (w.alloc (.cells #[.int .i64 3, .string ⟨#[50]⟩, .int .i64 0, .string ⟨#[45, 49, 47, 50]⟩, .int .i64 3, .string ⟨#[49]⟩, .int .i64 1, .string ⟨#[49]⟩, .int .i64 1, .string ⟨#[45, 49]⟩] 68)) (.slice (some ⟨w.heap.size, 0, none⟩) 5 5) (tms exq1) := by
    rw [ex_tms1]
    exact TsAt.lit w _ _ 68 5 rfl rfl
  have hO := Of_any 5 _ 5 5 exq1 _ hts0 ex_short5 ex_fo1 (by decide) (tab_keep htab hA)
  rw [ex_five, hg1] at hO
  have HO := Lib.hid hO
  have HT := Lib.hid htab
  have HE := Lib.hid he
  have HW0 := Lib.hid hA
  have HG := Lib.hid (And.intro hG1 (And.intro hG2 (And.intro hf1 (And.intro hf2 hg2))))
  clear hO hts0 hA htab he hG1 hG2 hf1 hf2 hg1 hg2
  go_enter Tryz.func11, Tryz.ntmps11
  go_wp2_with fail
  refine HO.out.mono ?_
  rintro e w1 h
  obtain ⟨ad, n, cap, rfl, hv, hb⟩ := h.inv ex_five ex_short5 HG.out.1 (by rw [HG.out.2.2.1]; decide)
  rw [HG.out.2.2.1] at hv
  have hC : Below w1.heap.size w1 (w1.alloc (.cells #[.slice ad n cap, .string ⟨#[53]⟩] 24)) := (Below.refl _ w1).alloc (Nat.le_refl _) _
  have HV1 := Lib.hid (hv.keep hC (Nat.le_refl _))
  have HB1 := Lib.hid (Bx.new w1 (.slice ad n cap) (.string ⟨#[53]⟩) 24)
  have HW1 := Lib.hid (HW0.out.trans ((hb.trans (hC.mono hb.size)).mono HW0.out.size))
  clear h hv hb hC
  obtain ⟨a0, a1, a2, a3⟩ := HB1.out.cell
  go_wp2_with fail
  refine (Text_good 5 _ ad n cap exq2 ⟨#[45, 49, 47, 50, 32, 120, 48, 32, 43, 32, 51, 32, 120, 51, 32, 43, 32, 53]⟩ 0 _ HV1.out (tab_keep HT.out HW1.out) (Lib.hid (by rw [ex_text1]; exact ⟨rfl, rfl⟩))).mono ?_
  rintro e w2 ⟨rfl, hb⟩
  have HV2 := Lib.hid (HV1.out.keep hb (Nat.le_refl _))
  have HB2 := Lib.hid (HB1.out.below hb HB1.out.lt)
  have HW2 := Lib.hid (HW1.out.trans (hb.mono HW1.out.size))
  clear hb a0 a1 a2 a3
  obtain ⟨a0, a1, a2, a3⟩ := HB2.out.cell
  have hC : Below w2.heap.size w2 (w2.alloc (.cells #[.string ⟨#[52]⟩, .string ⟨#[57]⟩, .string ⟨#[57]⟩, .string ⟨#[49]⟩] 9)) := (Below.refl _ w2).alloc (Nat.le_refl _) _
  have hss : SsAt (w2.alloc (.cells #[.string ⟨#[52]⟩, .string ⟨#[57]⟩, .string ⟨#[57]⟩, .string ⟨#[49]⟩] 9)) (.slice (some ⟨w2.heap.size, 0, none⟩) 4 4) (valsQ exv) := by
    rw [ex_vals]
    exact SsAt.lit w2 _ _ 9 4 rfl rfl
  have HSS := Lib.hid hss
  have HV3 := Lib.hid (HV2.out.keep hC (Nat.le_refl _))
  have HB3 := Lib.hid (HB2.out.below hC HB2.out.lt)
  have HW3 := Lib.hid (HW2.out.trans (hC.mono HW2.out.size))
  clear hss hC
  go_wp2_with fail
  have hEv := Eval_loop 5 exq2 exv ad (some ⟨w2.heap.size, 0, none⟩) n cap 4 4 ⟨#[54]⟩ 0 _ HV3.out.in_.at_ HSS.out ex_fo2 ex_short5 ex_shortv (by decide) (by decide) (tab_keep HT.out HW3.out) (Lib.hid ex_eval)
  rw [ex_five] at hEv
  refine hEv.mono ?_
  rintro e w3 ⟨rfl, hb⟩
  have HV4 := Lib.hid (HV3.out.keep hb (Nat.le_refl _))
  have HB4 := Lib.hid (HB3.out.below hb HB3.out.lt)
  have HW4 := Lib.hid (HW3.out.trans (hb.mono HW3.out.size))
  clear hb a0 a1 a2 a3 hEv
  go_wp2_with fail
  refine (Parse_good ⟨#[120, 49, 32, 43, 32, 50]⟩ ⟨#[50]⟩ 2 exb _ ex_parse ex_two ex_in (by decide) (tab_keep HT.out HW4.out) (HE.out.keep HW4.out (Nat.le_refl _))).mono ?_
  rintro e w4 ⟨⟨ad2, n2, cap2, rfl, hv2⟩, hb⟩
  have hC : Below w4.heap.size w4 (w4.alloc (.cells #[.slice ad2 n2 cap2, .string ⟨#[50]⟩] 24)) := (Below.refl _ w4).alloc (Nat.le_refl _) _
  have HV5 := Lib.hid ((HV4.out.keep hb (Nat.le_refl _)).keep hC (Nat.le_refl _))
  have HB5 := Lib.hid ((HB4.out.below hb HB4.out.lt).below hC (HB4.out.below hb HB4.out.lt).lt)
  have HU5 := Lib.hid (hv2.keep hC (Nat.le_refl _))
  have HC5 := Lib.hid (Bx.new w4 (.slice ad2 n2 cap2) (.string ⟨#[50]⟩) 24)
  have HW5 := Lib.hid (HW4.out.trans ((hb.trans (hC.mono hb.size)).mono HW4.out.size))
  clear hb hC hv2
  obtain ⟨a0, a1, a2, a3⟩ := HB5.out.cell
  obtain ⟨b0, b1, b2, b3⟩ := HC5.out.cell
  go_wp2_with fail
  refine (Put_good 5 2 _ _ ad ad2 n cap n2 cap2 exq2 exb 3 _ HV5.out HU5.out (by unfold ColIn; decide) (tab_keep HT.out HW5.out)).mono ?_
  rintro e w5 h
  rw [HG.out.2.2.2.2, ex_const] at h
  obtain ⟨ad3, n3, cap3, rfl, hv3, hb⟩ := h.inv (qc := 11) rfl ex_short11 HG.out.2.1 (by rw [HG.out.2.2.2.1]; decide)
  rw [HG.out.2.2.2.1, ex_eleven] at hv3
  rw [ex_eleven]
  have hC : Below w5.heap.size w5 (w5.alloc (.cells #[.slice ad3 n3 cap3, .string ⟨#[49, 49]⟩] 24)) := (Below.refl _ w5).alloc (Nat.le_refl _) _
  have HV6 := Lib.hid (hv3.keep hC (Nat.le_refl _))
  have HB6 := Lib.hid (Bx.new w5 (.slice ad3 n3 cap3) (.string ⟨#[49, 49]⟩) 24)
  have HW6 := Lib.hid (HW5.out.trans ((hb.trans (hC.mono hb.size)).mono HW5.out.size))
  clear hb hC hv3 h a0 a1 a2 a3 b0 b1 b2 b3
  obtain ⟨a0, a1, a2, a3⟩ := HB6.out.cell
  go_wp2_with fail
  refine (Text_good 11 _ ad3 n3 cap3 exq3 ⟨#[45, 49, 47, 50, 32, 120, 48, 32, 43, 32, 51, 32, 120, 49, 32, 43, 32, 49, 49]⟩ 0 _ HV6.out (tab_keep HT.out HW6.out) (Lib.hid (by rw [ex_text2]; exact ⟨rfl, rfl⟩))).mono ?_
  rintro e w6 ⟨rfl, hb⟩
  have HW7 := Lib.hid (HW6.out.trans (hb.mono HW6.out.size))
  clear hb a0 a1 a2 a3
  go_wp2
  go_ret
  exact ⟨rfl, HW7.out⟩

end Go.Proofs.YtmdppblhbmbakaaGreatDoor
