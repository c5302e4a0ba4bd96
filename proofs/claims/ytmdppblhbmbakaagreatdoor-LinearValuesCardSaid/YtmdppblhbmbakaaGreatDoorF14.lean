/- What Add, Scale and Coef do. What Put does. -/
import Derived.Test.YtmdppblhbmbakaaGreatDoorF12
import Derived.Test.YtmdppblhbmbakaaGreatDoorF10
import Derived.Deep.Cut
set_option linter.unusedVariables false
set_option linter.unusedSimpArgs false
namespace Go.Proofs.YtmdppblhbmbakaaGreatDoor
open Go.RowKit Go.Maps _root_.Go.Proofs.YtmdppblhbmbakaaGreatDoor.Nm

/-- A form that a call is handed. -/
structure InF (w : World) (ad : Option Addr) (n cap : Nat) (x : ByteArray) (l : List Tm) : Prop where
  at_ : TsAt w (.slice ad n cap) l
  size : x.size ≤ 100000
  sizes : ∀ t ∈ l, t.2.size ≤ 100000
  len : l.length ≤ 500
  none : ad = .none → cap = 0
theorem InF.keep {w w' : World} {ad : Option Addr} {n cap B : Nat} {x : ByteArray} {l : List Tm} (h : InF w ad n cap x l) (hb : Below B w w') (hB : w.heap.size ≤ B) : InF w' ad n cap x l := ⟨h.at_.keep hb hB, h.size, h.sizes, h.len, h.none⟩
theorem InF.alloc {w : World} {ad : Option Addr} {n cap : Nat} {x : ByteArray} {l : List Tm} (h : InF w ad n cap x l) (o : Obj) : InF (w.alloc o) ad n cap x l := h.keep ((Below.refl _ _).alloc (Nat.le_refl _) o) (Nat.le_refl _)

/-- An error and the form without terms and constant. -/
def FormErr (k : Int) (w : World) (e : Ending) (w' : World) : Prop := Below w.heap.size w w' ∧ e = .returned (.tuple #[.agg #[.slice none 0 0, .string ⟨#[]⟩], .int .i64 k])

set_option maxRecDepth 100000 in
set_option maxHeartbeats 3200000 in
theorem Add_bad (x1 x2 : ByteArray) (ad1 ad2 : Option Addr) (n1 c1 n2 c2 : Nat) (l1 l2 : List Tm) (w : World) (h1 : InF w ad1 n1 c1 x1 l1) (h2 : InF w ad2 n2 c2 x2 l2) (hbad : checkErr x1 l1 ≠ 0 ∨ checkErr x2 l2 ≠ 0) :
    Calls Tryz.prog 13 #[.agg #[.slice ad1 n1 c1, .string x1], .agg #[.slice ad2 n2 c2, .string x2]] w (FormErr 3 w) := by
  have hA := (Below.refl w.heap.size w).alloc (Nat.le_refl _) (.cells #[.slice ad1 n1 c1, .string x1] 24)
  have hA2 := hA.alloc (by simp) (.cells #[.slice ad2 n2 c2, .string x2] 24)
  have hA3 := hA2.alloc (by simp; omega) (.cells #[.slice none 0 0, .string ⟨#[]⟩] 24)
  have HV1 := Lib.hid (h1.keep hA3 (Nat.le_refl _))
  have HV2 := Lib.hid (h2.keep hA3 (Nat.le_refl _))
  have HB1 := Lib.hid (((Bx.new w (.slice ad1 n1 c1) (.string x1) 24).alloc (.cells #[.slice ad2 n2 c2, .string x2] 24)).alloc (.cells #[.slice none 0 0, .string ⟨#[]⟩] 24))
  have hb2 := (Bx.new (w.alloc (.cells #[.slice ad1 n1 c1, .string x1] 24)) (.slice ad2 n2 c2) (.string x2) 24).alloc (.cells #[.slice none 0 0, .string ⟨#[]⟩] 24)
  have hb3 := Bx.new ((w.alloc (.cells #[.slice ad1 n1 c1, .string x1] 24)).alloc (.cells #[.slice ad2 n2 c2, .string x2] 24)) (.slice none 0 0) (.string ⟨#[]⟩) 24
  rw [World.size_alloc] at hb2
  rw [World.size_alloc, World.size_alloc] at hb3
  have HB2 := Lib.hid hb2
  have HB3 := Lib.hid hb3
  have HW := Lib.hid hA3
  obtain ⟨r1, hr1⟩ : ∃ r, checkErr x1 l1 = r := ⟨_, rfl⟩
  obtain ⟨r2, hr2⟩ : ∃ r, checkErr x2 l2 = r := ⟨_, rfl⟩
  rw [hr1, hr2] at hbad
  have HR1 := Lib.hid hr1
  have HR2 := Lib.hid hr2
  clear hA hA2 hA3 hb2 hb3 h1 h2 hr1 hr2
  obtain ⟨a0, a1, a2, a3⟩ := HB1.out.cell
  go_enter Tryz.func13, Tryz.ntmps13
  by_cases hz1 : r1 = 0
  · have hz2 : r2 ≠ 0 := hbad.resolve_left (fun h => h hz1)
    have hg1 : (r1 != 0) = false := by simp [hz1]
    have hg2 : (r2 != 0) = true := by simpa using hz2
    clear hbad hz2 hz1
    go_wp2_with fail
    refine (Check_any x1 ad1 n1 c1 l1 r1 _ HV1.out.at_ HV1.out.size HV1.out.sizes (by have := HV1.out.len; omega) HR1).mono ?_
    rintro e w1 ⟨rfl, hb⟩
    have HW1 := Lib.hid (HW.out.trans (hb.mono HW.out.size))
    have HVb := Lib.hid (HV2.out.keep hb (Nat.le_refl _))
    have HBb := Lib.hid (HB2.out.below hb HB2.out.lt)
    have HBc := Lib.hid (HB3.out.below hb HB3.out.lt)
    clear hb a0 a1 a2 a3
    obtain ⟨a0, a1, a2, a3⟩ := HBb.out.cell
    go_wp2_with fail
    refine (Check_any x2 ad2 n2 c2 l2 r2 _ HVb.out.at_ HVb.out.size HVb.out.sizes (by have := HVb.out.len; omega) HR2).mono ?_
    rintro e w2 ⟨rfl, hb⟩
    have HW2 := Lib.hid (HW1.out.trans (hb.mono HW1.out.size))
    have HBd := Lib.hid (HBc.out.below hb HBc.out.lt)
    clear hb a0 a1 a2 a3
    obtain ⟨b0, b1, b2, b3⟩ := HBd.out.cell
    go_wp2
    obtain ⟨d0, d1, d2, d3⟩ := ((Bx.put HBd.out (.slice none 0 0) (.string ⟨#[]⟩))).cell
    refine bodyPost_ret (v := .tuple #[.agg #[.slice none 0 0, .string ⟨#[]⟩], .int .i64 3]) (by simp only [results, Tryz.results13]; simp [go_sem, d0, d1]) rfl ?_
    exact ⟨(HW2.out.setCell (by dsimp only; omega) _).setCell (by dsimp only; omega) _, rfl⟩
  · have hg1 : (r1 != 0) = true := by simpa using hz1
    clear hbad hz1
    go_wp2_with fail
    refine (Check_any x1 ad1 n1 c1 l1 r1 _ HV1.out.at_ HV1.out.size HV1.out.sizes (by have := HV1.out.len; omega) HR1).mono ?_
    rintro e w1 ⟨rfl, hb⟩
    have HW1 := Lib.hid (HW.out.trans (hb.mono HW.out.size))
    have HBc := Lib.hid (HB3.out.below hb HB3.out.lt)
    clear hb a0 a1 a2 a3
    obtain ⟨b0, b1, b2, b3⟩ := HBc.out.cell
    go_wp2
    obtain ⟨d0, d1, d2, d3⟩ := ((Bx.put HBc.out (.slice none 0 0) (.string ⟨#[]⟩))).cell
    refine bodyPost_ret (v := .tuple #[.agg #[.slice none 0 0, .string ⟨#[]⟩], .int .i64 3]) (by simp only [results, Tryz.results13]; simp [go_sem, d0, d1]) rfl ?_
    exact ⟨(HW1.out.setCell (by dsimp only; omega) _).setCell (by dsimp only; omega) _, rfl⟩

/-- A valid form that a call is handed. -/
structure InV (w : World) (ad : Option Addr) (n cap : Nat) (qc : Rat) (x : ByteArray) (q : List Qm) : Prop where
  in_ : InF w ad n cap x (tms q)
  is_ : txt qc = x
  short : rshort qc = true
  fo : Fo q
theorem InV.keep {w w' : World} {ad : Option Addr} {n cap B : Nat} {qc : Rat} {x : ByteArray} {q : List Qm} (h : InV w ad n cap qc x q) (hb : Below B w w') (hB : w.heap.size ≤ B) : InV w' ad n cap qc x q := ⟨h.in_.keep hb hB, h.is_, h.short, h.fo⟩
theorem InV.ok {w : World} {ad : Option Addr} {n cap : Nat} {qc : Rat} {x : ByteArray} {q : List Qm} (h : InV w ad n cap qc x q) : checkErr x (tms q) = 0 := by rw [← h.is_]; exact checkErr_fo h.short h.fo
theorem InV.len {w : World} {ad : Option Addr} {n cap : Nat} {qc : Rat} {x : ByteArray} {q : List Qm} (h : InV w ad n cap qc x q) : q.length ≤ 500 := by have := h.in_.len; simpa [tms] using this
theorem InV.terms {w : World} {ad : Option Addr} {n cap : Nat} {qc : Rat} {x : ByteArray} {q : List Qm} (h : InV w ad n cap qc x q) : ∀ p ∈ q, ColIn p.1 ∧ rshort p.2 = true := fun p hp => ⟨(h.fo.1 p hp).1, (h.fo.1 p hp).2.1⟩
/-- A form is valid or not. -/
theorem InF.valid {w : World} {ad : Option Addr} {n cap : Nat} {x : ByteArray} {l : List Tm} (h : InF w ad n cap x l) (h0 : checkErr x l = 0) : ∃ qc q, l = tms q ∧ InV w ad n cap qc x q := by
  obtain ⟨qc, q, e1, e2, e3, e4⟩ := checkErr_zero h0
  subst e3
  exact ⟨qc, q, rfl, h, e1.symm, e2, e4⟩

set_option maxRecDepth 100000 in
set_option maxHeartbeats 3200000 in
theorem Add_good (p1 p2 : Rat) (x1 x2 : ByteArray) (ad1 ad2 : Option Addr) (n1 c1 n2 c2 : Nat) (q1 q2 : List Qm) (w : World) (h1 : InV w ad1 n1 c1 p1 x1 q1) (h2 : InV w ad2 n2 c2 p2 x2 q2) (htab : Tab w) :
    Calls Tryz.prog 13 #[.agg #[.slice ad1 n1 c1, .string x1], .agg #[.slice ad2 n2 c2, .string x2]] w (FormRes (sumRes p1 p2 q1 q2) (txt (p1 + p2)) w) := by
  obtain ⟨o, ho⟩ : ∃ o, sumRes p1 p2 q1 q2 = o := ⟨_, rfl⟩
  obtain ⟨xc, hxc⟩ : ∃ xc, txt (p1 + p2) = xc := ⟨_, rfl⟩
  rw [ho, hxc]
  have hA := (Below.refl w.heap.size w).alloc (Nat.le_refl _) (.cells #[.slice ad1 n1 c1, .string x1] 24)
  have hA2 := hA.alloc (by simp) (.cells #[.slice ad2 n2 c2, .string x2] 24)
  have hA3 := hA2.alloc (by simp; omega) (.cells #[.slice none 0 0, .string ⟨#[]⟩] 24)
  have HV1 := Lib.hid (h1.keep hA3 (Nat.le_refl _))
  have HV2 := Lib.hid (h2.keep hA3 (Nat.le_refl _))
  have HB1 := Lib.hid (((Bx.new w (.slice ad1 n1 c1) (.string x1) 24).alloc (.cells #[.slice ad2 n2 c2, .string x2] 24)).alloc (.cells #[.slice none 0 0, .string ⟨#[]⟩] 24))
  have hb2 := (Bx.new (w.alloc (.cells #[.slice ad1 n1 c1, .string x1] 24)) (.slice ad2 n2 c2) (.string x2) 24).alloc (.cells #[.slice none 0 0, .string ⟨#[]⟩] 24)
  have hb3 := Bx.new ((w.alloc (.cells #[.slice ad1 n1 c1, .string x1] 24)).alloc (.cells #[.slice ad2 n2 c2, .string x2] 24)) (.slice none 0 0) (.string ⟨#[]⟩) 24
  rw [World.size_alloc] at hb2
  rw [World.size_alloc, World.size_alloc] at hb3
  have HB2 := Lib.hid hb2
  have HB3 := Lib.hid hb3
  have HW := Lib.hid hA3
  have HT := Lib.hid htab
  have HO := Lib.hid ho
  have HXC := Lib.hid hxc
  clear hA hA2 hA3 hb2 hb3 h1 h2 htab ho hxc
  obtain ⟨a0, a1, a2, a3⟩ := HB1.out.cell
  go_enter Tryz.func13, Tryz.ntmps13
  go_wp2_with fail
  refine (Check_any x1 ad1 n1 c1 (tms q1) 0 _ HV1.out.in_.at_ HV1.out.in_.size HV1.out.in_.sizes (by have := HV1.out.in_.len; omega) (Lib.hid HV1.out.ok)).mono ?_
  rintro e w1 ⟨rfl, hb⟩
  have HW1 := Lib.hid (HW.out.trans (hb.mono HW.out.size))
  have HVa := Lib.hid (HV1.out.keep hb (Nat.le_refl _))
  have HVb := Lib.hid (HV2.out.keep hb (Nat.le_refl _))
  have HBa := Lib.hid (HB1.out.below hb HB1.out.lt)
  have HBb := Lib.hid (HB2.out.below hb HB2.out.lt)
  have HBc := Lib.hid (HB3.out.below hb HB3.out.lt)
  clear hb a0 a1 a2 a3
  obtain ⟨a0, a1, a2, a3⟩ := HBb.out.cell
  go_wp2_with fail
  refine (Check_any x2 ad2 n2 c2 (tms q2) 0 _ HVb.out.in_.at_ HVb.out.in_.size HVb.out.in_.sizes (by have := HVb.out.in_.len; omega) (Lib.hid HVb.out.ok)).mono ?_
  rintro e w2 ⟨rfl, hb⟩
  have HW2 := Lib.hid (HW1.out.trans (hb.mono HW1.out.size))
  have HVc := Lib.hid (HVa.out.keep hb (Nat.le_refl _))
  have HVd := Lib.hid (HVb.out.keep hb (Nat.le_refl _))
  have HBd := Lib.hid (HBa.out.below hb HBa.out.lt)
  have HBe := Lib.hid (HBb.out.below hb HBb.out.lt)
  have HBf := Lib.hid (HBc.out.below hb HBc.out.lt)
  clear hb a0 a1 a2 a3
  obtain ⟨a0, a1, a2, a3⟩ := HBd.out.cell
  obtain ⟨b0, b1, b2, b3⟩ := HBe.out.cell
  go_wp2_with fail
  refine (fsum_any p1 p2 x1 x2 ad1 ad2 n1 c1 n2 c2 q1 q2 o _ (Lib.hid HVc.out.is_) (Lib.hid HVd.out.is_) HVc.out.short HVd.out.short HVc.out.in_.at_ HVd.out.in_.at_ HVc.out.terms HVd.out.terms HVc.out.len HVd.out.len HVc.out.in_.none HVd.out.in_.none (tab_keep HT.out HW2.out) HO).mono ?_
  intro e w3 h
  rw [HXC.out] at h
  obtain ⟨ad2, n2, cap2, s2, e2, rfl⟩ := h.form
  have HR := Lib.hid (FormRes.boxedAt (g := w.heap.size + 1 + 1) HW2.out (by omega) HBf.out.lt h)
  have HB6 := Lib.hid (HBf.out.below h.1 HBf.out.lt)
  clear h a0 a1 a2 a3 b0 b1 b2 b3
  obtain ⟨b0, b1, b2, b3⟩ := HB6.out.cell
  go_wp2
  obtain ⟨d0, d1, d2, d3⟩ := ((Bx.put HB6.out (.slice ad2 n2 cap2) (.string s2))).cell
  refine bodyPost_ret (v := .tuple #[.agg #[.slice ad2 n2 cap2, .string s2], .int .i64 e2]) (by simp only [results, Tryz.results13]; simp [go_sem, d0, d1]) rfl ?_
  exact HR.out

set_option maxRecDepth 100000 in
set_option maxHeartbeats 3200000 in
theorem Coef_any (x : ByteArray) (ad : Option Addr) (n cap : Nat) (l : List Tm) (c : Int) (s : ByteArray) (w : World) (h : InF w ad n cap x l) (hbad : checkErr x l ≠ 0) (hs : s = ⟨#[48]⟩) :
    Calls Tryz.prog 21 #[.agg #[.slice ad n cap, .string x], .int .i64 c] w fun e w' => e = .returned (.string s) ∧ Below w.heap.size w w' := by
  subst hs
  have hA := (Below.refl w.heap.size w).alloc (Nat.le_refl _) (.cells #[.slice ad n cap, .string x] 24)
  have HV1 := Lib.hid (h.keep hA (Nat.le_refl _))
  have HB1 := Lib.hid (Bx.new w (.slice ad n cap) (.string x) 24)
  have HW := Lib.hid hA
  obtain ⟨r1, hr1⟩ : ∃ r, checkErr x l = r := ⟨_, rfl⟩
  rw [hr1] at hbad
  have HR1 := Lib.hid hr1
  have hg1 : (r1 != 0) = true := by simpa using hbad
  clear hA h hr1 hbad
  obtain ⟨a0, a1, a2, a3⟩ := HB1.out.cell
  go_enter Tryz.func21, Tryz.ntmps21
  go_wp2_with fail
  refine (Check_any x ad n cap l r1 _ HV1.out.at_ HV1.out.size HV1.out.sizes (by have := HV1.out.len; omega) HR1).mono ?_
  rintro e w1 ⟨rfl, hb⟩
  have HW1 := Lib.hid (HW.out.trans (hb.mono HW.out.size))
  clear hb a0 a1 a2 a3
  go_wp2
  go_ret
  exact ⟨rfl, HW1.out⟩

set_option maxRecDepth 100000 in
set_option maxHeartbeats 3200000 in
theorem Coef_good (qc : Rat) (x : ByteArray) (ad : Option Addr) (n cap : Nat) (q : List Qm) (c : Int) (s : ByteArray) (w : World) (h : InV w ad n cap qc x q) (hs : Hid (txt (co q c) = s)) :
    Calls Tryz.prog 21 #[.agg #[.slice ad n cap, .string x], .int .i64 c] w fun e w' => e = .returned (.string s) ∧ Below w.heap.size w w' := by
  have hA := (Below.refl w.heap.size w).alloc (Nat.le_refl _) (.cells #[.slice ad n cap, .string x] 24)
  have HV1 := Lib.hid (h.keep hA (Nat.le_refl _))
  have HB1 := Lib.hid (Bx.new w (.slice ad n cap) (.string x) 24)
  have HW := Lib.hid hA
  clear hA h
  obtain ⟨a0, a1, a2, a3⟩ := HB1.out.cell
  go_enter Tryz.func21, Tryz.ntmps21
  go_wp2_with fail
  refine (Check_any x ad n cap (tms q) 0 _ HV1.out.in_.at_ HV1.out.in_.size HV1.out.in_.sizes (by have := HV1.out.in_.len; omega) (Lib.hid HV1.out.ok)).mono ?_
  rintro e w1 ⟨rfl, hb⟩
  have HW1 := Lib.hid (HW.out.trans (hb.mono HW.out.size))
  have HV2 := Lib.hid (HV1.out.keep hb (Nat.le_refl _))
  have HB2 := Lib.hid (HB1.out.below hb HB1.out.lt)
  clear hb a0 a1 a2 a3
  obtain ⟨a0, a1, a2, a3⟩ := HB2.out.cell
  go_wp2_with fail
  refine (coefOf_any ad n cap q x c s _ HV2.out.in_.at_ HV2.out.fo.2 (by have := HV2.out.len; omega) hs).mono ?_
  rintro e w2 ⟨rfl, hb⟩
  have HW2 := Lib.hid (HW1.out.trans (hb.mono HW1.out.size))
  clear hb
  go_wp2
  go_ret
  exact ⟨rfl, HW2.out⟩

set_option maxRecDepth 100000 in
set_option maxHeartbeats 3200000 in
theorem Scale_good (qc r : Rat) (x y : ByteArray) (ad : Option Addr) (n cap : Nat) (q : List Qm) (w : World) (h : InV w ad n cap qc x q) (hr : rshort r = true) (hy : txt r = y) (htab : Tab w) :
    Calls Tryz.prog 17 #[.agg #[.slice ad n cap, .string x], .string y] w (FormRes (sclRes qc r q) (txt (qc * r)) w) := by
  obtain ⟨o, ho⟩ : ∃ o, sclRes qc r q = o := ⟨_, rfl⟩
  obtain ⟨xc, hxc⟩ : ∃ xc, txt (qc * r) = xc := ⟨_, rfl⟩
  rw [ho, hxc]
  have hA := (Below.refl w.heap.size w).alloc (Nat.le_refl _) (.cells #[.slice ad n cap, .string x] 24)
  have hA2 := hA.alloc (by simp) (.cells #[.slice none 0 0, .string ⟨#[]⟩] 24)
  have HV1 := Lib.hid (h.keep hA2 (Nat.le_refl _))
  have HB1 := Lib.hid ((Bx.new w (.slice ad n cap) (.string x) 24).alloc (.cells #[.slice none 0 0, .string ⟨#[]⟩] 24))
  have hb3 := Bx.new (w.alloc (.cells #[.slice ad n cap, .string x] 24)) (.slice none 0 0) (.string ⟨#[]⟩) 24
  rw [World.size_alloc] at hb3
  have HB3 := Lib.hid hb3
  have HW := Lib.hid hA2
  have HT := Lib.hid htab
  have HO := Lib.hid ho
  have HXC := Lib.hid hxc
  have HRS := Lib.hid (And.intro hr hy)
  have hys : y.size ≤ 100000 := by rw [← hy]; have := txt_size hr; omega
  have HVY : Hid ((rval y.data.toList).isSome = true) := Lib.hid (by rw [← hy, txt_val hr]; rfl)
  clear hA hA2 hb3 h htab ho hxc hr hy
  obtain ⟨a0, a1, a2, a3⟩ := HB1.out.cell
  go_enter Tryz.func17, Tryz.ntmps17
  go_wp2_with fail
  refine (Check_any x ad n cap (tms q) 0 _ HV1.out.in_.at_ HV1.out.in_.size HV1.out.in_.sizes (by have := HV1.out.in_.len; omega) (Lib.hid HV1.out.ok)).mono ?_
  rintro e w1 ⟨rfl, hb⟩
  have HW1 := Lib.hid (HW.out.trans (hb.mono HW.out.size))
  have HV2 := Lib.hid (HV1.out.keep hb (Nat.le_refl _))
  have HBa := Lib.hid (HB1.out.below hb HB1.out.lt)
  have HBc := Lib.hid (HB3.out.below hb HB3.out.lt)
  clear hb a0 a1 a2 a3
  go_wp2_with fail
  refine (qValid_any y true _ HVY hys).mono ?_
  rintro e w2 ⟨rfl, hb⟩
  have HW2 := Lib.hid (HW1.out.trans (hb.mono HW1.out.size))
  have HV3 := Lib.hid (HV2.out.keep hb (Nat.le_refl _))
  have HBb := Lib.hid (HBa.out.below hb HBa.out.lt)
  have HBd := Lib.hid (HBc.out.below hb HBc.out.lt)
  clear hb
  obtain ⟨a0, a1, a2, a3⟩ := HBb.out.cell
  go_wp2_with fail
  refine (scaled_any qc r x y ad n cap q o _ HV3.out.in_.at_ (Lib.hid HV3.out.is_) (Lib.hid HRS.out.2) HV3.out.short HRS.out.1 HV3.out.terms (by have := HV3.out.len; omega) (tab_keep HT.out HW2.out) HO).mono ?_
  intro e w3 h
  rw [HXC.out] at h
  obtain ⟨ad2, n2, cap2, s2, e2, rfl⟩ := h.form
  have HR := Lib.hid (FormRes.boxedAt (g := w.heap.size + 1) HW2.out (by omega) HBd.out.lt h)
  have HB6 := Lib.hid (HBd.out.below h.1 HBd.out.lt)
  clear h a0 a1 a2 a3
  obtain ⟨b0, b1, b2, b3⟩ := HB6.out.cell
  go_wp2
  obtain ⟨d0, d1, d2, d3⟩ := ((Bx.put HB6.out (.slice ad2 n2 cap2) (.string s2))).cell
  refine bodyPost_ret (v := .tuple #[.agg #[.slice ad2 n2 cap2, .string s2], .int .i64 e2]) (by simp only [results, Tryz.results17]; simp [go_sem, d0, d1]) rfl ?_
  exact HR.out

set_option maxRecDepth 100000 in
set_option maxHeartbeats 3200000 in
theorem Scale_bad (x y : ByteArray) (ad : Option Addr) (n cap : Nat) (l : List Tm) (w : World) (h : InF w ad n cap x l) (hys : y.size ≤ 100000) (hbad : checkErr x l ≠ 0 ∨ (rval y.data.toList).isSome = false) :
    Calls Tryz.prog 17 #[.agg #[.slice ad n cap, .string x], .string y] w (FormErr 3 w) := by
  have hA := (Below.refl w.heap.size w).alloc (Nat.le_refl _) (.cells #[.slice ad n cap, .string x] 24)
  have hA2 := hA.alloc (by simp) (.cells #[.slice none 0 0, .string ⟨#[]⟩] 24)
  have HV1 := Lib.hid (h.keep hA2 (Nat.le_refl _))
  have HB1 := Lib.hid ((Bx.new w (.slice ad n cap) (.string x) 24).alloc (.cells #[.slice none 0 0, .string ⟨#[]⟩] 24))
  have hb3 := Bx.new (w.alloc (.cells #[.slice ad n cap, .string x] 24)) (.slice none 0 0) (.string ⟨#[]⟩) 24
  rw [World.size_alloc] at hb3
  have HB3 := Lib.hid hb3
  have HW := Lib.hid hA2
  obtain ⟨r1, hr1⟩ : ∃ r, checkErr x l = r := ⟨_, rfl⟩
  rw [hr1] at hbad
  have HR1 := Lib.hid hr1
  clear hA hA2 hb3 h hr1
  obtain ⟨a0, a1, a2, a3⟩ := HB1.out.cell
  go_enter Tryz.func17, Tryz.ntmps17
  by_cases hz : r1 = 0
  · have hz2 : (rval y.data.toList).isSome = false := hbad.resolve_left (fun h => h hz)
    have hg1 : (r1 != 0) = false := by simp [hz]
    have HVY := Lib.hid hz2
    clear hbad hz hz2
    go_wp2_with fail
    refine (Check_any x ad n cap l r1 _ HV1.out.at_ HV1.out.size HV1.out.sizes (by have := HV1.out.len; omega) HR1).mono ?_
    rintro e w1 ⟨rfl, hb⟩
    have HW1 := Lib.hid (HW.out.trans (hb.mono HW.out.size))
    have HBc := Lib.hid (HB3.out.below hb HB3.out.lt)
    clear hb a0 a1 a2 a3
    go_wp2_with fail
    refine (qValid_any y false _ HVY hys).mono ?_
    rintro e w2 ⟨rfl, hb⟩
    have HW2 := Lib.hid (HW1.out.trans (hb.mono HW1.out.size))
    have HBd := Lib.hid (HBc.out.below hb HBc.out.lt)
    clear hb
    obtain ⟨b0, b1, b2, b3⟩ := HBd.out.cell
    go_wp2
    obtain ⟨d0, d1, d2, d3⟩ := ((Bx.put HBd.out (.slice none 0 0) (.string ⟨#[]⟩))).cell
    refine bodyPost_ret (v := .tuple #[.agg #[.slice none 0 0, .string ⟨#[]⟩], .int .i64 3]) (by simp only [results, Tryz.results17]; simp [go_sem, d0, d1]) rfl ?_
    exact ⟨(HW2.out.setCell (by dsimp only; omega) _).setCell (by dsimp only; omega) _, rfl⟩
  · have hg1 : (r1 != 0) = true := by simpa using hz
    clear hbad hz
    go_wp2_with fail
    refine (Check_any x ad n cap l r1 _ HV1.out.at_ HV1.out.size HV1.out.sizes (by have := HV1.out.len; omega) HR1).mono ?_
    rintro e w1 ⟨rfl, hb⟩
    have HW1 := Lib.hid (HW.out.trans (hb.mono HW.out.size))
    have HBc := Lib.hid (HB3.out.below hb HB3.out.lt)
    clear hb a0 a1 a2 a3
    obtain ⟨b0, b1, b2, b3⟩ := HBc.out.cell
    go_wp2
    obtain ⟨d0, d1, d2, d3⟩ := ((Bx.put HBc.out (.slice none 0 0) (.string ⟨#[]⟩))).cell
    refine bodyPost_ret (v := .tuple #[.agg #[.slice none 0 0, .string ⟨#[]⟩], .int .i64 3]) (by simp only [results, Tryz.results17]; simp [go_sem, d0, d1]) rfl ?_
    exact ⟨(HW1.out.setCell (by dsimp only; omega) _).setCell (by dsimp only; omega) _, rfl⟩

end Go.Proofs.YtmdppblhbmbakaaGreatDoor
set_option linter.unusedVariables false
set_option linter.unusedSimpArgs false
namespace Go.Proofs.YtmdppblhbmbakaaGreatDoor
open Go.RowKit Go.Maps _root_.Go.Proofs.YtmdppblhbmbakaaGreatDoor.Nm

/-- Put's boxes: the form, the column, the other form, the result. -/
structure Pb (w W : World) (f1 f2 : Value) (c : Int) (g1 g2 : Value) : Prop where
  b0 : Bx W w.heap.size f1 f2
  b1 : W.cell? ⟨w.heap.size + 1, 0, none⟩ = some (.int .i64 c)
  b2 : Bx W (w.heap.size + 1 + 1) g1 g2
  b3 : Bx W (w.heap.size + 1 + 1 + 1) (.slice none 0 0) (.string ⟨#[]⟩)
  far : w.heap.size + 1 + 1 + 1 + 1 ≤ W.heap.size
  below : Below w.heap.size w W
theorem Pb.keep {w W W' : World} {f1 f2 g1 g2 : Value} {c : Int} (h : Pb w W f1 f2 c g1 g2) (hb : Below W.heap.size W W') : Pb w W' f1 f2 c g1 g2 :=
  ⟨h.b0.below hb h.b0.lt, (hb.cell (p := ⟨w.heap.size + 1, 0, none⟩) (by have := h.far; dsimp only; omega)).trans h.b1, h.b2.below hb h.b2.lt, h.b3.below hb h.b3.lt, Nat.le_trans h.far hb.size, h.below.trans (hb.mono h.below.size)⟩
theorem Pb.start (w : World) (f1 f2 g1 g2 : Value) (c : Int) (T1 T2 T3 T4 : TypeId) : Pb w ((((w.alloc (.cells #[f1, f2] T1)).alloc (.cells #[.int .i64 c] T2)).alloc (.cells #[g1, g2] T3)).alloc (.cells #[.slice none 0 0, .string ⟨#[]⟩] T4)) f1 f2 c g1 g2 := by
  have h2 := (Bx.new ((w.alloc (.cells #[f1, f2] T1)).alloc (.cells #[.int .i64 c] T2)) g1 g2 T3).alloc (.cells #[.slice none 0 0, .string ⟨#[]⟩] T4)
  have h3 := Bx.new (((w.alloc (.cells #[f1, f2] T1)).alloc (.cells #[.int .i64 c] T2)).alloc (.cells #[g1, g2] T3)) (.slice none 0 0) (.string ⟨#[]⟩) T4
  have h1 : ((w.alloc (.cells #[f1, f2] T1)).alloc (.cells #[.int .i64 c] T2)).cell? ⟨w.heap.size + 1, 0, none⟩ = some (.int .i64 c) := by
    have h := Bo.new (w.alloc (.cells #[f1, f2] T1)) (.int .i64 c) T2
    rw [World.size_alloc] at h
    exact h.cell.1
  simp only [World.size_alloc] at h2 h3
  refine ⟨(((Bx.new w f1 f2 T1).alloc _).alloc _).alloc _, fcell_alloc (fcell_alloc h1), h2, h3, by simp, ?_⟩
  exact ((((Below.refl w.heap.size w).alloc (Nat.le_refl _) _).alloc (by simp) _).alloc (by simp; omega) _).alloc (by simp; omega) _

set_option maxRecDepth 100000 in
set_option maxHeartbeats 3200000 in
theorem Put_bad (x1 x2 : ByteArray) (ad1 ad2 : Option Addr) (n1 c1 n2 c2 : Nat) (l1 l2 : List Tm) (c : Int) (w : World) (h1 : InF w ad1 n1 c1 x1 l1) (h2 : InF w ad2 n2 c2 x2 l2) (hbad : checkErr x1 l1 ≠ 0 ∨ checkErr x2 l2 ≠ 0) :
    Calls Tryz.prog 25 #[.agg #[.slice ad1 n1 c1, .string x1], .int .i64 c, .agg #[.slice ad2 n2 c2, .string x2]] w (FormErr 3 w) := by
  have HP := Lib.hid (Pb.start w (.slice ad1 n1 c1) (.string x1) (.slice ad2 n2 c2) (.string x2) c 24 3 24 24)
  have HV1 := Lib.hid (h1.keep HP.out.below (Nat.le_refl _))
  have HV2 := Lib.hid (h2.keep HP.out.below (Nat.le_refl _))
  obtain ⟨r1, hr1⟩ : ∃ r, checkErr x1 l1 = r := ⟨_, rfl⟩
  obtain ⟨r2, hr2⟩ : ∃ r, checkErr x2 l2 = r := ⟨_, rfl⟩
  rw [hr1, hr2] at hbad
  have HR1 := Lib.hid hr1
  have HR2 := Lib.hid hr2
  clear h1 h2 hr1 hr2
  obtain ⟨a0, a1, a2, a3⟩ := HP.out.b0.cell
  go_enter Tryz.func25, Tryz.ntmps25
  by_cases hz1 : r1 = 0
  · have hz2 : r2 ≠ 0 := hbad.resolve_left (fun h => h hz1)
    have hg1 : (r1 != 0) = false := by simp [hz1]
    have hg2 : (r2 != 0) = true := by simpa using hz2
    clear hbad hz2 hz1
    go_wp2_with fail
    refine (Check_any x1 ad1 n1 c1 l1 r1 _ HV1.out.at_ HV1.out.size HV1.out.sizes (by have := HV1.out.len; omega) HR1).mono ?_
    rintro e w1 ⟨rfl, hb⟩
    have HP1 := Lib.hid (HP.out.keep hb)
    have HVb := Lib.hid (HV2.out.keep hb (Nat.le_refl _))
    clear hb a0 a1 a2 a3
    obtain ⟨a0, a1, a2, a3⟩ := HP1.out.b2.cell
    go_wp2_with fail
    refine (Check_any x2 ad2 n2 c2 l2 r2 _ HVb.out.at_ HVb.out.size HVb.out.sizes (by have := HVb.out.len; omega) HR2).mono ?_
    rintro e w2 ⟨rfl, hb⟩
    have HP2 := Lib.hid (HP1.out.keep hb)
    clear hb a0 a1 a2 a3
    obtain ⟨b0, b1, b2, b3⟩ := HP2.out.b3.cell
    go_wp2
    obtain ⟨d0, d1, d2, d3⟩ := ((Bx.put HP2.out.b3 (.slice none 0 0) (.string ⟨#[]⟩))).cell
    refine bodyPost_ret (v := .tuple #[.agg #[.slice none 0 0, .string ⟨#[]⟩], .int .i64 3]) (by simp only [results, Tryz.results25]; simp [go_sem, d0, d1]) rfl ?_
    exact ⟨(HP2.out.below.setCell (by dsimp only; omega) _).setCell (by dsimp only; omega) _, rfl⟩
  · have hg1 : (r1 != 0) = true := by simpa using hz1
    clear hbad hz1
    go_wp2_with fail
    refine (Check_any x1 ad1 n1 c1 l1 r1 _ HV1.out.at_ HV1.out.size HV1.out.sizes (by have := HV1.out.len; omega) HR1).mono ?_
    rintro e w1 ⟨rfl, hb⟩
    have HP1 := Lib.hid (HP.out.keep hb)
    clear hb a0 a1 a2 a3
    obtain ⟨b0, b1, b2, b3⟩ := HP1.out.b3.cell
    go_wp2
    obtain ⟨d0, d1, d2, d3⟩ := ((Bx.put HP1.out.b3 (.slice none 0 0) (.string ⟨#[]⟩))).cell
    refine bodyPost_ret (v := .tuple #[.agg #[.slice none 0 0, .string ⟨#[]⟩], .int .i64 3]) (by simp only [results, Tryz.results25]; simp [go_sem, d0, d1]) rfl ?_
    exact ⟨(HP1.out.below.setCell (by dsimp only; omega) _).setCell (by dsimp only; omega) _, rfl⟩

/-- What Put yields for valid forms and a column. -/
def putOf (o : Option (Int → Rat)) (p1 pr : Rat) (q : List Qm) : Option (Int → Rat) := match o with
  | none => none
  | some g => sumRes p1 pr q (formOf g)
def putRes (p1 p2 : Rat) (q1 q2 : List Qm) (c : Int) : Option (Int → Rat) := putOf (sclRes p2 (co q1 c) q2) p1 (p2 * co q1 c) (wo q1 c)

/-- A form that a callee has made, in a world. -/
def FR (o : Option (Int → Rat)) (c : ByteArray) (W : World) (ad : Option Addr) (n cap : Nat) (s : ByteArray) (e : Int) : Prop := match o with
  | none => ad = none ∧ n = 0 ∧ cap = 0 ∧ s = ⟨#[]⟩ ∧ e = 5
  | some f => ad ≠ none ∧ s = c ∧ e = 0 ∧ TsAt W (.slice ad n cap) (tms (formOf f))
theorem FormRes.fr {o : Option (Int → Rat)} {c : ByteArray} {w w2 : World} {ad : Option Addr} {n cap : Nat} {s : ByteArray} {ec : Int} (h : FormRes o c w (.returned (.tuple #[.agg #[.slice ad n cap, .string s], .int .i64 ec])) w2) : FR o c w2 ad n cap s ec ∧ ∀ a, ad = some a → w.heap.size ≤ a.block := by
  obtain ⟨_, h2⟩ := h
  cases o with
  | none => cases h2; exact ⟨⟨rfl, rfl, rfl, rfl, rfl⟩, fun a h => by cases h⟩
  | some f =>
    obtain ⟨ad', n', cap', e1, h3, h4⟩ := h2
    cases e1
    obtain ⟨a, ha, hl⟩ := h4
    exact ⟨⟨by rw [ha]; simp, rfl, rfl, h3⟩, fun b hb => by rw [ha] at hb; cases hb; exact hl⟩
theorem FR.keep {o : Option (Int → Rat)} {c : ByteArray} {W W' : World} {ad : Option Addr} {n cap : Nat} {s : ByteArray} {e : Int} (h : FR o c W ad n cap s e) (hb : Below W.heap.size W W') : FR o c W' ad n cap s e := by
  cases o with
  | none => exact h
  | some f => exact ⟨h.1, h.2.1, h.2.2.1, h.2.2.2.keep hb (Nat.le_refl _)⟩
theorem FR.set2 {o : Option (Int → Rat)} {c : ByteArray} {W : World} {ad : Option Addr} {n cap B g : Nat} {s : ByteArray} {e : Int} (h : FR o c W ad n cap s e) (hf : ∀ a, ad = some a → B ≤ a.block) (hg : g < B) (u v : Value) : FR o c ((W.setCell ⟨g, 0, none⟩ u).setCell ⟨g, 1, none⟩ v) ad n cap s e := by
  cases o with
  | none => exact h
  | some f => exact ⟨h.1, h.2.1, h.2.2.1, (h.2.2.2.set hf hg).set hf hg⟩
theorem FR.new2 {o : Option (Int → Rat)} {c : ByteArray} {W : World} {ad : Option Addr} {n cap : Nat} {s : ByteArray} {e : Int} (h : FR o c W ad n cap s e) (x : Obj) (u v : Value) : FR o c (((W.alloc x).setCell ⟨W.heap.size, 0, none⟩ u).setCell ⟨W.heap.size, 1, none⟩ v) ad n cap s e :=
  h.keep ((((Below.refl W.heap.size W).alloc (Nat.le_refl _) x).setCell (Nat.le_refl _) _).setCell (Nat.le_refl _) _)
theorem FR.up {o : Option (Int → Rat)} {c : ByteArray} {W : World} {ad : Option Addr} {n cap : Nat} {s : ByteArray} {e : Int} (h : FR o c W ad n cap s e) (x : Obj) : FR o c (W.alloc x) ad n cap s e := h.keep ((Below.refl W.heap.size W).alloc (Nat.le_refl _) x)
theorem FR.cap {o : Option (Int → Rat)} {c : ByteArray} {W : World} {ad : Option Addr} {n cap : Nat} {s : ByteArray} {e : Int} (h : FR o c W ad n cap s e) (h0 : ad = none) : cap = 0 := by
  cases o with
  | none => exact h.2.2.1
  | some f => exact absurd h0 h.1
theorem fcell_off {W : World} {b o g : Nat} {v x y : Value} (h : W.cell? ⟨b, o, none⟩ = some v) (hb : b ≠ g) : ((W.setCell ⟨g, 0, none⟩ x).setCell ⟨g, 1, none⟩ y).cell? ⟨b, o, none⟩ = some v := ((((Only.refl g W).set 0 x).set 1 y).cell b o hb).trans h
theorem drew_sz (W : World) : W.drew.heap.size = W.heap.size := rfl
theorem Pb.alloc {w W : World} {f1 f2 g1 g2 : Value} {c : Int} (h : Pb w W f1 f2 c g1 g2) {o : Obj} : Pb w (W.alloc o) f1 f2 c g1 g2 := h.keep ((Below.refl _ _).alloc (Nat.le_refl _) o)
theorem Pb.drew {w W : World} {f1 f2 g1 g2 : Value} {c : Int} (h : Pb w W f1 f2 c g1 g2) : Pb w W.drew f1 f2 c g1 g2 := h.keep (Below.refl _ _).drew
theorem InV.alloc {w : World} {ad : Option Addr} {n cap : Nat} {qc : Rat} {x : ByteArray} {q : List Qm} (h : InV w ad n cap qc x q) {o : Obj} : InV (w.alloc o) ad n cap qc x q := h.keep ((Below.refl _ _).alloc (Nat.le_refl _) o) (Nat.le_refl _)
theorem InV.drew {w : World} {ad : Option Addr} {n cap : Nat} {qc : Rat} {x : ByteArray} {q : List Qm} (h : InV w ad n cap qc x q) : InV w.drew ad n cap qc x q := h.keep (Below.refl _ _).drew (Nat.le_refl _)
theorem Pb.set2 {w W : World} {f1 f2 g1 g2 : Value} {c : Int} {g : Nat} (h : Pb w W f1 f2 c g1 g2) (hg : w.heap.size + 1 + 1 + 1 + 1 ≤ g) (u v : Value) : Pb w ((W.setCell ⟨g, 0, none⟩ u).setCell ⟨g, 1, none⟩ v) f1 f2 c g1 g2 :=
  ⟨h.b0.only (((Only.refl g W).set 0 u).set 1 v) (by omega), (((Only.refl g W).set 0 u).set 1 v).cell (w.heap.size + 1) 0 (by omega) |>.trans h.b1, h.b2.only (((Only.refl g W).set 0 u).set 1 v) (by omega), h.b3.only (((Only.refl g W).set 0 u).set 1 v) (by omega), by simpa [World.setCell] using h.far,
    (h.below.setCell (by dsimp only; omega) _).setCell (by dsimp only; omega) _⟩

set_option maxRecDepth 100000 in
set_option maxHeartbeats 6400000 in
theorem Put_good (p1 p2 : Rat) (x1 x2 : ByteArray) (ad1 ad2 : Option Addr) (n1 c1 n2 c2 : Nat) (q1 q2 : List Qm) (c : Int) (w : World) (h1 : InV w ad1 n1 c1 p1 x1 q1) (h2 : InV w ad2 n2 c2 p2 x2 q2) (hcol : ColIn c) (htab : Tab w) :
    Calls Tryz.prog 25 #[.agg #[.slice ad1 n1 c1, .string x1], .int .i64 c, .agg #[.slice ad2 n2 c2, .string x2]] w (FormRes (putRes p1 p2 q1 q2 c) (txt (p1 + p2 * co q1 c)) w) := by
  have HP := Lib.hid (Pb.start w (.slice ad1 n1 c1) (.string x1) (.slice ad2 n2 c2) (.string x2) c 24 3 24 24)
  have HV1 := Lib.hid (h1.keep HP.out.below (Nat.le_refl _))
  have HV2 := Lib.hid (h2.keep HP.out.below (Nat.le_refl _))
  have HT := Lib.hid htab
  have HCOL := Lib.hid hcol
  have HFO2 := Lib.hid h2.fo
  have HLEN2 := Lib.hid (And.intro trivial h2.len)
  have HRC : Hid (rshort (co q1 c) = true) := Lib.hid (h1.fo.co.short c)
  obtain ⟨xc, hxc⟩ : ∃ xc, txt (p1 + p2 * co q1 c) = xc := ⟨_, rfl⟩
  obtain ⟨r, hrc⟩ : ∃ r, co q1 c = r := ⟨_, rfl⟩
  obtain ⟨y, hy⟩ : ∃ y, txt r = y := ⟨_, rfl⟩
  obtain ⟨o, ho⟩ : ∃ o, sclRes p2 r q2 = o := ⟨_, rfl⟩
  have hres : putRes p1 p2 q1 q2 c = putOf o p1 (p2 * r) (wo q1 c) := by unfold putRes; rw [hrc, ho]
  rw [hres, hxc]
  rw [hrc] at HRC
  have HXC := Lib.hid hxc
  have HCR := Lib.hid hrc
  have HY := Lib.hid hy
  have HO := Lib.hid ho
  have HYC : Hid (txt (co q1 c) = y) := Lib.hid (by rw [hrc]; exact hy)
  clear h1 h2 htab hcol hxc hrc hy ho hres
  obtain ⟨a0, a1, a2, a3⟩ := HP.out.b0.cell
  go_enter Tryz.func25, Tryz.ntmps25
  go_wp2_with fail
  refine (Check_any x1 ad1 n1 c1 (tms q1) 0 _ HV1.out.in_.at_ HV1.out.in_.size HV1.out.in_.sizes (by have := HV1.out.in_.len; omega) (Lib.hid HV1.out.ok)).mono ?_
  rintro e w1 ⟨rfl, hb⟩
  have HP1 := Lib.hid (HP.out.keep hb)
  have HVa := Lib.hid (HV1.out.keep hb (Nat.le_refl _))
  have HVb := Lib.hid (HV2.out.keep hb (Nat.le_refl _))
  clear hb a0 a1 a2 a3
  obtain ⟨a0, a1, a2, a3⟩ := HP1.out.b2.cell
  go_wp2_with fail
  refine (Check_any x2 ad2 n2 c2 (tms q2) 0 _ HVb.out.in_.at_ HVb.out.in_.size HVb.out.in_.sizes (by have := HVb.out.in_.len; omega) (Lib.hid HVb.out.ok)).mono ?_
  rintro e w2 ⟨rfl, hb⟩
  have HP2 := Lib.hid (HP1.out.keep hb)
  have HVc := Lib.hid (HVa.out.keep hb (Nat.le_refl _))
  have HVd := Lib.hid (HVb.out.keep hb (Nat.le_refl _))
  clear hb a0 a1 a2 a3
  have hcc := HP2.out.b1
  go_wp2_with fail
  refine (isColumn_any c true _ (Lib.hid (okCol_in.2 HCOL.out))).mono ?_
  rintro e w3 ⟨rfl, rfl⟩
  clear hcc
  go_upto_region 5 with fail
  go_cut [8, 9] (fun t8 t9 wx => ∃ (g : Nat) (ad : Option Addr) (n cap : Nat) (s : ByteArray) (e : Int), t8 = .pointer (some ⟨g, 0, none⟩) ∧ t9 = .int .i64 e ∧ Hid (w.heap.size + 1 + 1 + 1 + 1 ≤ g ∧ Pb w wx (.slice ad1 n1 c1) (.string x1) c (.slice ad2 n2 c2) (.string x2) ∧ InV wx ad1 n1 c1 p1 x1 q1 ∧ Bx wx g (.slice ad n cap) (.string s) ∧ FR o (txt (p2 * r)) wx ad n cap s e))
  case first =>
    have HN := Lib.hid HP2.out.drew
    have f3 := HP2.out.far
    have HNC := Lib.hid HVc.out.drew
    have HND := Lib.hid HVd.out.drew
    have HNA : Hid (Pb w (w3.alloc (.cells #[.slice none 0 0, .string ⟨#[]⟩] 24)).drew (.slice ad1 n1 c1) (.string x1) c (.slice ad2 n2 c2) (.string x2)) := Lib.hid HP2.out.alloc.drew
    obtain ⟨k0, k1, _, _⟩ := HN.out.b0.cell
    have k2 := HN.out.b1
    obtain ⟨k3, k4, _, _⟩ := HN.out.b2.cell
    obtain ⟨i0, i1, _, _⟩ := HNA.out.b0.cell
    have i2 := HNA.out.b1
    obtain ⟨i3, i4, _, _⟩ := HNA.out.b2.cell
    go_region_held3 (fun w' => w'.cell? ⟨w.heap.size, 0, none⟩ = some (.slice ad1 n1 c1) ∧ w'.cell? ⟨w.heap.size, 1, none⟩ = some (.string x1) ∧ w'.cell? ⟨w.heap.size + 1, 0, none⟩ = some (.int .i64 c) ∧ w'.cell? ⟨w.heap.size + 1 + 1, 0, none⟩ = some (.slice ad2 n2 c2) ∧ w'.cell? ⟨w.heap.size + 1 + 1, 1, none⟩ = some (.string x2)) (first | ((try dsimp only); (repeat' apply And.intro); all_goals with_reducible assumption) | ((try dsimp only); (repeat' apply And.intro); all_goals (first | with_reducible assumption | (with_reducible refine fcell_alloc ?_; with_reducible assumption))) | ((try dsimp only); (repeat' apply And.intro); all_goals (repeat' (first | with_reducible assumption | with_reducible refine fcell_alloc ?_ | with_reducible refine fcell_off ?_ ?_ | omega))) | go_keep) (first | (go_at_call 46; have hgd := hP4; clear hgd; refine (scaled_any p2 r x2 y ad2 n2 c2 q2 o _ (by first | exact hD4.in_.at_ | exact hD4.alloc.in_.at_) (Lib.hid hD4.is_) HY hD4.short HRC.out hD4.terms (by have := hD4.len; omega) (tab_keep HT.out (by first | exact hP4.below | exact hP4.alloc.below)) HO).mono ?_; intro e w5 h; obtain ⟨ad5, n5, cap5, s5, e5, rfl⟩ := h.form; have hP5 : Pb w w5 (.slice ad1 n1 c1) (.string x1) c (.slice ad2 n2 c2) (.string x2) := (by first | exact hP4.keep h.1 | exact hP4.alloc.keep h.1); have f5 := hP5.far; have hfr := h.fr; have hL5 : Below w3.heap.size w3 w5 := (by first | exact hL4.trans (Below.mono (by exact h.1) hL4.size) | exact (hL4.alloc hL4.size _).trans (Below.mono (by exact h.1) (Nat.le_trans hL4.size (by simp)))); have hC5 : InV w5 ad1 n1 c1 p1 x1 q1 := (by first | exact hC4.keep h.1 (Nat.le_refl _) | exact hC4.alloc.keep h.1 (Nat.le_refl _)); (first | (have hZ5 := Bx.below hZ4 h.1 (Bx.lt hZ4); obtain ⟨z0, z1, z2, z3⟩ := hZ5.cell) | (have hZ5 : Bx w5 w4.heap.size (.slice none 0 0) (.string ⟨#[]⟩) := Bx.below (Bx.new w4 (.slice none 0 0) (.string ⟨#[]⟩) 24) h.1 (by simp); obtain ⟨z0, z1, z2, z3⟩ := hZ5.cell) | skip); clear k0 k1 k2 k3 k4; obtain ⟨k0, k1, _, _⟩ := hP5.b0.cell; have k2 := hP5.b1; obtain ⟨k3, k4, _, _⟩ := hP5.b2.cell) | (go_at_call 52; refine (coefOf_any ad1 n1 c1 q1 x1 c y _ (by first | exact HNC.out.in_.at_ | exact HVc.out.alloc.drew.in_.at_) HVc.out.fo.2 (by have := HVc.out.len; omega) HYC).mono ?_; rintro e w4 ⟨rfl, hb4⟩; have hP4 : Pb w w4 (.slice ad1 n1 c1) (.string x1) c (.slice ad2 n2 c2) (.string x2) := (by first | exact HN.out.keep hb4 | exact HNA.out.keep hb4); have f4 := hP4.far; have hL4 : Below w3.heap.size w3 w4 := (by first | exact (Below.refl _ _).drew.trans (by exact hb4) | exact ((Below.refl _ w3).alloc (Nat.le_refl _) _).drew.trans (Below.mono (by exact hb4) (by simp [drew_sz]))); have hC4 : InV w4 ad1 n1 c1 p1 x1 q1 := (by first | exact HNC.out.keep hb4 (Nat.le_refl _) | exact HVc.out.alloc.drew.keep hb4 (Nat.le_refl _)); have hD4 : InV w4 ad2 n2 c2 p2 x2 q2 := (by first | exact HND.out.keep hb4 (Nat.le_refl _) | exact HVd.out.alloc.drew.keep hb4 (Nat.le_refl _)); (first | (have hZ4 : Bx w4 w3.heap.size (.slice none 0 0) (.string ⟨#[]⟩) := Bx.below (Bx.drew (Bx.new w3 (.slice none 0 0) (.string ⟨#[]⟩) 24)) hb4 (by simp [drew_sz])) | skip); clear k0 k1 k2 k3 k4 i0 i1 i2 i3 i4; obtain ⟨k0, k1, _, _⟩ := hP4.b0.cell; have k2 := hP4.b1; obtain ⟨k3, k4, _, _⟩ := hP4.b2.cell))
    all_goals (go_wp2_with fail; go_meet; case rel => (refine ⟨_, ad5, n5, cap5, s5, e5, rfl, rfl, Lib.hid ⟨?_, ?_, HVc.out.keep (B := w3.heap.size) ?_ (Nat.le_refl _), ?_, ?_⟩⟩; all_goals (repeat' (first | with_reducible assumption | omega | with_reducible refine Pb.set2 ?_ ?_ _ _ | with_reducible refine Pb.alloc ?_ | (with_reducible refine Below.setCell ?_ ?_ _) | (with_reducible refine Below.alloc ?_ ?_ _) | with_reducible exact Bx.new _ _ _ _ | with_reducible exact Bx.put hZ5 _ _ | with_reducible exact FR.up hfr.1 _ | with_reducible exact FR.new2 hfr.1 _ _ _ | with_reducible refine FR.set2 hfr.1 hfr.2 ?_ _ _ | exact hZ4.lt | (simp only [World.size_alloc, drew_sz]; omega) | (dsimp only; omega) | exact hL5.size | exact hL4.size))))
  case rest =>
  obtain ⟨g, ad, n, cap, s, e, rfl, rfl, HC⟩ := hcut
  obtain ⟨w4, rfl⟩ : ∃ w4 : World, w4 = wc := ⟨_, rfl⟩
  obtain ⟨hg, hP4, hI4, hB4, hF4⟩ := HC.out
  have HP4 := Lib.hid hP4
  have HI4 := Lib.hid hI4
  have HB4 := Lib.hid hB4
  have HG := Lib.hid hg
  clear HC hP4 hI4 HP HP1 HP2 HV1 HV2 HVa HVb HVc HVd
  cases o with
  | none =>
    obtain ⟨rfl, rfl, rfl, rfl, rfl⟩ := hF4
    clear hB4 hg
    obtain ⟨b0, b1, b2, b3⟩ := HP4.out.b3.cell
    go_wp2
    obtain ⟨d0, d1, d2, d3⟩ := ((Bx.put HP4.out.b3 (.slice none 0 0) (.string ⟨#[]⟩))).cell
    refine bodyPost_ret (v := .tuple #[.agg #[.slice none 0 0, .string ⟨#[]⟩], .int .i64 5]) (by simp only [results, Tryz.results25]; simp [go_sem, d0, d1]) rfl ?_
    exact ⟨(HP4.out.below.setCell (by dsimp only; omega) _).setCell (by dsimp only; omega) _, rfl⟩
  | some f =>
    obtain ⟨hne, rfl, rfl, hts⟩ := hF4
    have HTS := Lib.hid hts
    have HNE := Lib.hid hne
    clear hB4 hg hts hne
    obtain ⟨b0, b1, b2, b3⟩ := HP4.out.b0.cell
    go_wp2_with fail
    refine (cloneT_any ad1 n1 c1 q1 _ HI4.out.in_.at_ (by have := HI4.out.len; omega) HI4.out.in_.none).mono ?_
    rintro e w5 ⟨ad5, cap5, rfl, hrow, hb⟩
    have HROW := Lib.hid hrow
    have HP5 := Lib.hid (HP4.out.keep hb)
    have HB5 := Lib.hid (HB4.out.below hb HB4.out.lt)
    have HW5 := Lib.hid hb
    have HTS5 := Lib.hid (HTS.out.keep hb (Nat.le_refl _))
    clear hb hrow b0 b1 b2 b3
    go_wp2_with fail
    refine (delete_any (w.heap.size + 1) w4.heap.size c ad5 n1 cap5 q1 _ HROW.out HP5.out.b1 (by have := HP4.out.far; omega) HI4.out.fo.2 (by obtain ⟨_, _, _, e1, e2, _⟩ := HI4.out.in_.at_; cases e1; simpa [tms] using e2) (by have := HI4.out.len; omega) HW5.out.size).mono ?_
    rintro e w6 ⟨n6, rfl, hts6, hb⟩
    have HW6 := Lib.hid (HW5.out.trans hb)
    have HP6 := Lib.hid (HP4.out.keep HW6.out)
    have HB6 := Lib.hid (HB4.out.below HW6.out HB4.out.lt)
    have HTS6 := Lib.hid (HTS.out.keep HW6.out (Nat.le_refl _))
    have HWO6 := Lib.hid hts6
    clear hb hts6
    obtain ⟨b0, b1, b2, b3⟩ := HP6.out.b0.cell
    obtain ⟨c0, c1', c2', c3⟩ := HB6.out.cell
    go_wp2_with fail
    have hsc : acc (fun _ => 0) (scl r q2) = some f := by
      have h := HO.out
      unfold sclRes at h
      split at h
      · exact h
      · cases h
    have hq2c : ∀ p ∈ scl r q2, ColIn p.1 := fun p hp => by
      obtain ⟨p', hp', rfl⟩ := List.mem_map.1 hp
      exact (HFO2.out.1 p' hp').1
    have hfo := formOf_fo (acc_good _ _ _ good_zero hq2c hsc)
    have hfl : (formOf f).length ≤ 500 := by have := acc_length0 hsc; have h2 := HLEN2.out.2; simp [scl] at this; omega
    have hpr : rshort (p2 * r) = true := by
      have h := HO.out
      unfold sclRes scOk at h
      split at h
      · next h1 => rw [Bool.and_eq_true] at h1; exact h1.1
      · cases h
    obtain ⟨o2, ho2⟩ : ∃ o2, sumRes p1 (p2 * r) (wo q1 c) (formOf f) = o2 := ⟨_, rfl⟩
    have HO2 := Lib.hid ho2
    have hcap5 : ad5 = none → cap5 = 0 := by
      rcases HROW.out.2 with ⟨h, _⟩ | ⟨g, c, cur, h, _⟩
      · cases h; exact fun _ => rfl
      · cases h; exact fun h => by cases h
    refine (fsum_any p1 (p2 * r) x1 _ ad5 ad n6 cap5 n cap (wo q1 c) (formOf f) o2 _ (Lib.hid HI4.out.is_) (Lib.hid rfl) HI4.out.short hpr HWO6.out HTS6.out (fun p hp => ⟨((HI4.out.fo.wo c).1 p hp).1, ((HI4.out.fo.wo c).1 p hp).2.1⟩) (fun p hp => ⟨(hfo.1 p hp).1, (hfo.1 p hp).2.1⟩) (Nat.le_trans (wo_length _ _) HI4.out.len) hfl hcap5 (fun h => absurd h HNE.out) (tab_keep HT.out HP6.out.below) HO2).mono ?_
    intro e w7 h
    have hxc : txt (p1 + p2 * r) = xc := by rw [← HXC.out, HCR.out]
    rw [hxc] at h
    have hpo : putOf (some f) p1 (p2 * r) (wo q1 c) = o2 := ho2
    have HPO := Lib.hid hpo
    obtain ⟨ad7, n7, cap7, s7, e7, rfl⟩ := h.form
    have HR := Lib.hid (FormRes.boxedAt (g := w.heap.size + 1 + 1 + 1) HP6.out.below (by omega) HP6.out.b3.lt h)
    have HB7 := Lib.hid (HP6.out.b3.below h.1 HP6.out.b3.lt)
    clear h b0 b1 b2 b3 c0 c1' c2' c3 hsc hq2c hfo hfl hpr ho2 hpo
    obtain ⟨b0, b1, b2, b3⟩ := HB7.out.cell
    go_wp2
    obtain ⟨d0, d1, d2, d3⟩ := ((Bx.put HB7.out (.slice ad7 n7 cap7) (.string s7))).cell
    refine bodyPost_ret (v := .tuple #[.agg #[.slice ad7 n7 cap7, .string s7], .int .i64 e7]) (by simp only [results, Tryz.results25]; simp [go_sem, d0, d1]) rfl ?_
    rw [HPO.out]
    exact HR.out

set_option maxRecDepth 100000 in
set_option maxHeartbeats 3200000 in
theorem Put_range (p1 p2 : Rat) (x1 x2 : ByteArray) (ad1 ad2 : Option Addr) (n1 c1 n2 c2 : Nat) (q1 q2 : List Qm) (c : Int) (w : World) (h1 : InV w ad1 n1 c1 p1 x1 q1) (h2 : InV w ad2 n2 c2 p2 x2 q2) (hcol : okCol c = false) :
    Calls Tryz.prog 25 #[.agg #[.slice ad1 n1 c1, .string x1], .int .i64 c, .agg #[.slice ad2 n2 c2, .string x2]] w (FormErr 2 w) := by
  have HP := Lib.hid (Pb.start w (.slice ad1 n1 c1) (.string x1) (.slice ad2 n2 c2) (.string x2) c 24 3 24 24)
  have HV1 := Lib.hid (h1.keep HP.out.below (Nat.le_refl _))
  have HV2 := Lib.hid (h2.keep HP.out.below (Nat.le_refl _))
  have HCOL := Lib.hid hcol
  clear h1 h2 hcol
  obtain ⟨a0, a1, a2, a3⟩ := HP.out.b0.cell
  go_enter Tryz.func25, Tryz.ntmps25
  go_wp2_with fail
  refine (Check_any x1 ad1 n1 c1 (tms q1) 0 _ HV1.out.in_.at_ HV1.out.in_.size HV1.out.in_.sizes (by have := HV1.out.in_.len; omega) (Lib.hid HV1.out.ok)).mono ?_
  rintro e w1 ⟨rfl, hb⟩
  have HP1 := Lib.hid (HP.out.keep hb)
  have HVb := Lib.hid (HV2.out.keep hb (Nat.le_refl _))
  clear hb a0 a1 a2 a3
  obtain ⟨a0, a1, a2, a3⟩ := HP1.out.b2.cell
  go_wp2_with fail
  refine (Check_any x2 ad2 n2 c2 (tms q2) 0 _ HVb.out.in_.at_ HVb.out.in_.size HVb.out.in_.sizes (by have := HVb.out.in_.len; omega) (Lib.hid HVb.out.ok)).mono ?_
  rintro e w2 ⟨rfl, hb⟩
  have HP2 := Lib.hid (HP1.out.keep hb)
  clear hb a0 a1 a2 a3
  have hcc := HP2.out.b1
  go_wp2_with fail
  refine (isColumn_any c false _ HCOL).mono ?_
  rintro e w3 ⟨rfl, rfl⟩
  clear hcc
  obtain ⟨b0, b1, b2, b3⟩ := HP2.out.b3.cell
  go_wp2
  obtain ⟨d0, d1, d2, d3⟩ := ((Bx.put HP2.out.b3 (.slice none 0 0) (.string ⟨#[]⟩))).cell
  refine bodyPost_ret (v := .tuple #[.agg #[.slice none 0 0, .string ⟨#[]⟩], .int .i64 2]) (by simp only [results, Tryz.results25]; simp [go_sem, d0, d1]) rfl ?_
  exact ⟨(HP2.out.below.setCell (by dsimp only; omega) _).setCell (by dsimp only; omega) _, rfl⟩

end Go.Proofs.YtmdppblhbmbakaaGreatDoor
