/- What DivMod and Gcd do, given what divide and CommonDivisor do. -/
import Derived.Test.YtniokkoicoacoaaGreatDoorJ2
set_option linter.unusedVariables false
set_option linter.unusedSimpArgs false
namespace Go.Proofs.YtniokkoicoacoaaGreatDoor
open Go.RowKit _root_.Go.Proofs.YtniokkoicoacoaaGreatDoor.Nm

theorem Ten.le {K : Nat} {a b : Int} (h : Ten K a) (hb : b.natAbs ≤ a.natAbs) : Ten K b := by
  obtain ⟨k, h1, h2⟩ := h
  exact ⟨k, h1, Nat.lt_of_le_of_lt hb h2⟩

theorem Dv.qsize {a b q r : Int} (h : Dv a b q r) : q.natAbs ≤ a.natAbs := by
  obtain ⟨h1, h2, h3⟩ := h
  rcases Nat.eq_zero_or_pos q.natAbs with hq | hq
  · omega
  · have h4 : b.natAbs * q.natAbs = (b * q).natAbs := (Int.natAbs_mul b q).symm
    have h5 : q.natAbs + b.natAbs ≤ b.natAbs * q.natAbs + 1 := by
      obtain ⟨x, hx⟩ : ∃ x, b.natAbs = x + 1 := ⟨b.natAbs - 1, by omega⟩
      obtain ⟨y, hy⟩ : ∃ y, q.natAbs = y + 1 := ⟨q.natAbs - 1, by omega⟩
      rw [hx, hy, Nat.add_mul, Nat.mul_add]
      omega
    have h6 : b * q = a - r := by omega
    rw [h6] at h4
    generalize b.natAbs * q.natAbs = M at *
    omega

/-- divide, at two integers. -/
def DivIs (a b : Int) : Prop := ∀ (P : Nat → Prop) (x y : Value) (w : World), (∀ k, w.heap.size ≤ k → P k) → IsInt P w x a → IsInt P w y b → Calls Tryz.prog 58 #[x, y] w (DivPost P (a.tdiv b) (a.tmod b) w)

theorem divIs_short (a b : Int) (ha : a.natAbs < 1000000000000000000) (hb : b.natAbs < 1000000000000000000) (hb0 : b ≠ 0) : DivIs a b := by
  intro P x y w hP hx hy
  rcases hx with ⟨_, rfl⟩ | ⟨h, _⟩
  · rcases hy with ⟨_, rfl⟩ | ⟨h, _⟩
    · exact divide_short P a b ha hb hb0 w
    · omega
  · omega

/-- CommonDivisor, at two integers. -/
def GcdIs (a b : Int) : Prop := ∀ (P : Nat → Prop) (x y : Value) (w : World), (∀ k, w.heap.size ≤ k → P k) → IsInt P w x a → IsInt P w y b → Calls Tryz.prog 40 #[x, y] w (IntPost P (Int.gcd a b) w)

theorem gcdIs_short (a b : Int) (ha : a.natAbs < 1000000000000000000) (hb : b.natAbs < 1000000000000000000) : GcdIs a b := by
  intro P x y w hP hx hy
  rcases hx with ⟨_, rfl⟩ | ⟨h, _⟩
  · rcases hy with ⟨_, rfl⟩ | ⟨h, _⟩
    · exact CommonDivisor_short P a b ha hb w
    · omega
  · omega

set_option maxRecDepth 100000 in
set_option maxHeartbeats 800000 in
theorem DivMod_bad (s t : ByteArray) (w : World) (h : (canon s.data.toList && canon t.data.toList) = false) :
    Calls Tryz.prog 16 #[.string s, .string t] w fun e w' => e = .returned (.tuple #[.string ⟨#[]⟩, .string ⟨#[]⟩, .int .i64 3]) ∧ Below w.heap.size w w' := by
  have H := Lib.hid h
  clear h
  go_enter Tryz.func16, Tryz.ntmps16
  go_wp2_with fail
  refine (readBoth_any Ev s t _ Ev.all).mono ?_
  rintro e w1 ⟨s1, p1, s2, p2, rfl, h1, hb⟩
  rw [H.out]
  have HB := Lib.hid hb
  clear h1 hb
  go_wp2
  refine bodyPost_ret (v := .tuple #[.string ⟨#[]⟩, .string ⟨#[]⟩, .int .i64 3]) (by simp [results, Tryz.results16, go_sem]) rfl ?_
  exact ⟨rfl, ((HB.out.alloc HB.out.size _).alloc (by have := HB.out.size; simp; omega) _)⟩

set_option maxRecDepth 100000 in
set_option maxHeartbeats 800000 in
theorem DivMod_zero (s t : ByteArray) (w : World) (h : (canon s.data.toList && canon t.data.toList) = true) (h0 : zv t.data.toList = 0) :
    Calls Tryz.prog 16 #[.string s, .string t] w fun e w' => e = .returned (.tuple #[.string ⟨#[]⟩, .string ⟨#[]⟩, .int .i64 24]) ∧ Below w.heap.size w w' := by
  have H := Lib.hid h
  have H0 : Hid (sg (zv t.data.toList) = 0) := Lib.hid (by rw [h0]; rfl)
  clear h h0
  go_enter Tryz.func16, Tryz.ntmps16
  go_wp2_with fail
  refine (readBoth_any Ev s t _ Ev.all).mono ?_
  rintro e w1 ⟨s1, p1, s2, p2, rfl, h1, hb⟩
  have H1 := Lib.hid (h1 H.out)
  rw [H.out]
  have HB := Lib.hid hb
  clear h1 hb
  go_wp2_with fail
  refine (Sign_any Ev _ (zv t.data.toList) _ (H1.out.2.kept (.all (boxes2 w1 _ _)))).mono ?_
  rintro e w2 ⟨rfl, hb2⟩
  rw [H0.out]
  have HB2 := Lib.hid (HB.out.trans ((boxes2 w1 _ _).trans (hb2.mono (by simp; omega)) |>.mono HB.out.size))
  clear hb2
  go_wp2
  refine bodyPost_ret (v := .tuple #[.string ⟨#[]⟩, .string ⟨#[]⟩, .int .i64 24]) (by simp [results, Tryz.results16, go_sem]) rfl ?_
  exact ⟨rfl, HB2.out⟩

set_option maxRecDepth 100000 in
set_option maxHeartbeats 1600000 in
theorem DivMod_good (s t : ByteArray) (w : World) (h : (canon s.data.toList && canon t.data.toList) = true) (h0 : zv t.data.toList ≠ 0) (hdiv : DivIs (zv s.data.toList) (zv t.data.toList)) (htab : Tab w) :
    Calls Tryz.prog 16 #[.string s, .string t] w fun e w' => ∃ q r, Dv (zv s.data.toList) (zv t.data.toList) q r ∧ e = .returned (.tuple #[.string ⟨(Lib.itoa q).toArray⟩, .string ⟨(Lib.itoa r).toArray⟩, .int .i64 0]) ∧ Below w.heap.size w w' := by
  have H := Lib.hid h
  obtain ⟨hs, ht⟩ := Bool.and_eq_true_iff.1 h
  have ha := zv_ten _ hs
  have hb := zv_ten _ ht
  obtain ⟨a, hza⟩ : ∃ a, zv s.data.toList = a := ⟨_, rfl⟩
  obtain ⟨b, hzb⟩ : ∃ a, zv t.data.toList = a := ⟨_, rfl⟩
  rw [hza] at ha hdiv ⊢
  rw [hzb] at hb hdiv h0 ⊢
  have HZA := Lib.hid hza
  have HZB := Lib.hid hzb
  have htv := tv_tdiv a b h0
  have lq := (ha.le htv.size).ds (by omega)
  have lb := hb.ds (by omega)
  obtain ⟨c, hc⟩ : ∃ c, sg b = c := ⟨_, rfl⟩
  have hcz : ((c : Int) == 0) = false := by
    rw [beq_eq_false_iff_ne, ← hc]; unfold sg; split <;> (try split) <;> omega
  have HC := Lib.hid hc
  have HA := Lib.hid ha
  have HB0 := Lib.hid hb
  have HD := Lib.hid hdiv
  have HT := Lib.hid htab
  have HTV := Lib.hid htv
  clear h hs ht ha hb htv hc hdiv htab h0 hza hzb
  go_enter Tryz.func16, Tryz.ntmps16
  go_wp2_with fail
  refine (readBoth_any Ev s t _ Ev.all).mono ?_
  rintro e w1 ⟨s1, p1, s2, p2, rfl, h1, hb⟩
  have h2 := h1 H.out
  rw [HZA.out, HZB.out] at h2
  have H1 := Lib.hid h2
  rw [H.out]
  have HB := Lib.hid hb
  clear h1 h2 hb
  have hS0 := St2.start w1 (.int .i64 s1) (.pointer p1) (.int .i64 s2) (.pointer p2) 52 52
  go_wp2_with fail
  refine (Sign_any Ev _ b _ (H1.out.2.kept (.all hS0.1))).mono ?_
  rintro e w2 ⟨rfl, hb2⟩
  rw [HC.out]
  have hS2 := hS0.next hb2 (Nat.le_refl _)
  obtain ⟨c0, c1, c2, c3, c4, c5, c6, c7⟩ := hS2.cells
  clear hb2 hS0
  go_wp2_with fail
  refine (DivideDown_any Ev _ _ a b _ _ _ Ev.all (H1.out.1.kept (.all hS2.1)) (H1.out.2.kept (.all hS2.1)) (fun W hW _ => HD.out _ _ _ W (fun k hk => Bar.new (m := 4) (P := Ev) Ev.all k (by omega)) ((H1.out.1.kept (.all hS2.1)).bar hW) ((H1.out.2.kept (.all hS2.1)).bar hW)) HTV.out lq lb).mono ?_
  rintro e w3 ⟨q, r, hdv, s3, p3, s4, p4, rfl, hq, hr, hb3⟩
  have HDV := Lib.hid hdv
  have HQ := Lib.hid hq
  have HR := Lib.hid hr
  have HB3 := Lib.hid (HB.out.trans ((hS2.1.trans (hb3.mono (by have := hS2.2.1; omega))).mono HB.out.size))
  have ln := (HA.out.le hdv.qsize).ds (by omega)
  have lr : (ds 1000000000 r.natAbs).length ≤ 1000 := ds_le _ _ _ (by have := hdv.size; omega) lb
  have hS3 := St2.start w3 (.int .i64 s3) (.pointer p3) (.int .i64 s4) (.pointer p4) 52 52
  clear hdv hq hr hb3 hS2 c0 c1 c2 c3 c4 c5 c6 c7
  obtain ⟨c0, c1, c2, c3, c4, c5, c6, c7⟩ := hS3.drew.cells
  go_wp2_with fail
  go_region_held3 (fun w' => w'.cell? ⟨w3.heap.size, 0, none⟩ = some (.int .i64 s3) ∧ w'.cell? ⟨w3.heap.size, 1, none⟩ = some (.pointer p3) ∧ w'.cell? ⟨w3.heap.size + 1, 0, none⟩ = some (.int .i64 s4) ∧ w'.cell? ⟨w3.heap.size + 1, 1, none⟩ = some (.pointer p4)) (first | ((try dsimp only); (repeat' apply And.intro); all_goals with_reducible assumption) | go_keep) (first | (go_at_call 39; refine (Text_any Ev _ q _ (by exact HQ.out.kept (.all hS3.drew.1)) ln (by exact tab_keep HT.out (HB3.out.trans (hS3.drew.1.mono HB3.out.size)))).mono ?_; rintro e w4 ⟨rfl, hb4⟩; have hS4 := hS3.drew.next hb4 (Nat.le_refl _); clear c0 c1 c2 c3 c4 c5 c6 c7; obtain ⟨d0, d1, d2, d3, d4, d5, d6, d7⟩ := hS4.cells) | (go_at_call 39; refine (Text_any Ev _ r _ (by exact HR.out.kept (.all hS4.1)) lr (by exact tab_keep HT.out (HB3.out.trans (hS4.1.mono HB3.out.size)))).mono ?_; rintro e w5 ⟨rfl, hb5⟩; have hS5 := hS4.next hb5 (Nat.le_refl _); clear d0 d1 d2 d3 d4 d5 d6 d7; obtain ⟨e0, e1, e2, e3, e4, e5, e6, e7⟩ := hS5.cells))
  go_wp2
  refine bodyPost_ret (v := .tuple #[.string ⟨(Lib.itoa q).toArray⟩, .string ⟨(Lib.itoa r).toArray⟩, .int .i64 0]) (by simp [results, Tryz.results16, go_sem]) rfl ?_
  exact ⟨q, r, HDV.out, rfl, HB3.out.trans (hS5.1.mono HB3.out.size)⟩

set_option maxRecDepth 100000 in
set_option maxHeartbeats 800000 in
theorem Gcd_bad (s t : ByteArray) (w : World) (h : (canon s.data.toList && canon t.data.toList) = false) :
    Calls Tryz.prog 17 #[.string s, .string t] w fun e w' => e = .returned (.tuple #[.string ⟨#[]⟩, .int .i64 3]) ∧ Below w.heap.size w w' := by
  have H := Lib.hid h
  clear h
  go_enter Tryz.func17, Tryz.ntmps17
  go_wp2_with fail
  refine (readBoth_any Ev s t _ Ev.all).mono ?_
  rintro e w1 ⟨s1, p1, s2, p2, rfl, h1, hb⟩
  rw [H.out]
  have HB := Lib.hid hb
  clear h1 hb
  go_wp2
  go_ret2
  exact ⟨rfl, ((HB.out.alloc HB.out.size _).alloc (by have := HB.out.size; simp; omega) _)⟩

theorem gcd_ten (a b : Int) (ha : Ten 400 a) (hb : Ten 400 b) : Ten 400 (Int.gcd a b : Int) := by
  by_cases h : a = 0
  · subst h
    rw [Int.gcd_zero_left]
    exact hb.le (by simp)
  · exact ha.le (by rw [Int.natAbs_natCast]; exact Nat.le_of_dvd (by omega) (Nat.gcd_dvd_left _ _))

set_option maxRecDepth 100000 in
set_option maxHeartbeats 1600000 in
theorem Gcd_good (s t : ByteArray) (w : World) (h : (canon s.data.toList && canon t.data.toList) = true) (hgcd : GcdIs (zv s.data.toList) (zv t.data.toList)) (htab : Tab w) :
    Calls Tryz.prog 17 #[.string s, .string t] w fun e w' => e = .returned (.tuple #[.string ⟨(Lib.itoa (Int.gcd (zv s.data.toList) (zv t.data.toList))).toArray⟩, .int .i64 0]) ∧ Below w.heap.size w w' := by
  have H := Lib.hid h
  obtain ⟨hs, ht⟩ := Bool.and_eq_true_iff.1 h
  have ln := (gcd_ten _ _ (zv_ten _ hs) (zv_ten _ ht)).ds (by omega)
  obtain ⟨a, hza⟩ : ∃ a, zv s.data.toList = a := ⟨_, rfl⟩
  obtain ⟨b, hzb⟩ : ∃ a, zv t.data.toList = a := ⟨_, rfl⟩
  rw [hza, hzb] at ln hgcd ⊢
  have HZA := Lib.hid hza
  have HZB := Lib.hid hzb
  have HG := Lib.hid hgcd
  have HT := Lib.hid htab
  obtain ⟨g, hg⟩ : ∃ g : Int, (Int.gcd a b : Int) = g := ⟨_, rfl⟩
  rw [hg] at ln ⊢
  have HGG := Lib.hid hg
  clear h hs ht hgcd htab hza hzb hg
  go_enter Tryz.func17, Tryz.ntmps17
  go_wp2_with fail
  refine (readBoth_any Ev s t _ Ev.all).mono ?_
  rintro e w1 ⟨s1, p1, s2, p2, rfl, h1, hb⟩
  have h2 := h1 H.out
  rw [HZA.out, HZB.out] at h2
  have H1 := Lib.hid h2
  rw [H.out]
  have HB := Lib.hid hb
  clear h1 h2 hb
  go_wp2_with fail
  refine (HG.out Ev _ _ _ Ev.all (H1.out.1.kept (.all (boxes2 w1 _ _))) (H1.out.2.kept (.all (boxes2 w1 _ _)))).mono ?_
  rintro e w2 ⟨v, rfl, hv, hb2⟩
  rw [HGG.out] at hv
  have HB2 := Lib.hid (HB.out.trans ((boxes2 w1 _ _).trans (hb2.mono (by simp; omega)) |>.mono HB.out.size))
  have HV := Lib.hid hv
  obtain ⟨s3, p3, rfl⟩ := hv.form
  clear hv hb2
  go_wp2_with fail
  refine (Text_any Ev _ g w2 HV.out ln (tab_keep HT.out HB2.out)).mono ?_
  rintro e w3 ⟨rfl, hb3⟩
  have HB3 := Lib.hid (HB2.out.trans (hb3.mono HB2.out.size))
  clear hb3
  go_wp2
  go_ret2
  exact ⟨rfl, HB3.out⟩

end Go.Proofs.YtniokkoicoacoaaGreatDoor
