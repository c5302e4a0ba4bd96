/- What floor, Floor, Ceil, Make, Parts and Neg do. What Make, Parts and Neg do. The examples that the laws over rational check. -/
import Derived.Test.YtpnofebhpeiepaaGreatDoorQ12
set_option linter.unusedVariables false
set_option linter.unusedSimpArgs false
namespace Go.Proofs.YtpnofebhpeiepaaGreatDoor
open Go.RowKit _root_.Go.Proofs.YtpnofebhpeiepaaGreatDoor.Nm

theorem Dv.floor {q : Rat} {k r : Int} (h : Dv q.num q.den k r) : q.floor = k := by
  obtain ⟨h1, h2, h3⟩ := h
  have hd := q.den_pos
  rw [Rat.floor_def]
  have hr : 0 ≤ r := by rcases h3 with h | h <;> omega
  rw [h1, Int.mul_comm, Int.add_comm, Int.add_mul_ediv_right _ _ (by omega), Int.ediv_eq_zero_of_lt hr (by omega)]
  omega

set_option maxRecDepth 100000 in
set_option maxHeartbeats 1600000 in
theorem floor_any (P : Nat → Prop) (x : Value) (q : Rat) (z : Int) (w : World) (hP : ∀ k, w.heap.size ≤ k → P k) (hx : IsFr P w x q) (hq : RT 400 q) (hz : Hid (q.floor = z)) :
    Calls Tryz.prog 69 #[x] w (IntPost P z w) := by
  obtain ⟨s1, p1, s2, p2, rfl, hn, hd⟩ := hx
  have HP := Lib.hid hP
  have hA := boxes2 w (.cells #[.int .i64 s1, .pointer p1, .int .i64 s2, .pointer p2] 63) (.cells #[.int .i64 0, .pointer none] 61)
  have HN := Lib.hid (hn.bar (m := 2) hA)
  have HD := Lib.hid (hd.bar (m := 2) hA)
  have HW0 := Lib.hid hA
  have HX := Lib.hid (second_box w (.cells #[.int .i64 s1, .pointer p1, .int .i64 s2, .pointer p2] 63) (.int .i64 0) (.pointer none) 61 ())
  have HL := Lib.hid (hq.limbs 45 (by omega))
  have hd0 : (q.den : Int) ≠ 0 := by have := q.den_pos; omega
  have HTV := Lib.hid (tv_tdiv q.num q.den hd0)
  have lq : (ds 1000000000 (q.num.tdiv q.den).natAbs).length ≤ 1000 := ds_le _ _ _ HTV.out.size (by have := HL.out.1; omega)
  have HLQ := Lib.hid lq
  have HDI := Lib.hid (divIs q.num q.den hd0 (Nat.le_trans HL.out.1 (by omega)))
  clear hP hA hn hd hq hd0 lq
  go_enter Tryz.func69, Tryz.ntmps69
  go_wp2_with fail
  refine (DivideDown_any (Bar 2 P w) _ _ q.num q.den _ _ _ (fun k hk => Bar.new HP.out k (Nat.le_trans (by simp) hk)) HN.out HD.out (fun W hW _ => HDI.out _ _ _ W (fun k hk => Bar.new (m := 4) (P := Bar 2 P w) (fun k hk => Bar.new HP.out k (Nat.le_trans (by simp) hk)) k (by omega)) (HN.out.bar hW) (HD.out.bar hW)) HTV.out HLQ.out (Nat.le_trans HL.out.2 (by omega))).mono ?_
  rintro e w1 ⟨k, r, hdv, s3, p3, s4, p4, rfl, hv, hr, hb⟩
  obtain rfl : k = z := by rw [← hz.out, hdv.floor]
  have HB := Lib.hid (HW0.out.trans (hb.mono HW0.out.size))
  have HV := Lib.hid (hv.kept (.all (boxes2 w1 (.cells #[.int .i64 s3, .pointer p3] 61) (.cells #[.int .i64 s4, .pointer p4] 61))))
  have HB2 := Lib.hid (HB.out.trans ((boxes2 w1 (.cells #[.int .i64 s3, .pointer p3] 61) (.cells #[.int .i64 s4, .pointer p4] 61)).mono HB.out.size))
  have hX := ((HX.out.below hb HX.out.lt).alloc (.cells #[.int .i64 s3, .pointer p3] 61)).alloc (.cells #[.int .i64 s4, .pointer p4] 61)
  have hlt : w.heap.size + 1 < w1.heap.size := (HX.out.below hb HX.out.lt).lt
  obtain ⟨c0, c1, c2, c3⟩ := hX.cell
  have n1 : w1.heap.size ≠ w.heap.size + 1 := by omega
  clear hdv hv hr hb hX hlt
  go_wp2
  refine bodyPost_ret (v := .agg #[.int .i64 s3, .pointer p3]) (by simp [results, Tryz.results69, go_sem, c0, c1]) rfl ?_
  exact IntPost.boxed HB2.out (by omega) (HV.out.mono (fun k _ hk => ⟨hk.1, by have := hk.2; omega⟩))

set_option maxRecDepth 100000 in
set_option maxHeartbeats 1600000 in
theorem ceil_any (P : Nat → Prop) (x : Value) (q : Rat) (z : Int) (w : World) (hP : ∀ k, w.heap.size ≤ k → P k) (hx : IsFr P w x q) (hq : RT 400 q) (hz : Hid (q.ceil = z)) :
    Calls Tryz.prog 70 #[x] w (IntPost P z w) := by
  obtain ⟨s1, p1, s2, p2, rfl, hn, hd⟩ := hx
  have HP := Lib.hid hP
  have hA := boxes2 w (.cells #[.int .i64 s1, .pointer p1, .int .i64 s2, .pointer p2] 63) (.cells #[.int .i64 0, .pointer none] 61)
  have HF : Hid (IsFr (Bar 2 P w) ((w.alloc (.cells #[.int .i64 s1, .pointer p1, .int .i64 s2, .pointer p2] 63)).alloc (.cells #[.int .i64 0, .pointer none] 61)) (.agg #[.int .i64 s1, .pointer p1, .int .i64 s2, .pointer p2]) q) := Lib.hid ⟨s1, p1, s2, p2, rfl, hn.bar (m := 2) hA, hd.bar (m := 2) hA⟩
  have HW0 := Lib.hid hA
  have HX := Lib.hid (second_box w (.cells #[.int .i64 s1, .pointer p1, .int .i64 s2, .pointer p2] 63) (.int .i64 0) (.pointer none) 61 ())
  have HQ := Lib.hid hq.neg
  have HFZ : Hid ((-q).floor = -z) := Lib.hid (by have h := hz.out; rw [Rat.ceil_eq_neg_floor_neg] at h; omega)
  clear hP hA hn hd hq
  go_enter Tryz.func70, Tryz.ntmps70
  go_wp2_with fail
  refine (negated_any (Bar 2 P w) _ q (-q) _ (fun k hk => Bar.new HP.out k (Nat.le_trans (by simp) hk)) HF.out (Lib.hid rfl)).mono ?_
  rintro e w1 ⟨v1, rfl, hv1, hb1⟩
  have HV1 := Lib.hid hv1
  have HW1 := Lib.hid (HW0.out.trans (hb1.mono HW0.out.size))
  have HX1 := Lib.hid (HX.out.below hb1 HX.out.lt)
  have hz1 : w.heap.size + 2 ≤ w1.heap.size := by have := HX1.out.lt; omega
  have HZ1 := Lib.hid hz1
  obtain ⟨a1, b1, a2, b2, rfl, _, _⟩ := hv1
  clear hb1 HX HW0 HF hz1
  go_wp2_with fail
  refine (floor_any (Bar 2 P w) _ (-q) (-z) _ (fun k hk => Bar.new HP.out k (Nat.le_trans HZ1.out hk)) HV1.out HQ.out HFZ).mono ?_
  rintro e w2 ⟨v2, rfl, hv2, hb2⟩
  have HV2 := Lib.hid hv2
  have HW2 := Lib.hid (HW1.out.trans (hb2.mono HW1.out.size))
  have HX2 := Lib.hid (HX1.out.below hb2 HX1.out.lt)
  have HZ2 := Lib.hid (Nat.le_trans HZ1.out hb2.size)
  obtain ⟨a3, b3, rfl⟩ := hv2.form
  clear hv2 hb2 HX1 HW1 HV1 HZ1
  go_wp2_with fail
  refine (Negated_any (Bar 2 P w) _ (-z) _ (fun k hk => Bar.new HP.out k (Nat.le_trans HZ2.out hk)) HV2.out).mono ?_
  rintro e w3 ⟨v3, rfl, hv3, hb3⟩
  rw [Int.neg_neg] at hv3
  have HV3 := Lib.hid hv3
  have HW3 := Lib.hid (HW2.out.trans (hb3.mono HW2.out.size))
  have hX := HX2.out.below hb3 HX2.out.lt
  obtain ⟨a4, b4, rfl⟩ := hv3.form
  obtain ⟨c0, c1, c2, c3⟩ := hX.cell
  clear hv3 hb3 HX2 HW2 HV2 hX HZ2
  go_wp2
  refine bodyPost_ret (v := .agg #[.int .i64 a4, .pointer b4]) (by simp [results, Tryz.results70, go_sem, c0, c1]) rfl ?_
  exact IntPost.boxed HW3.out (by omega) (HV3.out.mono (fun k _ hk => ⟨hk.1, by have := hk.2; omega⟩))

/-- What Floor and Ceil return. -/
def RndRes (h : Rat → Int) (a s : ByteArray) (e : Int) : Prop :=
  match rval a.data.toList with
  | some q => s = ⟨(Lib.itoa (h q)).toArray⟩ ∧ e = 0
  | none => s = ⟨#[]⟩ ∧ e = 3

theorem floor_limbs (q : Rat) (h : RT 400 q) : (ds 1000000000 q.floor.natAbs).length ≤ 1000 := by
  have h1 := (h.limbs 45 (by omega)).1
  rw [Rat.floor_def]
  exact ds_le _ _ _ (Int.natAbs_ediv_le_natAbs _ _) (by omega)
theorem ceil_limbs (q : Rat) (h : RT 400 q) : (ds 1000000000 q.ceil.natAbs).length ≤ 1000 := by
  rw [Rat.ceil_eq_neg_floor_neg, Int.natAbs_neg]
  exact floor_limbs _ h.neg

set_option maxRecDepth 100000 in
set_option maxHeartbeats 1600000 in
theorem rounded_Floor (a s : ByteArray) (ec : Int) (w : World) (hr : Hid (RndRes Rat.floor a s ec)) (hsa : a.size ≤ 100000) (htab : Tab w) :
    Calls Tryz.prog 68 #[.string a, .func (.func 69) #[] #[]] w fun e w' => e = .returned (.tuple #[.string s, .int .i64 ec]) ∧ Below w.heap.size w w' := by
  have HT := Lib.hid htab
  clear htab
  cases ho : rval a.data.toList with
  | none =>
    have hse := hr.out
    unfold RndRes at hse
    rw [ho] at hse
    obtain ⟨rfl, rfl⟩ := hse
    have HO := Lib.hid ho
    clear ho
    go_enter Tryz.func68, Tryz.ntmps68
    go_wp2_with fail
    refine (read_any Ev a none _ Ev.all HO hsa).mono ?_
    rintro e w1 ⟨s1, p1, s2, p2, rfl, hv, hb⟩
    rw [show (none : Option Rat).isSome = false from rfl]
    have HB := Lib.hid hb
    clear hv hb
    go_wp2
    go_ret2
    exact ⟨rfl, HB.out.alloc HB.out.size _⟩
  | some q =>
    have hse := hr.out
    unfold RndRes at hse
    rw [ho] at hse
    obtain ⟨hs, rfl⟩ := hse
    have HS := Lib.hid (And.intro trivial hs)
    have HRT := Lib.hid (RT.val ho)
    have HO := Lib.hid ho
    obtain ⟨z, hz⟩ : ∃ z, Rat.floor q = z := ⟨_, rfl⟩
    have HZ := Lib.hid hz
    have HL := Lib.hid (floor_limbs q (RT.val ho))
    rw [hz] at HS HL
    clear ho hs hz
    go_enter Tryz.func68, Tryz.ntmps68
    go_wp2_with fail
    refine (read_any Ev a (some q) _ Ev.all HO hsa).mono ?_
    rintro e w1 ⟨s1, p1, s2, p2, rfl, hv, hb⟩
    rw [show (some q : Option Rat).isSome = true from rfl]
    have hA := (Below.refl w1.heap.size w1).alloc (Nat.le_refl _) (.cells #[.int .i64 s1, .pointer p1, .int .i64 s2, .pointer p2] 63)
    have HV := Lib.hid ((hv q rfl).kept (.all hA))
    have HB := Lib.hid (hb.trans (hA.mono hb.size))
    clear hv hb hA
    go_wp2_with fail
    refine (floor_any Ev _ q z _ Ev.all HV.out HRT.out HZ).mono ?_
    rintro e w2 ⟨v2, rfl, hv2, hb2⟩
    have HV2 := Lib.hid hv2
    have HB2 := Lib.hid (HB.out.trans (hb2.mono HB.out.size))
    obtain ⟨a3, b3, rfl⟩ := hv2.form
    clear hv2 hb2 HV HB
    go_wp2_with fail
    refine (Text_is Ev _ z s _ HV2.out HL.out HS (tab_keep HT.out HB2.out)).mono ?_
    rintro e w3 ⟨rfl, hb3⟩
    have HB3 := Lib.hid (HB2.out.trans (hb3.mono HB2.out.size))
    clear hb3
    go_wp2
    go_ret2
    exact ⟨rfl, HB3.out⟩

set_option maxRecDepth 100000 in
set_option maxHeartbeats 800000 in
theorem qFloor_any (a s : ByteArray) (ec : Int) (w : World) (hr : Hid (RndRes Rat.floor a s ec)) (hsa : a.size ≤ 100000) (htab : Tab w) :
    Calls Tryz.prog 33 #[.string a] w fun e w' => e = .returned (.tuple #[.string s, .int .i64 ec]) ∧ Below w.heap.size w w' := by
  have H := Lib.hid (rounded_Floor a s ec w hr hsa htab)
  go_enter Tryz.func33, Tryz.ntmps33
  go_wp2_with fail
  refine H.out.mono ?_
  rintro e w1 ⟨rfl, hb⟩
  go_wp2
  go_ret2
  exact ⟨rfl, hb⟩

set_option maxRecDepth 100000 in
set_option maxHeartbeats 1600000 in
theorem rounded_Ceil (a s : ByteArray) (ec : Int) (w : World) (hr : Hid (RndRes Rat.ceil a s ec)) (hsa : a.size ≤ 100000) (htab : Tab w) :
    Calls Tryz.prog 68 #[.string a, .func (.func 70) #[] #[]] w fun e w' => e = .returned (.tuple #[.string s, .int .i64 ec]) ∧ Below w.heap.size w w' := by
  have HT := Lib.hid htab
  clear htab
  cases ho : rval a.data.toList with
  | none =>
    have hse := hr.out
    unfold RndRes at hse
    rw [ho] at hse
    obtain ⟨rfl, rfl⟩ := hse
    have HO := Lib.hid ho
    clear ho
    go_enter Tryz.func68, Tryz.ntmps68
    go_wp2_with fail
    refine (read_any Ev a none _ Ev.all HO hsa).mono ?_
    rintro e w1 ⟨s1, p1, s2, p2, rfl, hv, hb⟩
    rw [show (none : Option Rat).isSome = false from rfl]
    have HB := Lib.hid hb
    clear hv hb
    go_wp2
    go_ret2
    exact ⟨rfl, HB.out.alloc HB.out.size _⟩
  | some q =>
    have hse := hr.out
    unfold RndRes at hse
    rw [ho] at hse
    obtain ⟨hs, rfl⟩ := hse
    have HS := Lib.hid (And.intro trivial hs)
    have HRT := Lib.hid (RT.val ho)
    have HO := Lib.hid ho
    obtain ⟨z, hz⟩ : ∃ z, Rat.ceil q = z := ⟨_, rfl⟩
    have HZ := Lib.hid hz
    have HL := Lib.hid (ceil_limbs q (RT.val ho))
    rw [hz] at HS HL
    clear ho hs hz
    go_enter Tryz.func68, Tryz.ntmps68
    go_wp2_with fail
    refine (read_any Ev a (some q) _ Ev.all HO hsa).mono ?_
    rintro e w1 ⟨s1, p1, s2, p2, rfl, hv, hb⟩
    rw [show (some q : Option Rat).isSome = true from rfl]
    have hA := (Below.refl w1.heap.size w1).alloc (Nat.le_refl _) (.cells #[.int .i64 s1, .pointer p1, .int .i64 s2, .pointer p2] 63)
    have HV := Lib.hid ((hv q rfl).kept (.all hA))
    have HB := Lib.hid (hb.trans (hA.mono hb.size))
    clear hv hb hA
    go_wp2_with fail
    refine (ceil_any Ev _ q z _ Ev.all HV.out HRT.out HZ).mono ?_
    rintro e w2 ⟨v2, rfl, hv2, hb2⟩
    have HV2 := Lib.hid hv2
    have HB2 := Lib.hid (HB.out.trans (hb2.mono HB.out.size))
    obtain ⟨a3, b3, rfl⟩ := hv2.form
    clear hv2 hb2 HV HB
    go_wp2_with fail
    refine (Text_is Ev _ z s _ HV2.out HL.out HS (tab_keep HT.out HB2.out)).mono ?_
    rintro e w3 ⟨rfl, hb3⟩
    have HB3 := Lib.hid (HB2.out.trans (hb3.mono HB2.out.size))
    clear hb3
    go_wp2
    go_ret2
    exact ⟨rfl, HB3.out⟩

set_option maxRecDepth 100000 in
set_option maxHeartbeats 800000 in
theorem qCeil_any (a s : ByteArray) (ec : Int) (w : World) (hr : Hid (RndRes Rat.ceil a s ec)) (hsa : a.size ≤ 100000) (htab : Tab w) :
    Calls Tryz.prog 34 #[.string a] w fun e w' => e = .returned (.tuple #[.string s, .int .i64 ec]) ∧ Below w.heap.size w w' := by
  have H := Lib.hid (rounded_Ceil a s ec w hr hsa htab)
  go_enter Tryz.func34, Tryz.ntmps34
  go_wp2_with fail
  refine H.out.mono ?_
  rintro e w1 ⟨rfl, hb⟩
  go_wp2
  go_ret2
  exact ⟨rfl, hb⟩


end Go.Proofs.YtpnofebhpeiepaaGreatDoor
set_option linter.unusedVariables false
set_option linter.unusedSimpArgs false
namespace Go.Proofs.YtpnofebhpeiepaaGreatDoor
open Go.RowKit _root_.Go.Proofs.YtpnofebhpeiepaaGreatDoor.Nm

/-- What Make returns. -/
def MakeRes (n d s : ByteArray) (e : Int) : Prop :=
  if (canon n.data.toList && canon d.data.toList) = true then QuoIs (zv n.data.toList) (zv d.data.toList) s e else s = ⟨#[]⟩ ∧ e = 3

theorem MakeRes.bad {n d s : ByteArray} {e : Int} (h : MakeRes n d s e) (hc : (canon n.data.toList && canon d.data.toList) = false) : s = ⟨#[]⟩ ∧ e = 3 := by
  unfold MakeRes at h
  rw [if_neg (by rw [hc]; exact Bool.false_ne_true)] at h
  exact h
theorem MakeRes.good {n d s : ByteArray} {e : Int} (h : MakeRes n d s e) (hc : (canon n.data.toList && canon d.data.toList) = true) : QuoIs (zv n.data.toList) (zv d.data.toList) s e := by
  unfold MakeRes at h
  rwa [if_pos hc] at h

set_option maxRecDepth 100000 in
set_option maxHeartbeats 1600000 in
theorem qMake_any (n d s : ByteArray) (ec : Int) (w : World) (hr : Hid (MakeRes n d s ec)) (htab : Tab w) :
    Calls Tryz.prog 16 #[.string n, .string d] w fun e w' => e = .returned (.tuple #[.string s, .int .i64 ec]) ∧ Below w.heap.size w w' := by
  have HT := Lib.hid htab
  clear htab
  cases kn : canon n.data.toList
  · obtain ⟨rfl, rfl⟩ := hr.out.bad (by rw [kn]; rfl)
    have KN := Lib.hid kn
    clear kn hr
    go_enter Tryz.func16, Tryz.ntmps16
    go_wp2_with fail
    refine (Valid_to n _ KN _).mono ?_
    rintro e w9 ⟨rfl, rfl⟩
    go_wp2
    go_ret2
    exact ⟨rfl, Below.refl _ _⟩
  · cases kd : canon d.data.toList
    · obtain ⟨rfl, rfl⟩ := hr.out.bad (by rw [kn, kd]; rfl)
      have KN := Lib.hid kn
      have KD := Lib.hid kd
      clear kn kd hr
      go_enter Tryz.func16, Tryz.ntmps16
      go_wp2_with fail
      refine (Valid_to n _ KN _).mono ?_
      rintro e w9 ⟨rfl, rfl⟩
      go_wp2_with fail
      refine (Valid_to d _ KD _).mono ?_
      rintro e w9 ⟨rfl, rfl⟩
      go_wp2
      go_ret2
      exact ⟨rfl, Below.refl _ _⟩
    · have hq := hr.out.good (by rw [kn, kd]; rfl)
      have ta := zv_ten _ kn
      have tb := zv_ten _ kd
      have KN := Lib.hid kn
      have KD := Lib.hid kd
      obtain ⟨a, ha⟩ : ∃ a, zv n.data.toList = a := ⟨_, rfl⟩
      obtain ⟨b, hb0⟩ : ∃ a, zv d.data.toList = a := ⟨_, rfl⟩
      rw [ha, hb0] at hq
      rw [ha] at ta
      rw [hb0] at tb
      have HQ := Lib.hid hq
      have HVA := Lib.hid (And.intro trivial ha)
      have HVB := Lib.hid (And.intro trivial hb0)
      have HLL : Hid ((ds 1000000000 a.natAbs).length ≤ 900 ∧ (ds 1000000000 b.natAbs).length ≤ 900) := Lib.hid ⟨limbs_of_ten ta 900 (by omega), limbs_of_ten tb 900 (by omega)⟩
      clear kn kd hr ha hb0 ta tb hq
      go_enter Tryz.func16, Tryz.ntmps16
      go_wp2_with fail
      refine (Valid_to n _ KN _).mono ?_
      rintro e w9 ⟨rfl, rfl⟩
      go_wp2_with fail
      refine (Valid_to d _ KD _).mono ?_
      rintro e w9 ⟨rfl, rfl⟩
      go_wp2_with fail
      refine (Read_any Ev n KN.out _ Ev.all).mono ?_
      rintro e w1 ⟨v, rfl, hv, hb⟩
      rw [HVA.out.2] at hv
      have HV1 := Lib.hid hv
      have HB1 := Lib.hid hb
      obtain ⟨s1, p1, rfl⟩ := hv.form
      clear hv hb
      go_wp2_with fail
      refine (Read_any Ev d KD.out _ Ev.all).mono ?_
      rintro e w2 ⟨v, rfl, hv, hb⟩
      rw [HVB.out.2] at hv
      have HV2 := Lib.hid hv
      have HV3 := Lib.hid (HV1.out.kept (.all hb))
      have HB2 := Lib.hid (HB1.out.trans (hb.mono HB1.out.size))
      obtain ⟨s2, p2, rfl⟩ := hv.form
      clear hv hb HV1 HB1
      go_wp2_with fail
      refine (quotientText_any Ev _ _ a b s ec _ Ev.all HV3.out HV2.out HQ HLL.out.1 HLL.out.2 (tab_keep HT.out HB2.out)).mono ?_
      rintro e w3 ⟨rfl, hb⟩
      have HB3 := Lib.hid (HB2.out.trans (hb.mono HB2.out.size))
      clear hb
      go_wp2
      go_ret2
      exact ⟨rfl, HB3.out⟩

/-- What Parts returns. -/
def PartsRes (a n d : ByteArray) (e : Int) : Prop :=
  match rval a.data.toList with
  | some q => n = ⟨(Lib.itoa q.num).toArray⟩ ∧ d = ⟨(Lib.itoa (q.den : Int)).toArray⟩ ∧ e = 0
  | none => n = ⟨#[]⟩ ∧ d = ⟨#[]⟩ ∧ e = 3

set_option maxRecDepth 100000 in
set_option maxHeartbeats 1600000 in
theorem qParts_any (a n d : ByteArray) (ec : Int) (w : World) (hr : Hid (PartsRes a n d ec)) (hsa : a.size ≤ 100000) (htab : Tab w) :
    Calls Tryz.prog 11 #[.string a] w fun e w' => e = .returned (.tuple #[.string n, .string d, .int .i64 ec]) ∧ Below w.heap.size w w' := by
  have HT := Lib.hid htab
  clear htab
  cases ho : rval a.data.toList with
  | none =>
    have hse := hr.out
    unfold PartsRes at hse
    rw [ho] at hse
    obtain ⟨rfl, rfl, rfl⟩ := hse
    have HO := Lib.hid ho
    clear ho
    go_enter Tryz.func11, Tryz.ntmps11
    go_wp2_with fail
    refine (read_any Ev a none _ Ev.all HO hsa).mono ?_
    rintro e w1 ⟨s1, p1, s2, p2, rfl, hv, hb⟩
    rw [show (none : Option Rat).isSome = false from rfl]
    have HB := Lib.hid hb
    clear hv hb
    go_wp2
    go_ret3
    exact ⟨rfl, HB.out.alloc HB.out.size _⟩
  | some q =>
    have hse := hr.out
    unfold PartsRes at hse
    rw [ho] at hse
    obtain ⟨hn, hd, rfl⟩ := hse
    have HSN := Lib.hid (And.intro trivial hn)
    have HSD := Lib.hid (And.intro trivial hd)
    have HL := Lib.hid ((RT.val ho).limbs 1000 (by omega))
    have HO := Lib.hid ho
    clear ho hn hd
    go_enter Tryz.func11, Tryz.ntmps11
    go_wp2_with fail
    refine (read_any Ev a (some q) _ Ev.all HO hsa).mono ?_
    rintro e w1 ⟨s1, p1, s2, p2, rfl, hv, hb⟩
    rw [show (some q : Option Rat).isSome = true from rfl]
    have hA := ((Below.refl w1.heap.size w1).alloc (Nat.le_refl _) (.cells #[.int .i64 s1, .pointer p1, .int .i64 s2, .pointer p2] 63)).drew
    obtain ⟨x1, y1, x2, y2, hx, hn, hd⟩ := hv q rfl
    cases hx
    have HN := Lib.hid (hn.kept (.all hA))
    have HD := Lib.hid (hd.kept (.all hA))
    have HB := Lib.hid (hb.trans (hA.mono hb.size))
    have HX1 := Lib.hid (B4.new w1 (.int .i64 s1) (.pointer p1) (.int .i64 s2) (.pointer p2) 63).drew
    clear hv hb hA hn hd
    obtain ⟨c0, c1, c2, c3⟩ := HX1.out.cell
    go_wp2_with fail
    go_region_held3 (fun w' => w'.cell? ⟨w1.heap.size, 0, none⟩ = some (.int .i64 s1) ∧ w'.cell? ⟨w1.heap.size, 1, none⟩ = some (.pointer p1) ∧ w'.cell? ⟨w1.heap.size, 2, none⟩ = some (.int .i64 s2) ∧ w'.cell? ⟨w1.heap.size, 3, none⟩ = some (.pointer p2)) (first | ((try dsimp only); (repeat' apply And.intro); all_goals with_reducible assumption) | go_keep) (first | (go_at_call 45; have hgd := hw2; clear hgd; refine (Text_is Ev _ q.den d _ (by exact hD2) HL.out.2 HSD (by exact tab_keep HT.out hw2)).mono ?_; rintro e w3 ⟨rfl, hb3⟩; have hY3 := hY2.below hb3 hY2.lt; have hw3 := hw2.trans (hb3.mono hw2.size); clear d0 d1 d2 d3; obtain ⟨e0, e1, e2, e3⟩ := hY3.cell) | (go_at_call 45; refine (Text_is Ev _ q.num n _ (by exact HN.out) HL.out.1 HSN (by exact tab_keep HT.out HB.out)).mono ?_; rintro e w2 ⟨rfl, hb2⟩; have hY2 := HX1.out.below hb2 HX1.out.lt; have hD2 := HD.out.kept (.all hb2); have hw2 := HB.out.trans (hb2.mono HB.out.size); clear c0 c1 c2 c3; obtain ⟨d0, d1, d2, d3⟩ := hY2.cell))
    have HW3 := Lib.hid hw3
    clear hw3 hw2 hD2 hY2 hY3 e0 e1 e2 e3 hb2 hb3
    go_wp2
    go_ret3
    exact ⟨rfl, HW3.out⟩

/-- What Neg returns. -/
def NegRes (a s : ByteArray) : Prop :=
  match rval a.data.toList with
  | some q => s = ⟨(rt (-q)).toArray⟩
  | none => s = ⟨#[]⟩

set_option maxRecDepth 100000 in
set_option maxHeartbeats 1600000 in
theorem qNeg_any (a s : ByteArray) (w : World) (hr : Hid (NegRes a s)) (hsa : a.size ≤ 100000) (htab : Tab w) :
    Calls Tryz.prog 35 #[.string a] w fun e w' => e = .returned (.string s) ∧ Below w.heap.size w w' := by
  have HT := Lib.hid htab
  clear htab
  cases ho : rval a.data.toList with
  | none =>
    have hse := hr.out
    unfold NegRes at hse
    rw [ho] at hse
    change s = ⟨#[]⟩ at hse
    subst hse
    have HO := Lib.hid ho
    clear ho
    go_enter Tryz.func35, Tryz.ntmps35
    go_wp2_with fail
    refine (read_any Ev a none _ Ev.all HO hsa).mono ?_
    rintro e w1 ⟨s1, p1, s2, p2, rfl, hv, hb⟩
    rw [show (none : Option Rat).isSome = false from rfl]
    have HB := Lib.hid hb
    clear hv hb
    go_wp2
    go_ret
    exact ⟨rfl, HB.out.alloc HB.out.size _⟩
  | some q =>
    have hse := hr.out
    unfold NegRes at hse
    rw [ho] at hse
    change s = ⟨(rt (-q)).toArray⟩ at hse
    have hrt := (RT.val ho).neg
    have HTI : Hid (TextIs (-q) s true) := Lib.hid (.inl ⟨hrt.short (by omega), rfl, hse⟩)
    have HL := Lib.hid (hrt.limbs 1000 (by omega))
    have HO := Lib.hid ho
    clear ho hse hrt
    go_enter Tryz.func35, Tryz.ntmps35
    go_wp2_with fail
    refine (read_any Ev a (some q) _ Ev.all HO hsa).mono ?_
    rintro e w1 ⟨s1, p1, s2, p2, rfl, hv, hb⟩
    rw [show (some q : Option Rat).isSome = true from rfl]
    have hA := (Below.refl w1.heap.size w1).alloc (Nat.le_refl _) (.cells #[.int .i64 s1, .pointer p1, .int .i64 s2, .pointer p2] 63)
    have HV := Lib.hid ((hv q rfl).kept (.all hA))
    have HB := Lib.hid (hb.trans (hA.mono hb.size))
    clear hv hb hA
    go_wp2_with fail
    refine (negated_any Ev _ q (-q) _ Ev.all HV.out (Lib.hid rfl)).mono ?_
    rintro e w2 ⟨v2, rfl, hv2, hb2⟩
    have HV2 := Lib.hid hv2
    have HB2 := Lib.hid (HB.out.trans (hb2.mono HB.out.size))
    obtain ⟨a3, b3, a4, b4, rfl, _, _⟩ := hv2
    clear hb2 HV HB
    go_wp2_with fail
    refine (text_any Ev _ (-q) s true _ HV2.out HTI HL.out.1 HL.out.2 (tab_keep HT.out HB2.out)).mono ?_
    rintro e w3 ⟨rfl, hb3⟩
    have HB3 := Lib.hid (HB2.out.trans (hb3.mono HB2.out.size))
    clear hb3
    go_wp2
    go_ret
    exact ⟨rfl, HB3.out⟩

end Go.Proofs.YtpnofebhpeiepaaGreatDoor
set_option linter.unusedVariables false
set_option linter.unusedSimpArgs false
namespace Go.Proofs.YtpnofebhpeiepaaGreatDoor
open Go.RowKit _root_.Go.Proofs.YtpnofebhpeiepaaGreatDoor.Nm

theorem qex_make : MakeRes ⟨#[54]⟩ ⟨#[45, 52]⟩ ⟨#[45, 51, 47, 50]⟩ 0 := by
  unfold MakeRes
  rw [if_pos (by decide +kernel)]
  exact .short (by decide +kernel) rfl (RIs.of (by decide +kernel))
theorem qex_half : RIs ⟨#[49, 47, 50]⟩ (Rat.divInt 1 2) := RIs.of (by decide +kernel)
theorem qex_third : RIs ⟨#[49, 47, 51]⟩ (Rat.divInt 1 3) := RIs.of (by decide +kernel)
theorem qex_add : OpRes fAdd gAdd ⟨#[49, 47, 50]⟩ ⟨#[49, 47, 51]⟩ ⟨#[53, 47, 54]⟩ 0 :=
  Add_res qex_half qex_third (RIs.of (q := Rat.divInt 5 6) (by decide +kernel)) (by decide +kernel)
theorem qex_floor : RndRes Rat.floor ⟨#[45, 49, 47, 50]⟩ ⟨#[45, 49]⟩ 0 := by
  unfold RndRes
  rw [show rval (⟨#[45, 49, 47, 50]⟩ : ByteArray).data.toList = some (Rat.divInt (-1) 2) from by decide +kernel]
  exact ⟨by decide +kernel, rfl⟩
theorem str_one : RIs ⟨#[49]⟩ 1 := RIs.of (by decide +kernel)
theorem qstr_zero : RIs ⟨#[48]⟩ 0 := RIs.of (by decide +kernel)
theorem qex_div : OpRes fDiv gDiv ⟨#[49]⟩ ⟨#[48]⟩ ⟨#[]⟩ 24 := Div_zero str_one qstr_zero rfl
theorem qex_cmp : cmpVal ⟨#[49, 47, 51]⟩ ⟨#[49, 47, 50]⟩ = -1 := by
  unfold cmpVal
  rw [qex_half.val, qex_third.val]
  decide +kernel
theorem qex_valid : (rval (⟨#[52, 47, 50]⟩ : ByteArray).data.toList).isSome = false := by decide +kernel

set_option maxRecDepth 100000 in
set_option maxHeartbeats 1600000 in
theorem qawake_any (w : World) (htab : Tab w) : Calls Tryz.prog 10 #[] w fun e w' => e = .returned (.bool true) ∧ Below w.heap.size w w' := by
  have HT := Lib.hid htab
  clear htab
  go_enter Tryz.func10, Tryz.ntmps10
  go_wp2_with fail
  refine (qMake_any _ _ _ 0 _ (Lib.hid qex_make) HT.out).mono ?_
  rintro e w1 ⟨rfl, hb1⟩
  have HB1 := Lib.hid hb1
  clear hb1
  go_wp2_with fail
  refine (qAdd_any _ _ _ 0 _ (Lib.hid qex_add) (by decide) (by decide) (tab_keep HT.out HB1.out)).mono ?_
  rintro e w2 ⟨rfl, hb2⟩
  have HB2 := Lib.hid (HB1.out.trans (hb2.mono HB1.out.size))
  clear hb2
  go_wp2_with fail
  refine (qFloor_any _ _ 0 _ (Lib.hid qex_floor) (by decide) (tab_keep HT.out HB2.out)).mono ?_
  rintro e w3 ⟨rfl, hb3⟩
  have HB3 := Lib.hid (HB2.out.trans (hb3.mono HB2.out.size))
  clear hb3
  go_wp2_with fail
  refine (qDiv_any _ _ _ 24 _ (Lib.hid qex_div) (by decide) (by decide) (tab_keep HT.out HB3.out)).mono ?_
  rintro e w4 ⟨rfl, hb4⟩
  have HB4 := Lib.hid (HB3.out.trans (hb4.mono HB3.out.size))
  clear hb4
  go_wp2_with fail
  refine (qCmp_any _ _ (-1) _ (Lib.hid qex_cmp) (by decide) (by decide)).mono ?_
  rintro e w5 ⟨rfl, hb5⟩
  have HB5 := Lib.hid (HB4.out.trans (hb5.mono HB4.out.size))
  clear hb5
  go_wp2_with fail
  refine (qValid_any _ false _ (Lib.hid qex_valid) (by decide)).mono ?_
  rintro e w6 ⟨rfl, hb6⟩
  have HB6 := Lib.hid (HB5.out.trans (hb6.mono HB5.out.size))
  clear hb6
  go_wp2
  go_ret
  exact ⟨rfl, HB6.out⟩

end Go.Proofs.YtpnofebhpeiepaaGreatDoor
