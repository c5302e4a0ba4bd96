/- What readNatural does. -/
import Derived.Test.YtmdppblhbmbakaaGreatDoorV1
import Derived.Test.YtmdppblhbmbakaaGreatDoorN6
set_option linter.unusedVariables false
set_option linter.unusedSimpArgs false
namespace Go.Proofs.YtmdppblhbmbakaaGreatDoor
open Go.RowKit _root_.Go.Proofs.YtmdppblhbmbakaaGreatDoor.Nm

theorem all_take (l : List UInt8) (n : Nat) (h : l.all isDig = true) : (l.take n).all isDig = true :=
  List.all_eq_true.2 fun c hc => List.all_eq_true.1 h c (List.mem_of_mem_take hc)
theorem all_drop (l : List UInt8) (n : Nat) (h : l.all isDig = true) : (l.drop n).all isDig = true :=
  List.all_eq_true.2 fun c hc => List.all_eq_true.1 h c (List.mem_of_mem_drop hc)

/-- One limb more. -/
theorem read_limb (l : List UInt8) (e : Nat) (he : e ≤ l.length) (h : l.all isDig = true) :
    tv (l.take e) = tv ((l.take e).drop (e - 9)) + 1000000000 * tv (l.take (e - 9)) := by
  have h1 : l.take e = l.take (e - 9) ++ (l.take e).drop (e - 9) := by
    conv => lhs; rw [← List.take_append_drop (e - 9) (l.take e)]
    rw [List.take_take, Nat.min_eq_left (by omega)]
  conv => lhs; rw [h1]
  rw [tv_append]
  by_cases h9 : 9 ≤ e
  · rw [show ((l.take e).drop (e - 9)).length = 9 from by rw [List.length_drop, List.length_take]; omega]
  · rw [show e - 9 = 0 from by omega, List.take_zero, tv_nil]
    simp

theorem read_digit (l : List UInt8) (b j : Nat) (c : UInt8) (hc : l[b + j]? = some c) : tv ((l.drop b).take (j + 1)) = dig c + 10 * tv ((l.drop b).take j) := by
  rw [List.take_add_one, List.getElem?_drop, hc]
  exact tv_snoc _ _

theorem read_next (l : List UInt8) (e b : Nat) (zs : List Nat) (x m : Nat) (he2 : e ≤ l.length) (hk : zs.length < m) {i2 : Nat} (hie : i2 = e - b) (he : e = l.length - 9 * zs.length) (hb : b = e - 9)
    (hd : l.all isDig = true) (hz : ∀ z ∈ zs, z < 1000000000) (hv : tv l = vl 1000000000 zs + 1000000000 ^ zs.length * tv (l.take (l.length - 9 * zs.length))) (hx : x = tv ((l.drop b).take i2)) :
    (∀ z ∈ zs ++ [x], z < 1000000000) ∧ tv l = vl 1000000000 (zs ++ [x]) + 1000000000 ^ (zs ++ [x]).length * tv (l.take (l.length - 9 * (zs ++ [x]).length)) := by
  have hx2 := hx
  rw [hie, ← List.drop_take] at hx2
  have hn := read_limb l e he2 hd
  rw [← hb, ← hx2] at hn
  refine ⟨?_, ?_⟩
  · intro z h
    rcases List.mem_append.1 h with h | h
    · exact hz z h
    · rw [List.mem_singleton] at h
      have h1 := tv_lt ((l.drop b).take i2) (all_take _ _ (all_drop _ _ hd))
      rw [← hx] at h1
      have h2 : ((l.drop b).take i2).length ≤ 9 := by rw [List.length_take]; omega
      have h3 := Nat.pow_le_pow_right (n := 10) (by omega) h2
      omega
  · rw [← he, hn] at hv
    rw [List.length_append, List.length_singleton, show l.length - 9 * (zs.length + 1) = b from by omega, vl_append, hv, Nat.pow_succ, Nat.mul_add, Nat.mul_assoc]
    simp [vl]
    omega

set_option maxRecDepth 100000 in
set_option maxHeartbeats 1600000 in
theorem readNatural_any (t : ByteArray) (h0 : 0 < t.size) (hl : t.size ≤ 400) (hd : t.data.toList.all isDig = true) (w : World) :
    Calls Tryz.prog 153 #[.string t] w (NatPost (tv t.data.toList) w) := by
  obtain ⟨i0, hi, hz0, hz1, hz2⟩ := info_parts info32
  have HZ2 := Lib.hid hz2
  have HI := Lib.hid hi
  have HZ0 := Lib.hid hz0
  have HZ1 := Lib.hid hz1
  have HD := Lib.hid hd
  clear hz2 hi hz0 hz1 hd
  obtain ⟨m, hm⟩ : ∃ m, m = (t.size + 8) / 9 := ⟨_, rfl⟩
  have hm1 : 9 * m ≤ t.size + 8 := by omega
  have hm2 : t.size ≤ 9 * m := by omega
  have HM := Lib.hid (show ((t.size : Int) + 9 - 1) / 9 = m by omega)
  clear hm
  go_enter Tryz.func153, Tryz.ntmps153
  go_wp2_with (rw [HM.out]; refine wpList_make_full _ rfl (.tmp 12) (.tmp 12) 176 rfl w.heap.size 199 i0 (.int .u32 0) 1 Tryz.underlying176 HI.out HZ0.out HZ1.out .i64 .i64 _ _ m rfl rfl (by simp) (by simp) (by rw [HZ2.out]; omega) (by unfold maxLen; omega) (Nat.le_refl _) ?_; intro w1 hown hgrow; refine hold ?_)
  rw [made_zeros] at hown
  obtain ⟨hO, _⟩ := own_of_full (by simp) hown
  have HO := Lib.hid hO
  have HW := Lib.hid ((Below.refl w.heap.size w).grown hgrow (Nat.le_refl _) (fun k hk => by simp at hk))
  clear hown hgrow hO
  refine go_on ?_
  go_wp2
  go_loopw [16] (fun j wr => ∃ zs : List Nat, zs.length ≤ m ∧ j = .int .i64 zs.length ∧ Hid (∀ z ∈ zs, z < 1000000000) ∧ Hid (tv t.data.toList = vl 1000000000 zs + 1000000000 ^ zs.length * tv (t.data.toList.take (t.size - 9 * zs.length))) ∧
      Hid (Own .u32 199 wr w.heap.size (zs ++ List.replicate (m - zs.length) 0)) ∧ Hid (Below w.heap.size w wr)) (fun j _ => m - (intOf j).toNat)
  case atStart => exact ⟨[], by simp, rfl, Lib.hid (by simp), Lib.hid (by simp [vl, List.take_of_length_le, len_size]), Lib.hid HO.out, HW⟩
  case round =>
    obtain ⟨zs, hk, rfl, HZ, HV, HOW, HBL⟩ := hrel
    by_cases hlt : zs.length < m
    · have hlt' : (zs.length : Int) < m := by omega
      obtain ⟨e, he⟩ : ∃ e, e = t.size - 9 * zs.length := ⟨_, rfl⟩
      have he1 : 1 ≤ e := by omega
      have he2 : e ≤ t.size := by omega
      have he3 : (t.size : Int) - (zs.length : Int) * 9 = e := by omega
      obtain ⟨b, hb⟩ : ∃ b, b = e - 9 := ⟨_, rfl⟩
      have hb1 : b ≤ e := by omega
      have hb2 : e ≤ b + 9 := by omega
      have hb3 : max ((e : Int) - 9) 0 = b := by omega
      have HE := Lib.hid he
      have HB := Lib.hid hb
      clear he hb
      go_wp2
      have HOW1 : Hid (Own .u32 199 wr w.heap.size (zs ++ (0 :: List.replicate (m - zs.length - 1) 0))) := Lib.hid (by
        have := HOW.out
        rwa [show m - zs.length = (m - zs.length - 1) + 1 from by omega, List.replicate_succ] at this)
      clear HOW
      go_loopw [30] (fun j2 wr2 => ∃ i2 x : Nat, i2 ≤ e - b ∧ j2 = .int .i64 i2 ∧ Hid (x = tv ((t.data.toList.drop b).take i2)) ∧ Hid (Own .u32 199 wr2 w.heap.size (zs ++ (x :: List.replicate (m - zs.length - 1) 0))) ∧ Hid (Below w.heap.size w wr2)) (fun j2 _ => (e - b) - (intOf j2).toNat)
      case atStart => exact ⟨0, 0, by omega, rfl, Lib.hid (by rw [List.take_zero]; rfl), HOW1, HBL⟩
      case round =>
        obtain ⟨i2, x, hi2, rfl, HX, HOW2, HBL2⟩ := hrel
        by_cases hlt2 : i2 < e - b
        · have hlt2' : (i2 : Int) < (e : Int) - b := by omega
          have hbi : b + i2 < t.size := by omega
          have hdig := List.all_eq_true.1 HD.out t[b + i2] (List.mem_iff_getElem?.2 ⟨b + i2, byte_at t (b + i2) hbi⟩)
          have hx1 : x ≤ 99999999 := by
            have h1 := tv_lt ((t.data.toList.drop b).take i2) (all_take _ _ (all_drop _ _ HD.out))
            rw [← HX.out] at h1
            have h2 : ((t.data.toList.drop b).take i2).length ≤ 8 := by rw [List.length_take]; omega
            have h3 := Nat.pow_le_pow_right (n := 10) (by omega) h2
            omega
          have hc1 : wr.cell? ⟨w.heap.size, zs.length, none⟩ = some (.int .u32 (x : Nat)) := by
            rw [HOW2.out.cell zs.length (by simp)]; simp
          have hf1 : wr.frozen? ⟨w.heap.size, zs.length, none⟩ = false := HOW2.out.free _
          have hs : ((t[b + i2]).toNat : Int) - 48 = dig t[b + i2] := by unfold dig; simp [isDig] at hdig; omega
          have hdl := dig_lt _ hdig
          generalize hdg : dig t[b + i2] = d at hs hdl
          have HX' := Lib.hid (show x * 10 + d = tv ((t.data.toList.drop b).take (i2 + 1)) by rw [read_digit _ b i2 _ (byte_at t (b + i2) hbi), hdg, ← HX.out]; omega)
          have HOW2' := Lib.hid (show Own .u32 199 (wr.drew.setCell ⟨w.heap.size, zs.length, none⟩ (.int .u32 ((x : Int) * 10 + d))) w.heap.size (zs ++ ((x * 10 + d) :: List.replicate (m - zs.length - 1) 0)) by
            rw [show (x : Int) * 10 + d = ((x * 10 + d : Nat) : Int) from by simp]
            have h := (HOW2.out).set zs.length (x * 10 + d)
            rw [List.set_append_right _ _ (Nat.le_refl _), Nat.sub_self] at h
            exact h)
          have HBL2' := Lib.hid (show Below w.heap.size w (wr.drew.setCell ⟨w.heap.size, zs.length, none⟩ (.int .u32 ((x : Int) * 10 + d))) from HBL2.out.drew.trans ((Only.refl w.heap.size wr.drew).set _ _ |>.below (Nat.le_refl _)))
          clear hdig hdg
          go_wp2
          have e1 : IntKind.i64.wrap ((b : Int) + i2) = b + i2 := IntWalk.i64_in _ (by omega)
          have e2 : ((b : Int) + i2).toNat = b + i2 := by omega
          have e3 : (0 : Int) ≤ (b : Int) + i2 := by omega
          have e4 : (b : Int) + i2 < t.size := by omega
          have e5 : IntKind.u32.wrap ((x : Int) * 10) = x * 10 := IntWalk.u32_in _ (by omega)
          have e6 : IntKind.u8.wrap (d : Int) = d := IntWalk.u8_in _ (by omega)
          have e7 : IntKind.u32.wrap (d : Int) = d := IntWalk.u32_in _ (by omega)
          have e8 : IntKind.u32.wrap ((x : Int) * 10 + d) = x * 10 + d := IntWalk.u32_in _ (by omega)
          go_still_tail 16, (by kernel_rfl)
          change wpList _ _ _ _ _ wr.drew
          clear e1 e5 e6 e7 e8
          go_wp2
          go_roundw
          case rel => exact ⟨i2 + 1, x * 10 + d, by omega, by go_num, HX', HOW2', HBL2'⟩
          case measure => simp [intOf]; omega
        · have hie : i2 = e - b := by omega
          have HR := Lib.hid (read_next t.data.toList e b zs x m (by rw [len_size]; exact he2) hlt hie (by rw [len_size]; exact HE.out) HB.out HD.out HZ.out (by rw [len_size]; exact HV.out) HX.out)
          rw [len_size] at HR
          have HOW' : Hid (Own .u32 199 wr w.heap.size ((zs ++ [x]) ++ List.replicate (m - (zs ++ [x]).length) 0)) := Lib.hid (by
            rw [List.append_assoc, List.length_append, List.length_singleton, show m - (zs.length + 1) = m - zs.length - 1 from by omega]
            exact HOW2.out)
          have hle : (zs ++ [x]).length ≤ m := by rw [List.length_append, List.length_singleton]; omega
          have hlen : ((zs ++ [x]).length : Int) = zs.length + 1 := by simp
          have hge : ¬ (i2 : Int) < (e : Int) - b := by omega
          clear hie
          go_wp2
          go_roundw
          case rel => exact ⟨zs ++ [x], hle, by rw [hlen], Lib.hid HR.out.1, Lib.hid HR.out.2, HOW', HBL2⟩
          case measure => simp [intOf]; omega
    · have hke : zs.length = m := by omega
      have HV' : Hid (tv t.data.toList = vl 1000000000 zs) := Lib.hid (by
        have := HV.out
        rwa [show t.size - 9 * zs.length = 0 from by omega, List.take_zero, tv_nil, Nat.mul_zero, Nat.add_zero] at this)
      have HR : Hid (Rd .u32 wr (.slice (some ⟨w.heap.size, 0, none⟩) m m) zs) := Lib.hid (by
        have h := HOW.out
        rw [hke, Nat.sub_self, List.replicate_zero, List.append_nil] at h
        have h2 := h.rd m m (by omega) (Nat.le_refl _) (by omega)
        rwa [List.take_of_length_le (by omega)] at h2)
      have hge : ¬ (zs.length : Int) < m := by omega
      clear hke
      go_wp2_with fail
      refine (trim_any _ zs HZ.out _ HR.out).mono ?_
      rintro e w3 ⟨⟨v', rfl, hv, hsm⟩, rfl⟩
      rw [← HV'.out] at hv
      have HVV := Lib.hid hv
      have HFR := Lib.hid (Fr.of_same hsm (Nat.le_refl _))
      clear hv hsm
      go_wp2
      go_ret
      exact ⟨_, rfl, HVV.out, HFR.out, HBL.out⟩

end Go.Proofs.YtmdppblhbmbakaaGreatDoor
