/- What abs and multiples.sum do. -/
import Derived.Test.YtdkpcjfadabkbaaDoorJ7
import Derived.Test.YtdkpcjfadabkbaaDoorLh
set_option linter.unusedVariables false
set_option linter.unusedSimpArgs false
namespace Go.Proofs.YtdkpcjfadabkbaaDoor
open Go.RowKit _root_.Go.Proofs.YtdkpcjfadabkbaaDoor.Nm

theorem abs_any (n m : Int) (h1 : -9000000000000000000 ≤ n ∧ n ≤ 9000000000000000000) (h : Hid (max n (-n) = m)) (w : World) :
    Calls Tryd.prog 92 #[.int .i64 n] w fun e w' => e = .returned (.int .i64 m) ∧ w = w' := by
  have hw : IntKind.i64.wrap (-n) = -n := IntWalk.i64_in _ (by omega)
  go_enter Tryd.func92, Tryd.ntmps92
  go_wp2
  rw [h.out]
  go_ret
  exact ⟨rfl, rfl⟩

theorem msum_vl (Z1 Z2 P : Nat) (c1 c2 A B R u v : Int) (h1 : (Z1 : Int) + (P : Int) * c1 = 0 + u * A) (h2 : (Z2 : Int) + (P : Int) * c2 = Z1 + v * B) (hZ : Z2 < P) (hR : R = u * A + v * B) (h0 : 0 ≤ R) (h3 : R < P) : (Z2 : Int) = R := by
  have h : (Z2 : Int) + (P : Int) * (c1 + c2) = R := by rw [Int.mul_add, hR]; omega
  have := no_carry Z2 P (c1 + c2) R hZ h h0 h3
  rw [this] at h
  omega

set_option maxRecDepth 100000 in
set_option maxHeartbeats 1600000 in
theorem msum_to (aa ab : Option Addr) (ca cb : Nat) (u v R : Int) (xs ys : List Nat) (w : World) (hu : -1000000000 ≤ u ∧ u ≤ 1000000000) (hv : -1000000000 ≤ v ∧ v ≤ 1000000000) (ha : Rd .u32 w (.slice aa xs.length ca) xs) (hb : Rd .u32 w (.slice ab ys.length cb) ys)
    (hx : ∀ x ∈ xs, x < 1000000000) (hy : ∀ y ∈ ys, y < 1000000000) (la : xs.length ≤ 1000) (lb : ys.length ≤ xs.length) (hR : R = u * Nm.vl 1000000000 xs + v * Nm.vl 1000000000 ys) (h0 : 0 ≤ R) (hRx : R ≤ Nm.vl 1000000000 xs) :
    Calls Tryd.prog 75 #[.agg #[.int .i64 u, .int .i64 v], .slice aa xs.length ca, .slice ab ys.length cb] w (NatPost R.toNat w) := by
  have HA := Lib.hid ha
  have HB := Lib.hid hb
  have HX := Lib.hid hx
  have HY := Lib.hid hy
  have HRE := Lib.hid hR
  have HRX := Lib.hid hRx
  clear ha hb hx hy hR hRx
  obtain ⟨i0, hi, hz0, hz1, hz2⟩ := info_parts info32
  have HZ2 := Lib.hid hz2
  have HI := Lib.hid hi
  have HZ0 := Lib.hid hz0
  have HZ1 := Lib.hid hz1
  clear hz2 hi hz0 hz1
  obtain ⟨n, hn⟩ : ∃ n, xs.length = n := ⟨_, rfl⟩
  have HN := Lib.hid hn
  rw [hn] at la lb
  have HB0 := Lib.hid ((Below.refl w.heap.size w).alloc (Nat.le_refl _) (.cells #[.int .i64 u, .int .i64 v] 99))
  have hbx := Bx.new w (.int .i64 u) (.int .i64 v) 99
  have HBX := Lib.hid hbx
  clear hbx hn
  rw [HN.out]
  go_enter Tryd.func75, Tryd.ntmps75
  go_wp2_with (refine wpList_make_full _ rfl (.tmp 9) (.tmp 9) 70 rfl w.heap.size 87 i0 (.int .u32 0) 1 Tryd.underlying70 HI.out HZ0.out HZ1.out .i64 .i64 _ _ n rfl rfl (by simp) (by simp) (by rw [HZ2.out]; omega) (by unfold maxLen; omega) (by simp) ?_; intro w1 hown hgrow; refine hold ?_)
  rw [made_zeros] at hown
  rw [show (w.alloc (.cells #[.int .i64 u, .int .i64 v] 99)).heap.size = w.heap.size + 1 from World.size_alloc ..] at hown
  obtain ⟨hO, _⟩ := own_of_full (by simp) hown
  have hg1 := (Below.refl _ _).grown hgrow (Nat.le_refl _) (fun k hk => by simp at hk)
  have HO := Lib.hid hO
  have HW1 := Lib.hid (HB0.out.trans (hg1.mono HB0.out.size))
  have hbx := HBX.out.below hg1 (Nat.lt_of_lt_of_le HBX.out.lt (Nat.le_refl _))
  obtain ⟨c0, c1, _, _⟩ := hbx.cell
  have HBX1 := Lib.hid hbx
  clear hown hgrow hO hg1 hbx HB0 HBX
  refine go_on ?_
  go_wp2_with fail
  have HA1 : Hid (Rd .u32 w1 (.slice aa n ca) xs) := Lib.hid (by
    have h := HA.out.keep HW1.out (Nat.le_refl _)
    rwa [HN.out] at h)
  have hcall := addMultiple_any (w.heap.size + 1) n [] (List.replicate n 0) [] xs (.slice aa n ca) u w1 (by omega) (by rw [HN.out, List.length_replicate]; exact Nat.le_refl _) (by intro z hz; rw [List.mem_replicate] at hz; omega) HX.out (by rw [List.length_replicate]; simp; omega)
    (by simpa using HO.out) HA1.out (fun hpos => by have h := Rd.apart HA.out (g := w.heap.size + 1) (by omega) hpos; rw [HN.out] at h; exact h)
  rw [List.length_replicate] at hcall
  refine hcall.mono ?_
  clear hcall
  rintro e w2 ⟨zs, k1, rfl, hz1, hz2, hz3, hz4, hz5⟩
  rw [List.length_replicate] at hz1 hz3
  rw [vl_zeros] at hz3
  have HZ3 := Lib.hid hz3
  have HZ2' := Lib.hid hz2
  have HZL := Lib.hid hz1
  have HO2 := Lib.hid hz4
  have HB2 : Hid (Rd .u32 w2 (.slice ab ys.length cb) ys) := Lib.hid ((HB.out.keep HW1.out (Nat.le_refl _)).only hz5 (fun ad m c e hpos => Rd.apart HB.out (g := w.heap.size + 1) (by omega) (by cases e; exact hpos) ad m c e))
  have HW2 := Lib.hid (HW1.out.trans (hz5.below (by omega)))
  have HBX2 := Lib.hid (HBX1.out.only hz5 (by omega))
  obtain ⟨d0, d1, _, _⟩ := HBX2.out.cell
  clear hz1 hz2 hz3 hz4 hz5 c0 c1 HBX1 HA1
  go_wp2_with fail
  have hcall := addMultiple_any (w.heap.size + 1) n [] zs [] ys (.slice ab ys.length cb) v w2 (by omega) (by rw [HZL.out]; exact lb) HZ2'.out HY.out (by rw [HZL.out]; simp; omega)
    (by simpa using HO2.out) HB2.out (Rd.apart HB.out (by omega))
  rw [HZL.out] at hcall
  refine hcall.mono ?_
  clear hcall
  rintro e w3 ⟨us, k2, rfl, hz1, hz2, hz3, hz4, hz5⟩
  rw [HZL.out] at hz1 hz3
  have HV : Hid (vl 1000000000 us = R.toNat) := Lib.hid (by
    have h1 := vl_lt 1000000000 us hz2
    have h2 := vl_lt 1000000000 xs HX.out
    rw [hz1] at h1
    rw [HN.out] at h2
    have := msum_vl _ _ _ _ _ _ _ R _ _ HZ3.out hz3 h1 HRE.out h0 (by have := HRX.out; omega)
    omega)
  have HW3 := Lib.hid (HW2.out.trans (hz5.below (by omega)))
  have HR : Hid (Rd .u32 w3 (.slice (some ⟨w.heap.size + 1, 0, none⟩) n n) us) := Lib.hid (by
    have h := hz4.rd n n (by simp; omega) (Nat.le_refl _) (by omega)
    rwa [List.nil_append, List.append_nil, List.take_of_length_le (by omega)] at h)
  have HU := Lib.hid hz2
  clear hz1 hz2 hz3 hz4 hz5
  go_wp2_with fail
  refine (trim_any _ us HU.out _ HR.out).mono ?_
  rintro e w4 ⟨⟨v', rfl, hv, hsm⟩, rfl⟩
  rw [HV.out] at hv
  have HVV := Lib.hid hv
  have HFR := Lib.hid (Fr.of_same hsm (show w.heap.size ≤ w.heap.size + 1 by omega))
  clear hv hsm
  go_wp2
  go_ret
  exact ⟨_, rfl, HVV.out, HFR.out, HW3.out⟩

theorem msum_any (u v R : Int) (a b : Nat) (va vb : Value) (w : World) (hu : -1000000000 ≤ u ∧ u ≤ 1000000000) (hv : -1000000000 ≤ v ∧ v ≤ 1000000000) (ha : IsNat w va a) (hb : IsNat w vb b) (la : (ds 1000000000 a).length ≤ 1000) (hba : b ≤ a)
    (hR : R = u * a + v * b) (h0 : 0 ≤ R) (hRa : R ≤ a) :
    Calls Tryd.prog 75 #[.agg #[.int .i64 u, .int .i64 v], va, vb] w (NatPost R.toNat w) := by
  obtain ⟨aa, ca, rfl, _⟩ := id ha
  obtain ⟨ab, cb, rfl, _⟩ := id hb
  exact msum_to aa ab ca cb u v R _ _ w hu hv ha hb (ds_lt _ (by omega) _) (ds_lt _ (by omega) _) la (ds_length_mono _ (by omega) _ _ hba) (by rwa [vl_ds _ (by omega), vl_ds _ (by omega)]) h0 (by rwa [vl_ds _ (by omega)])

end Go.Proofs.YtdkpcjfadabkbaaDoor
