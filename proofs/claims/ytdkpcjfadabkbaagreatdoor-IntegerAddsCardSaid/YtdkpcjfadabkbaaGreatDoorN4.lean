/- What sum and difference do. -/
import Derived.Test.YtdkpcjfadabkbaaGreatDoorN3
set_option linter.unusedVariables false
set_option linter.unusedSimpArgs false
namespace Go.Proofs.YtdkpcjfadabkbaaGreatDoor
open Go.RowKit

theorem addMultiple_none (a : Option Addr) (c : Nat) (v : Value) (a2 : Option Addr) (n2 c2 : Nat) (count : Int) (w : World) :
    Calls Tryz.prog 70 #[.slice a 0 c, .slice a2 n2 c2, .int .i64 count] w fun e w' => e = .returned (.int .i64 0) ∧ w = w' := by
  go_enter Tryz.func70, Tryz.ntmps70
  go_wp2
  refine wp_loop_rounds 1 ?_
  rw [rounds_succ]
  go_wp2
  go_ret
  exact ⟨rfl, rfl⟩

set_option maxRecDepth 100000 in
set_option maxHeartbeats 400000 in
theorem addMultiple_zero (g c : Nat) (pre xs post : List Nat) (a2 : Option Addr) (c2 : Nat) (count : Int) (w : World) (hxs : 0 < xs.length) (hl : pre.length + xs.length ≤ 60000)
    (hO : Own .u32 96 w g (pre ++ xs ++ post)) (hx : ∀ x ∈ xs, x < 1000000000) :
    Calls Tryz.prog 70 #[.slice (some ⟨g, pre.length, none⟩) xs.length c, .slice a2 0 c2, .int .i64 count] w fun e w' => e = .returned (.int .i64 0) ∧ w = w' := by
  have hx1 := hx _ (List.getElem_mem hxs)
  have hc1 : w.cell? ⟨g, pre.length, none⟩ = some (.int .u32 (xs[0] : Nat)) := by
    rw [hO.cell pre.length (by simp; omega)]
    have : (pre ++ xs ++ post)[pre.length]? = some xs[0] := by
      rw [List.append_assoc, List.getElem?_append_right (Nat.le_refl _), Nat.sub_self, List.getElem?_append_left hxs, List.getElem?_eq_getElem hxs]
    rw [List.getElem?_eq_getElem (by simp; omega)] at this
    rw [Option.some.inj this]
  have hxs' : (0 : Int) < xs.length := by omega
  clear hO hx
  go_enter Tryz.func70, Tryz.ntmps70
  go_wp2
  refine wp_loop_rounds 1 ?_
  rw [rounds_succ]
  go_wp2
  go_ret
  exact ⟨rfl, rfl⟩

theorem addMultiple_any (g c : Nat) (pre xs post ys : List Nat) (v : Value) (count : Int) (w : World) (hc : -1000000000 ≤ count ∧ count ≤ 1000000000)
    (hyx : ys.length ≤ xs.length) (hx : ∀ x ∈ xs, x < 1000000000) (hy : ∀ y ∈ ys, y < 1000000000) (hl : pre.length + xs.length ≤ 60000)
    (hO : Own .u32 96 w g (pre ++ xs ++ post)) (hr : Rd .u32 w v ys) (hap : 0 < ys.length → ∀ a n c', v = .slice (some a) n c' → a.block ≠ g) :
    Calls Tryz.prog 70 #[.slice (some ⟨g, pre.length, none⟩) xs.length c, v, .int .i64 count] w (AmPost g pre xs post ys count w) := by
  rcases hr.cases with ⟨rfl, a2, c2, rfl, _⟩ | ⟨h0, h, off2, c2, rfl, _, _, _, hrow⟩
  · by_cases hx0 : xs.length = 0
    · have hxe := List.length_eq_zero_iff.1 hx0
      subst hxe
      refine (addMultiple_none _ _ (.int .i64 0) a2 0 c2 count w).mono ?_
      rintro e w' ⟨rfl, rfl⟩
      exact ⟨[], 0, rfl, rfl, by simp, by simp [Nm.vl], hO, Only.refl _ _⟩
    · refine (addMultiple_zero g c pre xs post a2 c2 count w (by omega) hl hO hx).mono ?_
      rintro e w' ⟨rfl, rfl⟩
      exact ⟨xs, 0, rfl, rfl, hx, by simp [Nm.vl], hO, Only.refl _ _⟩
  · exact addMultiple_row g h off2 c c2 pre xs post ys count w hc (by omega) h0 hyx hx hy hl hO hrow (hap h0 _ _ _ rfl)

theorem Rd.apart {w : World} {v : Value} {ys : List Nat} {g : Nat} (h : Rd .u32 w v ys) (hg : w.heap.size ≤ g) : 0 < ys.length → ∀ a n c', v = .slice (some a) n c' → a.block ≠ g := by
  intro hy a n c' hv
  rcases h.cases with ⟨rfl, _⟩ | ⟨_, g', off, c, hv', _, _, hlt, _⟩
  · simp at hy
  · rw [hv'] at hv
    simp only [Value.slice.injEq, Option.some.injEq] at hv
    obtain ⟨rfl, _⟩ := hv
    show g' ≠ g
    omega

/-- A slice that reads as the limbs of n. -/
def IsNat (w : World) (v : Value) (n : Nat) : Prop := Rd .u32 w v (Nm.ds 1000000000 n)

theorem IsNat.keep {w w' : World} {v : Value} {n B : Nat} (h : IsNat w v n) (hb : Below B w w') (hB : w.heap.size ≤ B) : IsNat w' v n := Rd.keep h hb hB

theorem vl_zeros_app (b : Nat) (xs : List Nat) (k : Nat) : Nm.vl b (xs ++ List.replicate k 0) = Nm.vl b xs := by
  rw [Nm.vl_append, Nm.vl_zeros]; simp

theorem zeros_lt (xs : List Nat) (k : Nat) (h : ∀ x ∈ xs, x < 1000000000) : ∀ x ∈ xs ++ List.replicate k 0, x < 1000000000 := by
  intro x hx
  rcases List.mem_append.1 hx with hx | hx
  · exact h x hx
  · rw [List.mem_replicate] at hx; omega

/-- No carry is left where the result fits. -/
theorem no_carry (Z P : Nat) (carry R : Int) (hZ : Z < P) (h : (Z : Int) + (P : Int) * carry = R) (h0 : 0 ≤ R) (h1 : R < P) : carry = 0 := by
  have hP : (0 : Int) < P := by omega
  rcases Int.lt_trichotomy carry 0 with hc | hc | hc
  · have : (P : Int) * carry ≤ P * (-1) := Int.mul_le_mul_of_nonneg_left (by omega) (by omega)
    omega
  · exact hc
  · have : (P : Int) * 1 ≤ P * carry := Int.mul_le_mul_of_nonneg_left (by omega) (by omega)
    omega

set_option maxRecDepth 100000 in
set_option maxHeartbeats 1600000 in
theorem sum_to (aa ab : Option Addr) (ca cb : Nat) (xs ys : List Nat) (w : World) (ha : Rd .u32 w (.slice aa xs.length ca) xs) (hb : Rd .u32 w (.slice ab ys.length cb) ys)
    (hx : ∀ x ∈ xs, x < 1000000000) (hy : ∀ y ∈ ys, y < 1000000000) (la : xs.length ≤ 1000) (lb : ys.length ≤ 1000) :
    Calls Tryz.prog 52 #[.slice aa xs.length ca, .slice ab ys.length cb] w (NatPost (Nm.vl 1000000000 xs + Nm.vl 1000000000 ys) w) := by
  have HA := Lib.hid ha
  have HB := Lib.hid hb
  have HX := Lib.hid hx
  have HY := Lib.hid hy
  clear ha hb hx hy
  by_cases hlt : xs.length < ys.length
  · skip
    go_enter Tryz.func52, Tryz.ntmps52
    go_wp2_with fail
    rw [show ((ys.length : Nat) : Int) + 1 = ((ys.length + 1 : Nat) : Int) from by omega]
    refine (extended_any _ xs (ys.length + 1) (ys.length + 1) (by omega) (by omega) _ HA.out).mono ?_
    rintro e w1 ⟨g, hg, rfl, hO, hw1⟩
    have HW1 := Lib.hid hw1
    have HO := Lib.hid hO
    clear hw1 hO
    go_wp2_with fail
    have hlen : (xs ++ List.replicate (ys.length + 1 - xs.length) 0).length = ys.length + 1 := by rw [List.length_append, List.length_replicate]; omega
    have hcall := addMultiple_any g (ys.length + 1) [] (xs ++ List.replicate (ys.length + 1 - xs.length) 0) [] ys (.slice ab ys.length cb) 1 w1 (by omega) (by rw [hlen]; omega) (zeros_lt _ _ HX.out) HY.out (by rw [hlen]; simp; omega)
      (by simpa using HO.out) (HB.out.keep HW1.out (Nat.le_refl _)) (Rd.apart HB.out hg)
    rw [hlen] at hcall
    refine hcall.mono ?_
    clear hcall
    rintro e w2 ⟨zs, carry, rfl, hz1, hz2, hz3, hz4, hz5⟩
    have HZ : Hid (Nm.vl 1000000000 zs = Nm.vl 1000000000 xs + Nm.vl 1000000000 ys) := Lib.hid (by
      rw [vl_zeros_app] at hz3
      rw [hlen] at hz1 hz3
      have h1 := Nm.vl_lt 1000000000 zs hz2
      rw [hz1] at h1
      have h2 := Nm.vl_lt 1000000000 xs HX.out
      have h3 := Nm.vl_lt 1000000000 ys HY.out
      have h4 : 1000000000 ^ xs.length ≤ 1000000000 ^ ys.length := Nat.pow_le_pow_right (by omega) (by omega)
      have h5 : 1000000000 ^ ys.length ≤ 1000000000 ^ ys.length := Nat.pow_le_pow_right (by omega) (by omega)
      have h6 : 1000000000 ^ (ys.length + 1) = 1000000000 ^ ys.length * 1000000000 := Nat.pow_succ ..
      have h7 := no_carry _ _ carry _ h1 hz3 (by omega) (by omega)
      subst h7
      omega)
    have HW2 := Lib.hid (HW1.out.trans (hz5.below hg))
    have HR : Hid (Rd .u32 w2 (.slice (some ⟨g, 0, none⟩) (ys.length + 1) (ys.length + 1)) zs) := Lib.hid (by
      have h := hz4.rd (ys.length + 1) (ys.length + 1) (by simp; rw [hz1, hlen]; exact Nat.le_refl _) (Nat.le_refl _) (by omega)
      rwa [List.nil_append, List.append_nil, List.take_of_length_le (by rw [hz1, hlen]; exact Nat.le_refl _)] at h)
    have HZ2 := Lib.hid hz2
    clear hz1 hz2 hz3 hz4 hz5 hlen
    go_wp2_with fail
    refine (trim_any _ zs HZ2.out _ HR.out).mono ?_
    rintro e w3 ⟨⟨v', rfl, hv, hsm⟩, rfl⟩
    rw [HZ.out] at hv
    have HV := Lib.hid hv
    have HFR := Lib.hid (Fr.of_same hsm hg)
    clear hv hsm
    go_wp2
    go_ret
    exact ⟨_, rfl, HV.out, HFR.out, HW2.out⟩
  · skip
    go_enter Tryz.func52, Tryz.ntmps52
    go_wp2_with fail
    rw [show ((xs.length : Nat) : Int) + 1 = ((xs.length + 1 : Nat) : Int) from by omega]
    refine (extended_any _ xs (xs.length + 1) (xs.length + 1) (by omega) (by omega) _ HA.out).mono ?_
    rintro e w1 ⟨g, hg, rfl, hO, hw1⟩
    have HW1 := Lib.hid hw1
    have HO := Lib.hid hO
    clear hw1 hO
    go_wp2_with fail
    have hlen : (xs ++ List.replicate (xs.length + 1 - xs.length) 0).length = xs.length + 1 := by rw [List.length_append, List.length_replicate]; omega
    have hcall := addMultiple_any g (xs.length + 1) [] (xs ++ List.replicate (xs.length + 1 - xs.length) 0) [] ys (.slice ab ys.length cb) 1 w1 (by omega) (by rw [hlen]; omega) (zeros_lt _ _ HX.out) HY.out (by rw [hlen]; simp; omega)
      (by simpa using HO.out) (HB.out.keep HW1.out (Nat.le_refl _)) (Rd.apart HB.out hg)
    rw [hlen] at hcall
    refine hcall.mono ?_
    clear hcall
    rintro e w2 ⟨zs, carry, rfl, hz1, hz2, hz3, hz4, hz5⟩
    have HZ : Hid (Nm.vl 1000000000 zs = Nm.vl 1000000000 xs + Nm.vl 1000000000 ys) := Lib.hid (by
      rw [vl_zeros_app] at hz3
      rw [hlen] at hz1 hz3
      have h1 := Nm.vl_lt 1000000000 zs hz2
      rw [hz1] at h1
      have h2 := Nm.vl_lt 1000000000 xs HX.out
      have h3 := Nm.vl_lt 1000000000 ys HY.out
      have h4 : 1000000000 ^ xs.length ≤ 1000000000 ^ xs.length := Nat.pow_le_pow_right (by omega) (by omega)
      have h5 : 1000000000 ^ ys.length ≤ 1000000000 ^ xs.length := Nat.pow_le_pow_right (by omega) (by omega)
      have h6 : 1000000000 ^ (xs.length + 1) = 1000000000 ^ xs.length * 1000000000 := Nat.pow_succ ..
      have h7 := no_carry _ _ carry _ h1 hz3 (by omega) (by omega)
      subst h7
      omega)
    have HW2 := Lib.hid (HW1.out.trans (hz5.below hg))
    have HR : Hid (Rd .u32 w2 (.slice (some ⟨g, 0, none⟩) (xs.length + 1) (xs.length + 1)) zs) := Lib.hid (by
      have h := hz4.rd (xs.length + 1) (xs.length + 1) (by simp; rw [hz1, hlen]; exact Nat.le_refl _) (Nat.le_refl _) (by omega)
      rwa [List.nil_append, List.append_nil, List.take_of_length_le (by rw [hz1, hlen]; exact Nat.le_refl _)] at h)
    have HZ2 := Lib.hid hz2
    clear hz1 hz2 hz3 hz4 hz5 hlen
    go_wp2_with fail
    refine (trim_any _ zs HZ2.out _ HR.out).mono ?_
    rintro e w3 ⟨⟨v', rfl, hv, hsm⟩, rfl⟩
    rw [HZ.out] at hv
    have HV := Lib.hid hv
    have HFR := Lib.hid (Fr.of_same hsm hg)
    clear hv hsm
    go_wp2
    go_ret
    exact ⟨_, rfl, HV.out, HFR.out, HW2.out⟩

theorem sum_any (va vb : Value) (a b : Nat) (w : World) (ha : IsNat w va a) (hb : IsNat w vb b) (la : (Nm.ds 1000000000 a).length ≤ 1000) (lb : (Nm.ds 1000000000 b).length ≤ 1000) :
    Calls Tryz.prog 52 #[va, vb] w (NatPost (a + b) w) := by
  obtain ⟨aa, ca, rfl, _⟩ := id ha
  obtain ⟨ab, cb, rfl, _⟩ := id hb
  have h := sum_to aa ab ca cb _ _ w ha hb (Nm.ds_lt _ (by omega) _) (Nm.ds_lt _ (by omega) _) la lb
  rwa [Nm.vl_ds _ (by omega), Nm.vl_ds _ (by omega)] at h

set_option maxRecDepth 100000 in
set_option maxHeartbeats 1600000 in
theorem difference_to (aa ab : Option Addr) (ca cb : Nat) (xs ys : List Nat) (w : World) (ha : Rd .u32 w (.slice aa xs.length ca) xs) (hb : Rd .u32 w (.slice ab ys.length cb) ys)
    (hx : ∀ x ∈ xs, x < 1000000000) (hy : ∀ y ∈ ys, y < 1000000000) (la : xs.length ≤ 1000) (lb : ys.length ≤ xs.length) (hle : Nm.vl 1000000000 ys ≤ Nm.vl 1000000000 xs) :
    Calls Tryz.prog 54 #[.slice aa xs.length ca, .slice ab ys.length cb] w (NatPost (Nm.vl 1000000000 xs - Nm.vl 1000000000 ys) w) := by
  have HA := Lib.hid ha
  have HB := Lib.hid hb
  have HX := Lib.hid hx
  have HY := Lib.hid hy
  have HLE := Lib.hid hle
  clear ha hb hx hy hle
  go_enter Tryz.func54, Tryz.ntmps54
  go_wp2_with fail
  refine (extended_any _ xs xs.length xs.length (by omega) (by omega) _ HA.out).mono ?_
  rintro e w1 ⟨g, hg, rfl, hO, hw1⟩
  rw [Nat.sub_self, List.replicate_zero, List.append_nil] at hO
  have HW1 := Lib.hid hw1
  have HO := Lib.hid hO
  clear hw1 hO
  go_wp2_with fail
  refine (addMultiple_any g xs.length [] xs [] ys (.slice ab ys.length cb) (-1) w1 (by omega) lb HX.out HY.out (by simp; omega) (by simpa using HO.out) (HB.out.keep HW1.out (Nat.le_refl _)) (Rd.apart HB.out hg)).mono ?_
  rintro e w2 ⟨zs, carry, rfl, hz1, hz2, hz3, hz4, hz5⟩
  have HZ : Hid (Nm.vl 1000000000 zs = Nm.vl 1000000000 xs - Nm.vl 1000000000 ys) := Lib.hid (by
    have h1 := Nm.vl_lt 1000000000 zs hz2
    rw [hz1] at h1
    have h2 := Nm.vl_lt 1000000000 xs HX.out
    have hle := HLE.out
    have h7 := no_carry _ _ carry _ h1 hz3 (by omega) (by omega)
    subst h7
    omega)
  have HW2 := Lib.hid (HW1.out.trans (hz5.below hg))
  have HR : Hid (Rd .u32 w2 (.slice (some ⟨g, 0, none⟩) xs.length xs.length) zs) := Lib.hid (by
    have h := hz4.rd xs.length xs.length (by simp; omega) (Nat.le_refl _) (by omega)
    rwa [List.nil_append, List.append_nil, List.take_of_length_le (by omega)] at h)
  have HZ2 := Lib.hid hz2
  clear hz1 hz2 hz3 hz4 hz5
  go_wp2_with fail
  refine (trim_any _ zs HZ2.out _ HR.out).mono ?_
  rintro e w3 ⟨⟨v', rfl, hv, hsm⟩, rfl⟩
  rw [HZ.out] at hv
  have HV := Lib.hid hv
  have HFR := Lib.hid (Fr.of_same hsm hg)
  clear hv hsm
  go_wp2
  go_ret
  exact ⟨_, rfl, HV.out, HFR.out, HW2.out⟩

theorem ds_length_mono (b : Nat) (hb : 2 ≤ b) (m n : Nat) (h : m ≤ n) : (Nm.ds b m).length ≤ (Nm.ds b n).length := by
  rcases Nat.lt_or_ge (Nm.ds b n).length (Nm.ds b m).length with h1 | h1
  · have := Nm.length_lt b hb n m h1; omega
  · exact h1

theorem difference_any (va vb : Value) (a b : Nat) (w : World) (ha : IsNat w va a) (hb : IsNat w vb b) (la : (Nm.ds 1000000000 a).length ≤ 1000) (hle : b ≤ a) :
    Calls Tryz.prog 54 #[va, vb] w (NatPost (a - b) w) := by
  obtain ⟨aa, ca, rfl, _⟩ := id ha
  obtain ⟨ab, cb, rfl, _⟩ := id hb
  have h := difference_to aa ab ca cb _ _ w ha hb (Nm.ds_lt _ (by omega) _) (Nm.ds_lt _ (by omega) _) la (ds_length_mono _ (by omega) _ _ hle) (by rwa [Nm.vl_ds _ (by omega), Nm.vl_ds _ (by omega)])
  rwa [Nm.vl_ds _ (by omega), Nm.vl_ds _ (by omega)] at h

end Go.Proofs.YtdkpcjfadabkbaaGreatDoor
