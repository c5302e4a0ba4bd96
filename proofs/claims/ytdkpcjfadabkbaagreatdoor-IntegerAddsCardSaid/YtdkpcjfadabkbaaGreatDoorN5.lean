/- What product does. -/
import Derived.Test.YtdkpcjfadabkbaaGreatDoorN4
import Derived.StillTailTactics
set_option linter.unusedVariables false
set_option linter.unusedSimpArgs false
namespace Go.Proofs.YtdkpcjfadabkbaaGreatDoor
open Go.RowKit

theorem prod_split (zs : List Nat) (k lb n : Nat) (hz : zs.length = k + lb) (hn : 0 < n) : zs ++ List.replicate n 0 = zs.take k ++ (zs.drop k ++ [0]) ++ List.replicate (n - 1) 0 := by
  obtain ⟨m, rfl⟩ : ∃ m, n = m + 1 := ⟨n - 1, by omega⟩
  rw [List.replicate_succ, Nat.add_sub_cancel]
  conv => lhs; rw [← List.take_append_drop k zs]
  rw [List.append_assoc, List.append_assoc, List.append_assoc]
  rfl

theorem prod_step (xs ys zs ws : List Nat) (k : Nat) (carry : Int) (hk : k < xs.length) (hz : zs.length = k + ys.length) (hx : ∀ x ∈ xs, x < 1000000000) (hy : ∀ y ∈ ys, y < 1000000000) (hzl : ∀ z ∈ zs, z < 1000000000)
    (hv : Nm.vl 1000000000 zs = Nm.vl 1000000000 (xs.take k) * Nm.vl 1000000000 ys) (hw : ws.length = (zs.drop k ++ [0]).length) (hwl : ∀ z ∈ ws, z < 1000000000)
    (he : (Nm.vl 1000000000 ws : Int) + ((1000000000 ^ (zs.drop k ++ [0]).length : Nat) : Int) * carry = Nm.vl 1000000000 (zs.drop k ++ [0]) + (xs[k] : Int) * Nm.vl 1000000000 ys) :
    (zs.take k ++ ws).length = k + 1 + ys.length ∧ (∀ z ∈ zs.take k ++ ws, z < 1000000000) ∧ Nm.vl 1000000000 (zs.take k ++ ws) = Nm.vl 1000000000 (xs.take (k + 1)) * Nm.vl 1000000000 ys := by
  have hl : (zs.drop k ++ [0]).length = ys.length + 1 := by rw [List.length_append, List.length_drop, List.length_singleton]; omega
  have ht : (zs.take k).length = k := by rw [List.length_take]; omega
  rw [hl] at hw he
  have hv0 : Nm.vl 1000000000 (zs.drop k ++ [0]) = Nm.vl 1000000000 (zs.drop k) := by rw [Nm.vl_append]; simp [Nm.vl]
  rw [hv0] at he
  have hx1 := hx _ (List.getElem_mem hk)
  have h1 := Nm.vl_lt 1000000000 ws hwl
  rw [hw] at h1
  have h2 := Nm.vl_lt 1000000000 (zs.drop k) (fun z hz => hzl z (List.mem_of_mem_drop hz))
  have h3 : (zs.drop k).length = ys.length := by rw [List.length_drop]; omega
  rw [h3] at h2
  have h4 := Nm.vl_lt 1000000000 ys hy
  have h5 : xs[k] * Nm.vl 1000000000 ys ≤ 999999999 * Nm.vl 1000000000 ys := Nat.mul_le_mul_right _ (by omega)
  have h6 : 1000000000 ^ (ys.length + 1) = 1000000000 ^ ys.length * 1000000000 := Nat.pow_succ ..
  have hcast : (xs[k] : Int) * (Nm.vl 1000000000 ys : Int) = ((xs[k] * Nm.vl 1000000000 ys : Nat) : Int) := by simp
  rw [hcast] at he
  have h7 := no_carry _ _ carry _ h1 he (by omega) (by omega)
  subst h7
  have hws : Nm.vl 1000000000 ws = Nm.vl 1000000000 (zs.drop k) + xs[k] * Nm.vl 1000000000 ys := by omega
  refine ⟨by rw [List.length_append, ht, hw]; omega, ?_, ?_⟩
  · intro z hz
    rcases List.mem_append.1 hz with hz | hz
    · exact hzl z (List.mem_of_mem_take hz)
    · exact hwl z hz
  · have e : Nm.vl 1000000000 zs = Nm.vl 1000000000 (zs.take k) + 1000000000 ^ k * Nm.vl 1000000000 (zs.drop k) := by
      conv => lhs; rw [← List.take_append_drop k zs]
      rw [Nm.vl_append, ht]
    rw [Nm.vl_append, ht, hws, Nm.vl_take_succ _ _ _ hk, Nat.add_mul, ← hv, e, Nat.mul_add, Nat.mul_assoc]
    omega

set_option maxRecDepth 100000 in
set_option maxHeartbeats 1600000 in
theorem product_row (g0 off ca : Nat) (ab : Option Addr) (cb : Nat) (xs ys : List Nat) (w : World) (h0 : 0 < xs.length) (hg0 : g0 < w.heap.size) (ha : Row .u32 w g0 off xs) (hb : Rd .u32 w (.slice ab ys.length cb) ys)
    (hx : ∀ x ∈ xs, x < 1000000000) (hy : ∀ y ∈ ys, y < 1000000000) (la : xs.length ≤ 1000) (lb : ys.length ≤ 1000) :
    Calls Tryz.prog 95 #[.slice (some ⟨g0, off, none⟩) xs.length ca, .slice ab ys.length cb] w (NatPost (Nm.vl 1000000000 xs * Nm.vl 1000000000 ys) w) := by
  have HA := Lib.hid ha
  have HB := Lib.hid hb
  have HX := Lib.hid hx
  have HY := Lib.hid hy
  clear ha hb hx hy
  obtain ⟨i0, hi, hz0, hz1, hz2⟩ := info_parts info32
  have HZ2 := Lib.hid hz2
  have HI := Lib.hid hi
  have HZ0 := Lib.hid hz0
  have HZ1 := Lib.hid hz1
  clear hz2 hi hz0 hz1
  go_enter Tryz.func95, Tryz.ntmps95
  go_wp2_with (refine wpList_make_full _ rfl (.tmp 11) (.tmp 11) 75 rfl w.heap.size 96 i0 (.int .u32 0) 1 Tryz.underlying75 HI.out HZ0.out HZ1.out .i64 .i64 _ _ (xs.length + ys.length) rfl rfl (by simp) (by simp) (by rw [HZ2.out]; omega) (by unfold maxLen; omega) (Nat.le_refl _) ?_; intro w1 hown hgrow; refine hold ?_)
  rw [made_zeros] at hown
  obtain ⟨hO, _⟩ := own_of_full (by simp) hown
  have HO := Lib.hid hO
  have HW := Lib.hid ((Below.refl w.heap.size w).grown hgrow (Nat.le_refl _) (fun k hk => by simp at hk))
  clear hown hgrow hO
  refine go_on ?_
  go_wp2
  go_loopw [6, 15] (fun i j wr => ∃ (k : Nat) (zs : List Nat), k ≤ xs.length ∧ j = .int .i64 k ∧ Hid (zs.length = k + ys.length) ∧ Hid (∀ z ∈ zs, z < 1000000000) ∧
      Hid (Nm.vl 1000000000 zs = Nm.vl 1000000000 (xs.take k) * Nm.vl 1000000000 ys) ∧ Hid (Own .u32 96 wr w.heap.size (zs ++ List.replicate (xs.length - k) 0)) ∧ Hid (Below w.heap.size w wr)) (fun _ j _ => xs.length - (intOf j).toNat)
  case atStart => exact ⟨0, List.replicate ys.length 0, by omega, rfl, Lib.hid (by simp), Lib.hid (by intro z hz; rw [List.mem_replicate] at hz; omega), Lib.hid (by rw [Nm.vl_zeros]; simp [Nm.vl]), Lib.hid (by rw [List.replicate_append_replicate, Nat.sub_zero, Nat.add_comm]; exact HO.out), HW⟩
  case round =>
    obtain ⟨k, zs, hk, rfl, HZL, HZ, HV, HOW, HBL⟩ := hrel
    by_cases hlt : k < xs.length
    · have hlt' : (k : Int) < xs.length := by omega
      have hc1 : wr.cell? ⟨g0, off + k, none⟩ = some (.int .u32 (xs[k] : Nat)) := (HBL.out.cell (p := ⟨g0, off + k, none⟩) hg0).trans (HA.out k hlt)
      have hx1 := HX.out _ (List.getElem_mem hlt)
      go_wp2
      have e1 : IntKind.i64.wrap ((k : Int) + ys.length) = k + ys.length := IntWalk.i64_in _ (by omega)
      have e2 : IntKind.i64.wrap ((k : Int) + ys.length + 1) = k + ys.length + 1 := IntWalk.i64_in _ (by omega)
      have e3 : ((k : Int) + ys.length + 1).toNat = k + ys.length + 1 := by omega
      have e4 : (0 : Int) ≤ (k : Int) + ys.length + 1 := by omega
      have e5 : (k : Int) ≤ (k : Int) + ys.length + 1 := by omega
      have e6 : (k : Int) + ys.length + 1 ≤ ((xs.length + ys.length : Nat) : Int) := by omega
      have e7 : (k : Int) + ys.length + 1 ≤ (xs.length : Int) + ys.length := by omega
      have e8 : IntKind.i64.wrap (xs[k] : Int) = xs[k] := IntWalk.i64_in _ (by omega)
      go_still_tail 14, (by kernel_rfl)
      change wpList _ _ _ _ _ wr.drew
      rw [if_neg (show ¬ xs.length + ys.length = k by omega), show k + ys.length + 1 - k = ys.length + 1 from by omega]
      clear e1 e2 e3 e4 e5 e6 e7 e8
      have hzk : (zs.take k).length = k := by rw [List.length_take]; have := HZL.out; omega
      have hwl : (zs.drop k ++ [0]).length = ys.length + 1 := by rw [List.length_append, List.length_drop, List.length_singleton]; have := HZL.out; omega
      have hcall := addMultiple_any w.heap.size (xs.length + ys.length - k) (zs.take k) (zs.drop k ++ [0]) (List.replicate (xs.length - k - 1) 0) ys (.slice ab ys.length cb) (xs[k] : Int) wr.drew (by omega) (by rw [hwl]; omega)
        (by intro z hz; rcases List.mem_append.1 hz with hz | hz; exact HZ.out z (List.mem_of_mem_drop hz); simp at hz; omega) HY.out (by rw [hzk, hwl]; omega)
        (by rw [← prod_split zs k ys.length _ HZL.out (by omega)]; exact HOW.out) (HB.out.keep HBL.out.drew (Nat.le_refl _)) (Rd.apart HB.out (Nat.le_refl _))
      rw [hzk, hwl] at hcall
      have HCALL := Lib.hid hcall
      clear hcall hzk
      go_wp2_with fail
      refine HCALL.out.mono ?_
      clear HCALL
      rintro e w2 ⟨ws, carry, rfl, hz1, hz2, hz3, hz4, hz5⟩
      obtain ⟨q1, q2, q3⟩ := prod_step xs ys zs ws k carry hlt HZL.out HX.out HY.out HZ.out HV.out hz1 hz2 hz3
      have HZL' : Hid ((zs.take k ++ ws).length = k + 1 + ys.length) := Lib.hid q1
      have HZ' := Lib.hid q2
      have HV' := Lib.hid q3
      have HOW' : Hid (Own .u32 96 w2 w.heap.size ((zs.take k ++ ws) ++ List.replicate (xs.length - (k + 1)) 0)) := Lib.hid (by rw [show xs.length - (k + 1) = xs.length - k - 1 from by omega]; exact hz4)
      have HBL' := Lib.hid (HBL.out.drew.trans (hz5.below (Nat.le_refl _)))
      clear hz1 hz2 hz3 hz4 hz5 q1 q2 q3 hwl
      go_wp2
      go_roundw
      case rel => exact ⟨k + 1, zs.take k ++ ws, by omega, by go_num, HZL', HZ', HV', HOW', HBL'⟩
      case measure => simp [intOf]; omega
    · have hke : k = xs.length := by omega
      have HV' : Hid (Nm.vl 1000000000 zs = Nm.vl 1000000000 xs * Nm.vl 1000000000 ys) := Lib.hid (by have := HV.out; rwa [hke, List.take_length] at this)
      have HR : Hid (Rd .u32 wr (.slice (some ⟨w.heap.size, 0, none⟩) (xs.length + ys.length) (xs.length + ys.length)) zs) := Lib.hid (by
        have h := HOW.out
        have hl := HZL.out
        rw [hke, Nat.sub_self, List.replicate_zero, List.append_nil] at h
        have h2 := h.rd (xs.length + ys.length) (xs.length + ys.length) (by omega) (Nat.le_refl _) (by omega)
        rwa [List.take_of_length_le (by omega)] at h2)
      have hge : ¬ (k : Int) < xs.length := by omega
      clear hke
      go_wp2_with fail
      refine (trim_any _ zs HZ.out _ HR.out).mono ?_
      rintro e w3 ⟨⟨v', rfl, hv, hsm⟩, rfl⟩
      rw [HV'.out] at hv
      have HVV := Lib.hid hv
      have HFR := Lib.hid (Fr.of_same hsm (Nat.le_refl _))
      clear hv hsm
      go_wp2
      go_ret
      exact ⟨_, rfl, HVV.out, HFR.out, HBL.out⟩

set_option maxRecDepth 100000 in
set_option maxHeartbeats 1600000 in
theorem product_nil (aa : Option Addr) (ca : Nat) (ab : Option Addr) (n cb : Nat) (w : World) (lb : n ≤ 1000) :
    Calls Tryz.prog 95 #[.slice aa 0 ca, .slice ab n cb] w (NatPost 0 w) := by
  obtain ⟨i0, hi, hz0, hz1, hz2⟩ := info_parts info32
  have HZ2 := Lib.hid hz2
  have HI := Lib.hid hi
  have HZ0 := Lib.hid hz0
  have HZ1 := Lib.hid hz1
  clear hz2 hi hz0 hz1
  go_enter Tryz.func95, Tryz.ntmps95
  go_wp2_with (refine wpList_make_full _ rfl (.tmp 11) (.tmp 11) 75 rfl w.heap.size 96 i0 (.int .u32 0) 1 Tryz.underlying75 HI.out HZ0.out HZ1.out .i64 .i64 _ _ n rfl rfl (by simp) (by simp) (by rw [HZ2.out]; omega) (by unfold maxLen; omega) (Nat.le_refl _) ?_; intro w1 hown hgrow; refine hold ?_)
  rw [made_zeros] at hown
  obtain ⟨hO, _⟩ := own_of_full (by simp) hown
  have HO := Lib.hid hO
  have HW := Lib.hid ((Below.refl w.heap.size w).grown hgrow (Nat.le_refl _) (fun k hk => by simp at hk))
  clear hown hgrow hO
  have HR : Hid (Rd .u32 w1 (.slice (some ⟨w.heap.size, 0, none⟩) n n) (List.replicate n 0)) := Lib.hid (by
    have h2 := HO.out.rd n n (by simp) (Nat.le_refl _) (by omega)
    rwa [List.take_of_length_le (by simp)] at h2)
  refine go_on ?_
  go_wp2
  refine wp_loop_rounds 1 ?_
  rw [rounds_succ]
  go_wp2_with fail
  refine (trim_any _ (List.replicate n 0) (by intro z hz; rw [List.mem_replicate] at hz; omega) _ HR.out).mono ?_
  rintro e w3 ⟨⟨v', rfl, hv, hsm⟩, rfl⟩
  rw [Nm.vl_zeros] at hv
  have HVV := Lib.hid hv
  have HFR := Lib.hid (Fr.of_same hsm (Nat.le_refl _))
  clear hv hsm
  go_wp2
  go_ret
  exact ⟨_, rfl, HVV.out, HFR.out, HW.out⟩

theorem product_any (va vb : Value) (a b : Nat) (w : World) (ha : IsNat w va a) (hb : IsNat w vb b) (la : (Nm.ds 1000000000 a).length ≤ 1000) (lb : (Nm.ds 1000000000 b).length ≤ 1000) :
    Calls Tryz.prog 95 #[va, vb] w (NatPost (a * b) w) := by
  obtain ⟨ab, cb, rfl, _⟩ := id hb
  rcases Rd.cases ha with ⟨h0, aa, ca, rfl, _⟩ | ⟨h0, g0, off, ca, rfl, _, _, hg0, hr⟩
  · have : a = 0 := (Nm.ds_eq_nil _ (by omega) a).1 h0
    subst this
    rw [Nat.zero_mul]
    exact product_nil aa ca ab _ cb w lb
  · have h := product_row g0 off ca ab cb _ _ w h0 hg0 hr hb (Nm.ds_lt _ (by omega) _) (Nm.ds_lt _ (by omega) _) la lb
    rwa [Nm.vl_ds _ (by omega), Nm.vl_ds _ (by omega)] at h

end Go.Proofs.YtdkpcjfadabkbaaGreatDoor
