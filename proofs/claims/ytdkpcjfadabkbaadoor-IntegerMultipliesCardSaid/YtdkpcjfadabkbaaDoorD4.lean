/- What reduce does. -/
import Derived.Test.YtdkpcjfadabkbaaDoorD3
import Derived.Deep.RegionHeld3
set_option linter.unusedVariables false
set_option linter.unusedSimpArgs false
namespace Go.Proofs.YtdkpcjfadabkbaaDoor
open Go.RowKit _root_.Go.Proofs.YtdkpcjfadabkbaaDoor.Nm

/-- The call takes ys away from the window R as often as possible. -/
def RedPost (g : Nat) (pre R post ys : List Nat) (w : World) (e : Ending) (w' : World) : Prop :=
  ∃ R', e = .returned (.int .u32 ((vl 1000000000 R / vl 1000000000 ys : Nat) : Int)) ∧ R'.length = R.length ∧ (∀ z ∈ R', z < 1000000000) ∧ vl 1000000000 R' = vl 1000000000 R % vl 1000000000 ys ∧ Own .u32 87 w' g (pre ++ R' ++ post) ∧ Only g w w'

theorem carry_bound (X V Z P c k : Int) (hX : 0 ≤ X) (hX2 : X < P) (hV : 0 ≤ V) (hV2 : V < P) (hZ : 0 ≤ Z) (hZ2 : Z < P) (hc : -1000000000 ≤ c) (hc2 : c ≤ 1000000000) (h : Z + P * k = X + c * V) : -1000000002 ≤ k ∧ k ≤ 1000000002 := by
  have h1 : c * V ≤ 1000000000 * P := by
    have a1 : c * V ≤ 1000000000 * V := Int.mul_le_mul_of_nonneg_right hc2 hV
    omega
  have h2 : -1000000000 * P ≤ c * V := by
    have a1 : -1000000000 * V ≤ c * V := Int.mul_le_mul_of_nonneg_right hc hV
    omega
  refine ⟨?_, ?_⟩
  · rcases Int.lt_or_le k (-1000000002) with hk | hk
    · have : P * k ≤ P * (-1000000003) := Int.mul_le_mul_of_nonneg_left (by omega) (by omega)
      omega
    · exact hk
  · rcases Int.lt_or_le 1000000002 k with hk | hk
    · have : P * 1000000003 ≤ P * k := Int.mul_le_mul_of_nonneg_left (by omega) (by omega)
      omega
    · exact hk

theorem over_bound (W V Z P k : Int) (t : Int) (hW : 0 ≤ W) (hW2 : W < 1000000000 * P) (hV : 0 ≤ V) (hV2 : V < P) (hZ : 0 ≤ Z) (hZ2 : Z < P) (ht : 0 ≤ t) (ht2 : t ≤ 999999999) (h : Z + P * k = W - t * V) : -1000000002 ≤ k ∧ k ≤ 1000000002 := by
  have h1 : t * V ≤ 999999999 * V := Int.mul_le_mul_of_nonneg_right ht2 hV
  have h2 : 0 ≤ t * V := Int.mul_nonneg ht hV
  refine ⟨?_, ?_⟩
  · rcases Int.lt_or_le k (-1000000002) with hk | hk
    · have : P * k ≤ P * (-1000000003) := Int.mul_le_mul_of_nonneg_left (by omega) (by omega)
      omega
    · exact hk
  · rcases Int.lt_or_le 1000000002 k with hk | hk
    · have : P * 1000000003 ≤ P * k := Int.mul_le_mul_of_nonneg_left (by omega) (by omega)
      omega
    · exact hk

/-- What holds at the loop's head: the window reads R1, and with the limb above it is W - t V. -/
def RedInv (m W V t : Nat) (over : Int) (R1 : List Nat) : Prop :=
  R1.length = m ∧ (∀ x ∈ R1, x < 1000000000) ∧ (vl 1000000000 R1 : Int) + ((1000000000 ^ m : Nat) : Int) * over = (W : Int) - (t : Int) * V ∧ W / V ≤ t ∧ t ≤ 999999999

theorem RedInv.bound {m W V t : Nat} {over : Int} {R1 : List Nat} (h : RedInv m W V t over R1) (hW : W < 1000000000 * V) (hV : V < 1000000000 ^ m) : -1000000002 ≤ over ∧ over ≤ 1000000002 := by
  obtain ⟨h1, h2, h3, h4, h5⟩ := h
  have h6 := vl_lt 1000000000 R1 h2
  rw [h1] at h6
  generalize 1000000000 ^ m = P at *
  exact over_bound W V (vl 1000000000 R1) P over t (by omega) (by omega) (by omega) (by omega) (by omega) (by omega) (by omega) (by omega) h3

theorem RedInv.neg {m W V t : Nat} {over : Int} {R1 : List Nat} (h : RedInv m W V t over R1) : over < 0 → (W : Int) - (t : Int) * V < 0 := by
  intro ho
  obtain ⟨h1, h2, h3, h4, h5⟩ := h
  have h6 := vl_lt 1000000000 R1 h2
  rw [h1] at h6
  generalize 1000000000 ^ m = P at *
  have : (P : Int) * over ≤ P * (-1) := Int.mul_le_mul_of_nonneg_left (by omega) (by omega)
  omega

theorem RedInv.more {m W V t : Nat} {over : Int} {R1 zs : List Nat} {carry : Int} (h : RedInv m W V t over R1) (ho : over < 0) (hV : 0 < V) (hz : zs.length = R1.length) (hzl : ∀ z ∈ zs, z < 1000000000)
    (he : (vl 1000000000 zs : Int) + ((1000000000 ^ R1.length : Nat) : Int) * carry = vl 1000000000 R1 + 1 * V) : 0 < t ∧ RedInv m W V (t - 1) (over + carry) zs := by
  have hn := h.neg ho
  obtain ⟨h1, h2, h3, h4, h5⟩ := h
  obtain ⟨k1, k2⟩ := down_more W V t _ h4 hV rfl hn
  rw [h1] at he
  have k3 : 0 < t := Nat.lt_of_le_of_lt (Nat.zero_le _) k1
  refine ⟨k3, by omega, hzl, ?_, Nat.le_sub_one_of_lt k1, by omega⟩
  rw [← k2, ← h3, Int.mul_add]
  omega

theorem RedInv.done {m W V t : Nat} {over : Int} {R1 : List Nat} (h : RedInv m W V t over R1) (ho : ¬ over < 0) (hV : 0 < V) (hV2 : V < 1000000000 ^ m) : t = W / V ∧ vl 1000000000 R1 = W % V := by
  obtain ⟨h1, h2, h3, h4, h5⟩ := h
  have h6 := vl_lt 1000000000 R1 h2
  rw [h1] at h6
  have hm := Nat.mod_lt W hV
  generalize 1000000000 ^ m = P at *
  have hp : 0 ≤ (P : Int) * over := Int.mul_nonneg (by omega) (by omega)
  obtain ⟨k1, k2⟩ := down_end W V t _ h4 hV rfl (by omega)
  refine ⟨k1, ?_⟩
  rw [k2] at h3
  have ho0 : over = 0 := by
    rcases Int.lt_or_le 0 over with h | h
    · have : (P : Int) * 1 ≤ P * over := Int.mul_le_mul_of_nonneg_left (by omega) (by omega)
      omega
    · omega
  subst ho0
  omega

theorem RedInv.start {m W V t rm : Nat} {R0 zs : List Nat} {carry : Int} (hR : R0.length = m) (hz : zs.length = R0.length) (hzl : ∀ z ∈ zs, z < 1000000000) (hW : W = vl 1000000000 R0 + 1000000000 ^ m * rm)
    (he : (vl 1000000000 zs : Int) + ((1000000000 ^ R0.length : Nat) : Int) * carry = vl 1000000000 R0 + (-(t : Int)) * V) (ht : W / V ≤ t) (ht2 : t ≤ 999999999) : RedInv m W V t (rm + carry) zs := by
  refine ⟨by omega, hzl, ?_, ht, ht2⟩
  rw [hR] at he
  rw [hW, Int.mul_add, Int.natCast_add, Int.natCast_mul]
  grind

theorem own_top {w : World} {g m rm : Nat} {pre zs post : List Nat} (h : Own .u32 87 w g (pre ++ zs ++ (rm :: post))) (hz : zs.length = m) : w.cell? ⟨g, pre.length + m, none⟩ = some (.int .u32 (rm : Nat)) := by
  subst hz
  rw [h.cell (pre.length + zs.length) (by simp)]
  rw [List.getElem_append_right (by simp)]
  simp

theorem own_end {w : World} {g m rm : Nat} {pre zs post : List Nat} (h : Own .u32 87 w g (pre ++ zs ++ (rm :: post))) (hz : zs.length = m) : Own .u32 87 (w.setCell ⟨g, pre.length + m, none⟩ (.int .u32 ((0 : Nat) : Int))) g (pre ++ (zs ++ [0]) ++ post) := by
  subst hz
  have h2 := h.set (pre.length + zs.length) 0
  have e : (pre ++ zs ++ (rm :: post)).set (pre.length + zs.length) 0 = pre ++ (zs ++ [0]) ++ post := by
    rw [List.set_append_right _ _ (by simp)]
    simp
  rwa [e] at h2

set_option maxRecDepth 100000 in
set_option maxHeartbeats 6400000 in
theorem reduce_to (g cap m n h off2 cb : Nat) (pre R post ys : List Nat) (w : World) (hm : m = n + 1) (hR : R.length = m + 1) (hy : ys.length = m) (hcap : m + 1 ≤ cap) (hl : pre.length + R.length ≤ 60000) (hRl : ∀ x ∈ R, x < 1000000000) (hyl : ∀ y ∈ ys, y < 1000000000)
    (hlt : vl 1000000000 R < 1000000000 * vl 1000000000 ys) (htop : 0 < ys[n]) (hO : Own .u32 87 w g (pre ++ R ++ post)) (hr : Row .u32 w h off2 ys) (hg : h < w.heap.size) (hgh : h ≠ g) (hml : m ≤ 1000) (hcb : m ≤ cb) (hcb2 : Cap m cb) :
    Calls Tryd.prog 87 #[.slice (some ⟨g, pre.length, none⟩) (m + 1) cap, .slice (some ⟨h, off2, none⟩) m cb] w (RedPost g pre R post ys w) := by
  have hn1 : n < R.length := by omega
  have hm1 : m < R.length := by omega
  have hc1 : w.cell? ⟨g, pre.length + m, none⟩ = some (.int .u32 (R[m] : Nat)) := by
    rw [hO.cell (pre.length + m) (by simp; omega)]
    rw [List.getElem_append_left (by simp; omega), List.getElem_append_right (by omega)]
    simp
  have hc2 : w.cell? ⟨g, pre.length + n, none⟩ = some (.int .u32 (R[n] : Nat)) := by
    rw [hO.cell (pre.length + n) (by simp; omega)]
    rw [List.getElem_append_left (by simp; omega), List.getElem_append_right (by omega)]
    simp
  have hc3 : w.cell? ⟨h, off2 + n, none⟩ = some (.int .u32 (ys[n] : Nat)) := hr n (by omega)
  have hx1 := hRl _ (List.getElem_mem hm1)
  have hx2 := hRl _ (List.getElem_mem hn1)
  have hy1 := hyl _ (List.getElem_mem (show n < ys.length by omega))
  have hest := est_le R ys n (by omega) (by omega) hRl hlt htop
  have heq : ∃ y rm rn : Nat, y = ys[n] ∧ rm = R[m] ∧ rn = R[n] := ⟨_, _, _, rfl, rfl, rfl⟩
  obtain ⟨y, rm, rn, k1, k2, k3⟩ := heq
  have k2' : rm = R[n + 1] := by subst hm; exact k2
  rw [← k1] at hc3 hy1 hest htop
  rw [← k2] at hc1 hx1
  rw [← k3] at hc2 hx2
  rw [← k2', ← k3] at hest
  have K2 := Lib.hid (show R = R.take m ++ [rm] by
    conv => lhs; rw [← List.take_append_drop m R]
    rw [List.drop_eq_getElem_cons hm1, List.drop_of_length_le (by omega), k2])
  have HO := Lib.hid hO
  have HR := Lib.hid hr
  have HX := Lib.hid hRl
  have HY := Lib.hid hyl
  have hmn : (m : Int) - 1 = n := by omega
  have hml' : (m : Int) < m + 1 := by omega
  have hnl' : (n : Int) < (m : Int) + 1 := by omega
  have hnm' : (n : Int) < m := by omega
  have hyz : ((y : Int) == 0) = false := by rw [beq_eq_false_iff_ne]; omega
  have HM := Lib.hid hm
  have HRL := Lib.hid hR
  have HYL := Lib.hid hy
  have e1 : IntKind.u64.wrap (rm : Int) = rm := IntWalk.u64_in _ (by omega)
  have e2 : IntKind.u64.wrap ((rm : Int) * 1000000000) = rm * 1000000000 := IntWalk.u64_in _ (by omega)
  have e3 : IntKind.u64.wrap (rn : Int) = rn := IntWalk.u64_in _ (by omega)
  have e4 : IntKind.i64.wrap ((m : Int) - 1) = n := by rw [hmn]; exact IntWalk.i64_in _ (by omega)
  have e5 : IntKind.u64.wrap ((rm : Int) * 1000000000 + rn) = rm * 1000000000 + rn := IntWalk.u64_in _ (by omega)
  obtain ⟨Q, hQ⟩ : ∃ Q : Nat, (rm * 1000000000 + rn) / y = Q := ⟨_, rfl⟩
  rw [hQ] at hest
  have hqi : ((rm : Int) * 1000000000 + rn) / y = (Q : Int) := by
    rw [← hQ]; simp
  have HEST := Lib.hid hest
  have hlt1 : (R.take m).length = m := by rw [List.length_take]; omega
  have hcall : ∀ (c : Int) (R1 : List Nat) (W : World), -1000000000 ≤ c ∧ c ≤ 1000000000 → R1.length = m → (∀ x ∈ R1, x < 1000000000) → Own .u32 87 W g (pre ++ R1 ++ (rm :: post)) → Row .u32 W h off2 ys → h < W.heap.size →
      Calls Tryd.prog 61 #[.slice (some ⟨g, pre.length, none⟩) m cap, .slice (some ⟨h, off2, none⟩) m cb, .int .i64 c] W (AmPost g pre R1 (rm :: post) ys c W) := by
    intro c R1 W h1 h2 h3 h4 h5 h6
    have h7 : Rd .u32 W (.slice (some ⟨h, off2, none⟩) m cb) ys := by
      have := Rd.mk (c := cb) (by omega) (by rw [hy]; exact hcb2) h6 h5
      rwa [hy] at this
    have := addMultiple_any g cap pre R1 (rm :: post) ys _ c W h1 (by omega) h3 hyl (by omega) h4 h7 (fun _ a k c' e => by
      simp only [Value.slice.injEq, Option.some.injEq] at e
      rw [← e.1]; exact hgh)
    rwa [h2] at this
  have HCALL := Lib.hid hcall
  have HLT1 := Lib.hid hlt1
  have HQI := Lib.hid (And.intro trivial hqi)
  clear hQ hqi hcall hlt1
  have HLTW := Lib.hid hlt
  clear hO hr hRl hyl k1 k2 k3 k2' hest hm hR hy hn1 hm1 hlt
  have HO2 : Hid (Own .u32 87 w g (pre ++ R.take m ++ (rm :: post))) := Lib.hid (by
    have e := HO.out
    rw [K2.out] at e
    rwa [List.append_assoc pre, List.append_assoc (R.take m), List.singleton_append, ← List.append_assoc] at e)
  have HXT : Hid (∀ x ∈ R.take m, x < 1000000000) := Lib.hid (fun x hx => HX.out x (List.mem_of_mem_take hx))
  have HWE : Hid (vl 1000000000 R = vl 1000000000 (R.take m) + 1000000000 ^ m * rm) := Lib.hid (by
    conv => lhs; rw [K2.out]
    rw [vl_append, HLT1.out]; simp [vl])
  have HVP : Hid (0 < vl 1000000000 ys ∧ vl 1000000000 ys < 1000000000 ^ m) := Lib.hid ⟨by
      rcases Nat.eq_zero_or_pos (vl 1000000000 ys) with h0 | h0
      · have := HLTW.out; rw [h0] at this; omega
      · exact h0, by have := vl_lt 1000000000 ys HY.out; rwa [HYL.out] at this⟩
  have hmc : m ≤ cap := by omega
  by_cases hQ : Q ≤ 999999999
  · have HMIN : Hid (vl 1000000000 R / vl 1000000000 ys ≤ Q) := Lib.hid (Nat.le_trans HEST.out (Nat.min_le_left _ _))
    have hneg : IntKind.i64.wrap (-(Q : Int)) = -(Q : Int) := IntWalk.i64_in _ (by omega)
    have hrmw : IntKind.i64.wrap (rm : Int) = rm := IntWalk.i64_in _ (by omega)
    go_enter Tryd.func87, Tryd.ntmps87
    go_wp2_with fail
    go_quiet (fail)
    have hqi := HQI.out.2
    go_wp2_with fail
    clear hqi e1 e2 e3 e4 e5
    go_region_held3 (fun w' => w'.cell? ⟨g, pre.length + m, none⟩ = some (.int .u32 (rm : Nat))) (first | ((try dsimp only); (repeat' apply And.intro); all_goals with_reducible assumption) | go_keep) ((go_at_call 61; refine (HCALL.out _ (R.take m) _ (by omega) HLT1.out HXT.out (by exact HO2.out) (by exact HR.out) (by exact hg)).mono ?_; rintro e w1 ⟨zs, carry, rfl, hz1, hz2, hz3, hz4, hz5⟩; have hri := RedInv.start HLT1.out hz1 hz2 HWE.out hz3 HMIN.out hQ; have hbd := hri.bound HLTW.out HVP.out.2; have hcell := own_top hz4 (hz1.trans HLT1.out); have hsum : IntKind.i64.wrap ((rm : Int) + carry) = rm + carry := IntWalk.i64_in _ (by omega)))
    have HRI := Lib.hid hri
    have HOW := Lib.hid hz4
    have HN := Lib.hid (((Only.refl g w).drewN _).trans hz5)
    obtain ⟨hb1, hb2⟩ := hbd
    clear hri hz1 hz2 hz3 hz4 hz5 hcell hsum hneg hrmw hc1 hc2 hc3
    go_wp2
    go_loopw [7, 8] (fun tv ov wr => ∃ (t' : Nat) (over : Int) (R1 : List Nat), tv = .int .i64 t' ∧ ov = .int .i64 over ∧ -1000000002 ≤ over ∧ over ≤ 1000000002 ∧ t' ≤ 999999999 ∧ Hid (RedInv m (vl 1000000000 R) (vl 1000000000 ys) t' over R1) ∧ Hid (Own .u32 87 wr g (pre ++ R1 ++ (rm :: post))) ∧ Hid (Only g w wr)) (fun tv _ _ => (intOf tv).toNat)
    case atStart => exact ⟨Q, _, zs, rfl, rfl, hb1, hb2, by omega, HRI, HOW, HN⟩
    case round =>
      obtain ⟨t', over, R1, rfl, rfl, ho1, ho2, ht1, HI, HW, HNN⟩ := hrel
      by_cases ho : over < 0
      · go_wp2_with fail
        refine (HCALL.out 1 R1 _ (by omega) HI.out.1 HI.out.2.1 HW.out (HR.out.only HNN.out hgh) (by rw [HNN.out.size]; exact hg)).mono ?_
        rintro e w2 ⟨zs2, carry2, rfl, hz1, hz2, hz3, hz4, hz5⟩
        obtain ⟨hpos, hri⟩ := HI.out.more ho HVP.out.1 hz1 hz2 hz3
        have hbd := hri.bound HLTW.out HVP.out.2
        obtain ⟨u, rfl⟩ : ∃ u, t' = u + 1 := ⟨t' - 1, by omega⟩
        rw [Nat.add_sub_cancel] at hri
        obtain ⟨hd1, hd2⟩ := hbd
        have hcb : -3000000000 ≤ carry2 ∧ carry2 ≤ 3000000000 := by omega
        obtain ⟨hcb1, hcb2⟩ := hcb
        have HRI2 := Lib.hid hri
        have HOW2 := Lib.hid hz4
        have HN2 := Lib.hid (HNN.out.trans hz5)
        clear hz1 hz2 hz3 hz4 hz5 hri
        go_wp2
        go_roundw
        case rel => exact ⟨u, over + carry2, zs2, by go_num, rfl, hd1, hd2, by omega, HRI2, HOW2, HN2⟩
        case measure => simp [intOf] <;> omega
      · obtain ⟨hq1, hq2⟩ := HI.out.done ho HVP.out.1 HVP.out.2
        have HQ1 := Lib.hid hq1
        have HQ2 := Lib.hid hq2
        have hcc := own_top HW.out HI.out.1
        have hff : wr.frozen? ⟨g, pre.length + m, none⟩ = false := HW.out.free _
        clear hq1 hq2
        go_wp2
        go_ret
        refine ⟨R1 ++ [0], by rw [← HQ1.out]; rfl, by rw [List.length_append, HI.out.1, HRL.out]; rfl, ?_, ?_, own_end HW.out HI.out.1, HNN.out.set _ _⟩
        · intro z hz
          rcases List.mem_append.1 hz with hz | hz
          · exact HI.out.2.1 z hz
          · simp at hz; omega
        · rw [vl_append, HQ2.out]; simp [vl]
  · have HMIN : Hid (vl 1000000000 R / vl 1000000000 ys ≤ 999999999) := Lib.hid (Nat.le_trans HEST.out (Nat.min_le_right _ _))
    have hneg : IntKind.i64.wrap (-999999999) = -999999999 := by decide +kernel
    have hrmw : IntKind.i64.wrap (rm : Int) = rm := IntWalk.i64_in _ (by omega)
    go_enter Tryd.func87, Tryd.ntmps87
    go_wp2_with fail
    go_quiet (fail)
    have hqi := HQI.out.2
    go_wp2_with fail
    clear hqi e1 e2 e3 e4 e5
    go_region_held3 (fun w' => w'.cell? ⟨g, pre.length + m, none⟩ = some (.int .u32 (rm : Nat))) (first | ((try dsimp only); (repeat' apply And.intro); all_goals with_reducible assumption) | go_keep) ((go_at_call 61; refine (HCALL.out _ (R.take m) _ (by omega) HLT1.out HXT.out (by exact HO2.out) (by exact HR.out) (by exact hg)).mono ?_; rintro e w1 ⟨zs, carry, rfl, hz1, hz2, hz3, hz4, hz5⟩; have hri := RedInv.start HLT1.out hz1 hz2 HWE.out hz3 HMIN.out (Nat.le_refl _); have hbd := hri.bound HLTW.out HVP.out.2; have hcell := own_top hz4 (hz1.trans HLT1.out); have hsum : IntKind.i64.wrap ((rm : Int) + carry) = rm + carry := IntWalk.i64_in _ (by omega)))
    have HRI := Lib.hid hri
    have HOW := Lib.hid hz4
    have HN := Lib.hid (((Only.refl g w).drewN _).trans hz5)
    obtain ⟨hb1, hb2⟩ := hbd
    clear hri hz1 hz2 hz3 hz4 hz5 hcell hsum hneg hrmw hc1 hc2 hc3
    go_wp2
    go_loopw [7, 8] (fun tv ov wr => ∃ (t' : Nat) (over : Int) (R1 : List Nat), tv = .int .i64 t' ∧ ov = .int .i64 over ∧ -1000000002 ≤ over ∧ over ≤ 1000000002 ∧ t' ≤ 999999999 ∧ Hid (RedInv m (vl 1000000000 R) (vl 1000000000 ys) t' over R1) ∧ Hid (Own .u32 87 wr g (pre ++ R1 ++ (rm :: post))) ∧ Hid (Only g w wr)) (fun tv _ _ => (intOf tv).toNat)
    case atStart => exact ⟨999999999, _, zs, rfl, rfl, hb1, hb2, by omega, HRI, HOW, HN⟩
    case round =>
      obtain ⟨t', over, R1, rfl, rfl, ho1, ho2, ht1, HI, HW, HNN⟩ := hrel
      by_cases ho : over < 0
      · go_wp2_with fail
        refine (HCALL.out 1 R1 _ (by omega) HI.out.1 HI.out.2.1 HW.out (HR.out.only HNN.out hgh) (by rw [HNN.out.size]; exact hg)).mono ?_
        rintro e w2 ⟨zs2, carry2, rfl, hz1, hz2, hz3, hz4, hz5⟩
        obtain ⟨hpos, hri⟩ := HI.out.more ho HVP.out.1 hz1 hz2 hz3
        have hbd := hri.bound HLTW.out HVP.out.2
        obtain ⟨u, rfl⟩ : ∃ u, t' = u + 1 := ⟨t' - 1, by omega⟩
        rw [Nat.add_sub_cancel] at hri
        obtain ⟨hd1, hd2⟩ := hbd
        have hcb : -3000000000 ≤ carry2 ∧ carry2 ≤ 3000000000 := by omega
        obtain ⟨hcb1, hcb2⟩ := hcb
        have HRI2 := Lib.hid hri
        have HOW2 := Lib.hid hz4
        have HN2 := Lib.hid (HNN.out.trans hz5)
        clear hz1 hz2 hz3 hz4 hz5 hri
        go_wp2
        go_roundw
        case rel => exact ⟨u, over + carry2, zs2, by go_num, rfl, hd1, hd2, by omega, HRI2, HOW2, HN2⟩
        case measure => simp [intOf] <;> omega
      · obtain ⟨hq1, hq2⟩ := HI.out.done ho HVP.out.1 HVP.out.2
        have HQ1 := Lib.hid hq1
        have HQ2 := Lib.hid hq2
        have hcc := own_top HW.out HI.out.1
        have hff : wr.frozen? ⟨g, pre.length + m, none⟩ = false := HW.out.free _
        clear hq1 hq2
        go_wp2
        go_ret
        refine ⟨R1 ++ [0], by rw [← HQ1.out]; rfl, by rw [List.length_append, HI.out.1, HRL.out]; rfl, ?_, ?_, own_end HW.out HI.out.1, HNN.out.set _ _⟩
        · intro z hz
          rcases List.mem_append.1 hz with hz | hz
          · exact HI.out.2.1 z hz
          · simp at hz; omega
        · rw [vl_append, HQ2.out]; simp [vl]

end Go.Proofs.YtdkpcjfadabkbaaDoor
