/- What addMultiple does: it adds a multiple of a number to a window of a block of the call's own. -/
import Derived.Test.YtdkpcjfadabkbaaGreatDoorN2
set_option linter.unusedVariables false
set_option linter.unusedSimpArgs false
namespace Go.Proofs.YtdkpcjfadabkbaaGreatDoor
open Go.RowKit

/-- The window xs between pre and post, of which zs has been written. -/
def cur (pre xs post zs : List Nat) : List Nat := pre ++ (zs ++ xs.drop zs.length) ++ post

theorem cur_at (pre xs post zs : List Nat) (h : zs.length < xs.length) : (cur pre xs post zs)[pre.length + zs.length]? = some xs[zs.length] := by
  unfold cur
  rw [List.append_assoc, List.getElem?_append_right (by omega), show pre.length + zs.length - pre.length = zs.length from by omega, List.append_assoc, List.getElem?_append_right (by omega), Nat.sub_self]
  rw [List.getElem?_append_left (by rw [List.length_drop]; omega)]
  simp

theorem cur_set (pre xs post zs : List Nat) (z : Nat) (h : zs.length < xs.length) : (cur pre xs post zs).set (pre.length + zs.length) z = cur pre xs post (zs ++ [z]) := by
  unfold cur
  rw [List.append_assoc, List.set_append_right _ _ (by omega), show pre.length + zs.length - pre.length = zs.length from by omega, List.append_assoc, List.set_append_right _ _ (by omega), Nat.sub_self]
  have e : xs.drop zs.length = xs[zs.length] :: xs.drop (zs.length + 1) := (List.drop_eq_getElem_cons h)
  rw [e, List.cons_append, List.set_cons_zero, List.length_append, List.length_singleton]
  simp only [List.append_assoc, List.cons_append, List.nil_append]

theorem cur_length (pre xs post zs : List Nat) (h : zs.length ≤ xs.length) : (cur pre xs post zs).length = pre.length + xs.length + post.length := by
  unfold cur; simp; omega

theorem wrap_in (n : Int) (h1 : -9000000000000000000 ≤ n) (h2 : n ≤ 9000000000000000000) : wrap64 n = n := by unfold wrap64; omega

/-- The limb and the carry, as the walk writes them. -/
theorem am_step (t : Int) (h1 : -2000000000000000000 ≤ t) (h2 : t ≤ 2000000000000000000) :
    (wrap64 (t.tmod 1000000000 + 1000000000)).tmod 1000000000 = t % 1000000000 ∧
    wrap64 ((wrap64 (t - t % 1000000000)).tdiv 1000000000) = t / 1000000000 ∧ (t % 1000000000) % 4294967296 = ((t % 1000000000).toNat : Int) := by
  have hm : -1000000000 < t.tmod 1000000000 ∧ t.tmod 1000000000 < 1000000000 := by
    have := Int.tmod_lt_of_pos t (b := 1000000000) (by omega)
    have h3 := Int.lt_tmod_of_pos t (b := 1000000000) (by omega)
    omega
  refine ⟨?_, ?_, by omega⟩
  · rw [wrap_in _ (by omega) (by omega), Nm.tmod_emod]
  · rw [wrap_in (t - t % 1000000000) (by omega) (by omega), Nm.quo_ediv, wrap_in _ (by omega) (by omega)]

/-- What addMultiple leaves: new limbs in the window, and the carry. -/
def AmPost (g : Nat) (pre xs post ys : List Nat) (count : Int) (w : World) (e : Ending) (w' : World) : Prop :=
  ∃ (zs : List Nat) (carry : Int), e = .returned (.int .i64 carry) ∧ zs.length = xs.length ∧ (∀ z ∈ zs, z < 1000000000) ∧
    (Nm.vl 1000000000 zs : Int) + ((1000000000 ^ xs.length : Nat) : Int) * carry = Nm.vl 1000000000 xs + count * Nm.vl 1000000000 ys ∧
    Own .u32 96 w' g (pre ++ zs ++ post) ∧ Only g w w'

theorem am_early (xs ys zs : List Nat) (count : Int) (h : Nm.AmInv xs ys count zs 0) (hy : ys.length ≤ zs.length) (hx : ∀ x ∈ xs, x < 1000000000) :
    (zs ++ xs.drop zs.length).length = xs.length ∧ (∀ z ∈ zs ++ xs.drop zs.length, z < 1000000000) ∧
    (Nm.vl 1000000000 (zs ++ xs.drop zs.length) : Int) + ((1000000000 ^ xs.length : Nat) : Int) * 0 = Nm.vl 1000000000 xs + count * Nm.vl 1000000000 ys := by
  obtain ⟨h1, h2, h3⟩ := h
  refine ⟨by rw [List.length_append, List.length_drop]; omega, ?_, ?_⟩
  · intro z hz
    rcases List.mem_append.1 hz with hz | hz
    · exact h1 z hz
    · exact hx z (List.mem_of_mem_drop hz)
  · have e : Nm.vl 1000000000 xs = Nm.vl 1000000000 (xs.take zs.length) + 1000000000 ^ zs.length * Nm.vl 1000000000 (xs.drop zs.length) := by
      conv => lhs; rw [← List.take_append_drop zs.length xs]
      rw [Nm.vl_append, List.length_take, Nat.min_eq_left h2]
    rw [Nm.vl_append, e]
    rw [List.take_of_length_le hy] at h3
    generalize 1000000000 ^ zs.length * Nm.vl 1000000000 (xs.drop zs.length) = t
    simp only [Int.natCast_add, Int.mul_zero, Int.add_zero] at *
    omega

theorem am_end (xs ys zs : List Nat) (count carry : Int) (h : Nm.AmInv xs ys count zs carry) (hz : zs.length = xs.length) (hy : ys.length ≤ xs.length) :
    (∀ z ∈ zs, z < 1000000000) ∧ (Nm.vl 1000000000 zs : Int) + ((1000000000 ^ xs.length : Nat) : Int) * carry = Nm.vl 1000000000 xs + count * Nm.vl 1000000000 ys := by
  obtain ⟨h1, h2, h3⟩ := h
  rw [hz, List.take_length, List.take_of_length_le hy] at h3
  exact ⟨h1, h3⟩

set_option maxRecDepth 100000 in
set_option maxHeartbeats 1600000 in
theorem addMultiple_row (g h off2 c c2 : Nat) (pre xs post ys : List Nat) (count : Int) (w : World) (hc : -1000000000 ≤ count ∧ count ≤ 1000000000)
    (hxs : 0 < xs.length) (hys : 0 < ys.length) (hyx : ys.length ≤ xs.length) (hx : ∀ x ∈ xs, x < 1000000000) (hy : ∀ y ∈ ys, y < 1000000000) (hl : pre.length + xs.length ≤ 60000)
    (hO : Own .u32 96 w g (pre ++ xs ++ post)) (hr : Row .u32 w h off2 ys) (hgh : h ≠ g) :
    Calls Tryz.prog 70 #[.slice (some ⟨g, pre.length, none⟩) xs.length c, .slice (some ⟨h, off2, none⟩) ys.length c2, .int .i64 count] w (AmPost g pre xs post ys count w) := by
  have HO := Lib.hid hO
  have HR := Lib.hid hr
  have HX := Lib.hid hx
  have HY := Lib.hid hy
  clear hO hr hx hy
  go_enter Tryz.func70, Tryz.ntmps70
  go_wp2
  go_loopw [7, 8, 9, 10, 13] (fun cv i t l j wr => ∃ (zs : List Nat) (carry : Int), zs.length ≤ xs.length ∧ j = .int .i64 zs.length ∧ cv = .int .i64 carry ∧ -1000000001 ≤ carry ∧ carry ≤ 1000000001 ∧
      Hid (Nm.AmInv xs ys count zs carry) ∧ Hid (Own .u32 96 wr g (cur pre xs post zs)) ∧ Hid (Only g w wr)) (fun _ _ _ _ j _ => xs.length - (intOf j).toNat)
  case atStart => exact ⟨[], 0, by simp, rfl, rfl, by omega, by omega, Lib.hid (Nm.AmInv.start _ _ _), Lib.hid (by simpa [cur] using HO.out), Lib.hid (Only.refl _ _)⟩
  case round =>
    obtain ⟨zs, carry, hz, rfl, rfl, hk1, hk2, HI, HW, HN⟩ := hrel
    by_cases hlt : zs.length < xs.length
    · have hlt' : (zs.length : Int) < xs.length := by omega
      have hx1 := HX.out _ (List.getElem_mem hlt)
      have hcl : (cur pre xs post zs).length = pre.length + xs.length + post.length := cur_length _ _ _ _ hz
      have hc1 : wr.cell? ⟨g, pre.length + zs.length, none⟩ = some (.int .u32 (xs[zs.length] : Nat)) := by
        rw [HW.out.cell (pre.length + zs.length) (by omega)]
        have := cur_at pre xs post zs hlt
        rw [List.getElem?_eq_getElem (by omega)] at this
        rw [Option.some.inj this]
      have hf1 : wr.frozen? ⟨g, pre.length + zs.length, none⟩ = false := HW.out.free _
      clear hcl
      by_cases hly : zs.length < ys.length
      · have hly' : (zs.length : Int) < ys.length := by omega
        have hy1 := HY.out _ (List.getElem_mem hly)
        have hc2 : wr.cell? ⟨h, off2 + zs.length, none⟩ = some (.int .u32 (ys[zs.length] : Nat)) := (HN.out.cell h _ hgh).trans (HR.out _ hly)
        obtain ⟨p, hp⟩ : ∃ p : Int, p = (ys[zs.length] : Int) * count := ⟨_, rfl⟩
        have HS := Lib.hid (Nm.carry_step xs[zs.length] ys[zs.length] hx1 hy1 count carry hc ⟨hk1, hk2⟩)
        rw [← hp] at HS
        have hp1 : -1000000000000000000 ≤ p := HS.out.2.2.2.2.1
        have hp2 : p ≤ 1000000000000000000 := HS.out.2.2.2.2.2
        have hp3 : IntKind.i64.wrap ((ys[zs.length] : Int) * count) = p := by rw [← hp]; exact IntWalk.i64_in _ (by omega)
        have HP := Lib.hid hp
        clear hp
        have HA := Lib.hid (am_step ((xs[zs.length] : Int) + carry + p) (by have := HS.out.1; omega) (by have := HS.out.2.1; omega))
        have HI' := Lib.hid (HI.out.step hlt ((xs[zs.length] : Int) + carry + p) (by rw [HP.out, Nm.yat, List.getElem?_eq_getElem hly]; rfl))
        go_wp2
        rw [HA.out.1, HA.out.2.1, HA.out.2.2]
        refine ⟨⟨zs ++ [(((xs[zs.length] : Int) + carry + p) % 1000000000).toNat], _, ?_, ?_, rfl, HS.out.2.2.1, HS.out.2.2.2.1, HI', ?_, ?_⟩, ?_⟩
        · rw [List.length_append, List.length_singleton]; omega
        · rw [List.length_append, List.length_singleton]; go_num
        · exact Lib.hid (by rw [← cur_set _ _ _ _ _ hlt]; exact HW.out.set _ _)
        · exact Lib.hid (HN.out.set _ _)
        · simp [intOf]; omega
      · have hly' : ¬ (zs.length : Int) < ys.length := by omega
        have hyat : Nm.yat ys zs.length = 0 := by rw [Nm.yat, List.getElem?_eq_none (by omega)]; rfl
        have HYA := Lib.hid hyat
        clear hyat
        by_cases hc0 : carry = 0
        · have hcb : (carry == 0) = true := by simp [hc0]
          have HE := Lib.hid (am_early xs ys zs count (by rw [← hc0]; exact HI.out) (by omega) HX.out)
          clear hc0
          go_wp2
          go_ret
          exact ⟨_, _, rfl, HE.out.1, HE.out.2.1, HE.out.2.2, HW.out, HN.out⟩
        · have hcb : (carry == 0) = false := by simp [hc0]
          clear hc0
          have HS := Lib.hid (Nm.carry_step xs[zs.length] 0 hx1 (by omega) count carry hc ⟨hk1, hk2⟩)
          rw [show ((0 : Nat) : Int) * count = 0 from by simp, Int.add_zero] at HS
          have HA := Lib.hid (am_step ((xs[zs.length] : Int) + carry) (by have := HS.out.1; omega) (by have := HS.out.2.1; omega))
          have HI' := Lib.hid (HI.out.step hlt ((xs[zs.length] : Int) + carry) (by rw [HYA.out]; simp))
          go_wp2
          rw [HA.out.1, HA.out.2.1, HA.out.2.2]
          refine ⟨⟨zs ++ [(((xs[zs.length] : Int) + carry) % 1000000000).toNat], _, ?_, ?_, rfl, HS.out.2.2.1, HS.out.2.2.2.1, HI', ?_, ?_⟩, ?_⟩
          · rw [List.length_append, List.length_singleton]; omega
          · rw [List.length_append, List.length_singleton]; go_num
          · exact Lib.hid (by rw [← cur_set _ _ _ _ _ hlt]; exact HW.out.set _ _)
          · exact Lib.hid (HN.out.set _ _)
          · simp [intOf]; omega
    · have hze : zs.length = xs.length := by omega
      have HE := Lib.hid (am_end xs ys zs count carry HI.out hze hyx)
      have HW' : Hid (Own .u32 96 wr g (pre ++ zs ++ post)) := Lib.hid (by
        have := HW.out
        unfold cur at this
        rwa [hze, List.drop_length, List.append_nil] at this)
      have HZ := Lib.hid hze
      have hge : ¬ (zs.length : Int) < xs.length := by omega
      clear hze
      go_wp2
      go_ret
      exact ⟨zs, carry, rfl, HZ.out, HE.out.1, HE.out.2, HW'.out, HN.out⟩

end Go.Proofs.YtdkpcjfadabkbaaGreatDoor
