/- What divideByLimb does. -/
import Derived.Test.YtdkpcjfadabkbaaGreatDoorN5
set_option linter.unusedVariables false
set_option linter.unusedSimpArgs false
namespace Go.Proofs.YtdkpcjfadabkbaaGreatDoor
open Go.RowKit

/-- The call returns a quotient and a remainder of one limb. -/
def LimbPost (q r : Nat) (w : World) (e : Ending) (w' : World) : Prop := ∃ v, e = .returned (.tuple #[v, .int .u32 (r : Nat)]) ∧ IsNat w' v q ∧ Fr w.heap.size v ∧ Below w.heap.size w w'

/-- One limb of a division. -/
theorem limb_step (x r d v D : Nat) (hd : 0 < d) (hx : x < 1000000000) (hr : r < d) (h : D = v * d + r) :
    (r * 1000000000 + x) / d < 1000000000 ∧ (r * 1000000000 + x) % d < d ∧ x + 1000000000 * D = ((r * 1000000000 + x) / d + 1000000000 * v) * d + (r * 1000000000 + x) % d := by
  refine ⟨?_, Nat.mod_lt _ hd, ?_⟩
  · rw [Nat.div_lt_iff_lt_mul hd]
    have : (r + 1) * 1000000000 ≤ d * 1000000000 := Nat.mul_le_mul_right _ (by omega)
    rw [Nat.mul_comm 1000000000 d]
    omega
  · have h1 := Nat.div_add_mod (r * 1000000000 + x) d
    rw [h, Nat.add_mul, Nat.mul_comm ((r * 1000000000 + x) / d) d, Nat.mul_add, Nat.mul_assoc]
    omega

set_option maxRecDepth 100000 in
set_option maxHeartbeats 1600000 in
theorem divideByLimb_to (aa : Option Addr) (ca : Nat) (xs : List Nat) (d : Nat) (w : World) (ha : Rd .u32 w (.slice aa xs.length ca) xs) (hx : ∀ x ∈ xs, x < 1000000000) (hl : xs.length ≤ 1000) (hd : 0 < d) (hd2 : d < 1000000000) :
    Calls Tryz.prog 94 #[.slice aa xs.length ca, .int .u32 d] w (LimbPost (Nm.vl 1000000000 xs / d) (Nm.vl 1000000000 xs % d) w) := by
  have hcell : ∀ k (hk : k < xs.length), ∃ g0 off, aa = some ⟨g0, off, none⟩ ∧ g0 < w.heap.size ∧ w.cell? ⟨g0, off + k, none⟩ = some (.int .u32 (xs[k] : Nat)) := by
    intro k hk
    obtain ⟨a', c', e, _, _, h3⟩ := id ha
    obtain ⟨g0, off, e2, h4, h5⟩ := h3 (by rintro rfl; simp at hk)
    simp only [Value.slice.injEq] at e
    exact ⟨g0, off, by rw [e.1, e2], h4, h5 k hk⟩
  have HCELL := Lib.hid hcell
  have HA := Lib.hid ha
  have HX := Lib.hid hx
  clear hcell ha hx
  go_enter Tryz.func94, Tryz.ntmps94
  go_wp2_with fail
  refine (extended_any _ xs xs.length xs.length (by omega) (by omega) _ HA.out).mono ?_
  rintro e w1 ⟨g, hg, rfl, hO, hw1⟩
  rw [Nat.sub_self, List.replicate_zero, List.append_nil] at hO
  have HW1 := Lib.hid hw1
  have HO := Lib.hid hO
  clear hw1 hO
  go_wp2
  go_loopw [7, 17] (fun rv j wr => ∃ (k r : Nat) (zs : List Nat), k ≤ xs.length ∧ j = .int .i64 k ∧ rv = .int .u64 r ∧ r < d ∧ Hid (zs.length = k) ∧ Hid (∀ z ∈ zs, z < 1000000000) ∧
      Hid (Nm.vl 1000000000 (xs.drop (xs.length - k)) = Nm.vl 1000000000 zs * d + r) ∧ Hid (Own .u32 96 wr g (xs.take (xs.length - k) ++ zs)) ∧ Hid (Below w.heap.size w wr)) (fun _ j _ => xs.length - (intOf j).toNat)
  case atStart => exact ⟨0, 0, [], by omega, rfl, rfl, hd, Lib.hid rfl, Lib.hid (by simp), Lib.hid (by simp [Nm.vl]), Lib.hid (by simpa using HO.out), HW1⟩
  case round =>
    obtain ⟨k, r, zs, hk, rfl, rfl, hr, HZL, HZ, HV, HOW, HB⟩ := hrel
    by_cases hlt : k < xs.length
    · have hlt' : (k : Int) < xs.length := by omega
      obtain ⟨p, hp⟩ : ∃ p : Nat, p = xs.length - 1 - k := ⟨_, rfl⟩
      have hpl : p < xs.length := by omega
      have hpl' : (p : Int) < xs.length := by omega
      have hpe : (xs.length : Int) - 1 - k = p := by omega
      have HP := Lib.hid (show xs.length - k = p + 1 by omega)
      have HP2 := Lib.hid (show xs.length - (k + 1) = p by omega)
      clear hp
      rw [HP.out] at HV HOW
      have hx1 := HX.out _ (List.getElem_mem hpl)
      obtain ⟨g0, off, rfl, hg0, hc⟩ := HCELL.out p hpl
      have hc1 : wr.cell? ⟨g0, off + p, none⟩ = some (.int .u32 (xs[p] : Nat)) := (HB.out.cell (p := ⟨g0, off + p, none⟩) hg0).trans hc
      have hown1 : wr.cell? ⟨g, p, none⟩ = some (.int .u32 (xs[p] : Nat)) := by
        rw [HOW.out.cell p (by rw [List.length_append, List.length_take]; omega)]
        rw [List.getElem_append_left (by rw [List.length_take]; omega), List.getElem_take]
      have hf1 : wr.frozen? ⟨g, p, none⟩ = false := HOW.out.free _
      have HST := Lib.hid (limb_step xs[p] r d _ _ hd hx1 hr HV.out)
      clear hc
      obtain ⟨q, hq⟩ : ∃ q : Nat, q = (r * 1000000000 + xs[p]) / d := ⟨_, rfl⟩
      obtain ⟨r', hr'⟩ : ∃ r' : Nat, r' = (r * 1000000000 + xs[p]) % d := ⟨_, rfl⟩
      rw [← hq, ← hr'] at HST
      have hq1 := HST.out.1
      have hr1 := HST.out.2.1
      have HQ : Hid (((r : Int) * 1000000000 + xs[p]) / d % 4294967296 = q) := Lib.hid (by
        rw [show (r : Int) * 1000000000 + xs[p] = ((r * 1000000000 + xs[p] : Nat) : Int) from by simp, show ((r * 1000000000 + xs[p] : Nat) : Int) / (d : Int) = (((r * 1000000000 + xs[p]) / d : Nat) : Int) from rfl, ← hq]
        omega)
      have HRR : Hid (((r : Int) * 1000000000 + xs[p]) % d = r') := Lib.hid (by
        rw [show (r : Int) * 1000000000 + xs[p] = ((r * 1000000000 + xs[p] : Nat) : Int) from by simp, show ((r * 1000000000 + xs[p] : Nat) : Int) % (d : Int) = (((r * 1000000000 + xs[p]) % d : Nat) : Int) from rfl, ← hr'])
      have HV' : Hid (Nm.vl 1000000000 (xs.drop p) = Nm.vl 1000000000 (q :: zs) * d + r') := Lib.hid (by
        rw [List.drop_eq_getElem_cons hpl]
        exact HST.out.2.2)
      have HOW' : Hid (Own .u32 96 (wr.setCell ⟨g, p, none⟩ (.int .u32 (q : Nat))) g (xs.take p ++ (q :: zs))) := Lib.hid (by
        have h := HOW.out.set p q
        have e : (xs.take (p + 1) ++ zs).set p q = xs.take p ++ (q :: zs) := by
          rw [List.take_add_one, List.getElem?_eq_getElem hpl, List.append_assoc, List.set_append_right _ _ (by rw [List.length_take]; omega), List.length_take, Nat.min_eq_left (by omega), Nat.sub_self]
          rfl
        rwa [e] at h)
      clear hq hr'
      go_wp2
      rw [HQ.out, HRR.out]
      refine ⟨⟨k + 1, r', q :: zs, by omega, by go_num, rfl, hr1, Lib.hid (by rw [List.length_cons, HZL.out]), Lib.hid ?_, Lib.hid (by rw [HP2.out]; exact HV'.out), Lib.hid (by rw [HP2.out]; exact HOW'.out), Lib.hid ?_⟩, ?_⟩
      · intro z hz
        rcases List.mem_cons.1 hz with rfl | hz
        · exact hq1
        · exact HZ.out z hz
      · exact HB.out.trans (((Only.refl g wr).set _ _).below hg)
      · simp [intOf]; omega
    · have hke : k = xs.length := by omega
      have HV' : Hid (Nm.vl 1000000000 xs / d = Nm.vl 1000000000 zs ∧ Nm.vl 1000000000 xs % d = r) := Lib.hid (by
        have := HV.out
        rw [hke, Nat.sub_self, List.drop_zero] at this
        rw [this]
        refine ⟨?_, ?_⟩
        · rw [Nat.mul_comm, Nat.mul_add_div hd, Nat.div_eq_of_lt hr, Nat.add_zero]
        · rw [Nat.mul_comm, Nat.mul_add_mod, Nat.mod_eq_of_lt hr])
      have HR : Hid (Rd .u32 wr (.slice (some ⟨g, 0, none⟩) xs.length xs.length) zs) := Lib.hid (by
        have h := HOW.out
        have hzl := HZL.out
        rw [hke, Nat.sub_self, List.take_zero, List.nil_append] at h
        have h2 := h.rd xs.length xs.length (by omega) (Nat.le_refl _) (by omega)
        rwa [List.take_of_length_le (by omega)] at h2)
      have hge : ¬ (k : Int) < xs.length := by omega
      clear hke
      go_wp2_with fail
      refine (trim_any _ zs HZ.out _ HR.out).mono ?_
      rintro e w3 ⟨⟨v', rfl, hv, hsm⟩, rfl⟩
      have HVV := Lib.hid hv
      have HFR := Lib.hid (Fr.of_same hsm hg)
      clear hv hsm
      go_wp2
      go_ret2
      exact ⟨v', by rw [HV'.out.2]; rfl, by rw [HV'.out.1]; exact HVV.out, HFR.out, HB.out⟩

theorem divideByLimb_any (va : Value) (a d : Nat) (w : World) (ha : IsNat w va a) (la : (Nm.ds 1000000000 a).length ≤ 1000) (hd : 0 < d) (hd2 : d < 1000000000) :
    Calls Tryz.prog 94 #[va, .int .u32 d] w (LimbPost (a / d) (a % d) w) := by
  obtain ⟨aa, ca, rfl, _⟩ := id ha
  have h := divideByLimb_to aa ca _ d w ha (Nm.ds_lt _ (by omega) _) la hd hd2
  rwa [Nm.vl_ds _ (by omega)] at h

end Go.Proofs.YtdkpcjfadabkbaaGreatDoor
