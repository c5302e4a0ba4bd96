/- What leadingDigits does. -/
import Derived.Test.YtdkpcjfadabkbaaDoorK4
set_option linter.unusedVariables false
set_option linter.unusedSimpArgs false
namespace Go.Proofs.YtdkpcjfadabkbaaDoor
open Go.RowKit _root_.Go.Proofs.YtdkpcjfadabkbaaDoor.Nm

/-- The shift that has been reached: s times D is the base, and D is a power of ten. -/
def Shift (x s D : Nat) : Prop := s * D = 1000000000 ∧ x * s < 1000000000 ∧ ∃ j, D = 10 ^ j

theorem Shift.start (x : Nat) (hx : x < 1000000000) : Shift x 1 1000000000 := ⟨by omega, by omega, 9, by decide⟩

theorem Shift.next {x s D : Nat} (h : Shift x s D) (h0 : 0 < x) (hl : x * s * 10 < 1000000000) : ∃ D', Shift x (s * 10) D' := by
  obtain ⟨h1, h2, j, rfl⟩ := h
  match j with
  | 0 =>
    have : 1 * s ≤ x * s := Nat.mul_le_mul_right _ h0
    simp at h1; omega
  | j + 1 =>
    refine ⟨10 ^ j, ?_, by rw [← Nat.mul_assoc]; exact hl, j, rfl⟩
    rw [Nat.pow_succ] at h1
    rw [Nat.mul_assoc, Nat.mul_comm 10]; exact h1

theorem Shift.pos {x s D : Nat} (h : Shift x s D) : 0 < s ∧ 0 < D := by
  obtain ⟨h1, _⟩ := h
  constructor
  · rcases Nat.eq_zero_or_pos s with h | h
    · rw [h] at h1; omega
    · exact h
  · rcases Nat.eq_zero_or_pos D with h | h
    · rw [h] at h1; omega
    · exact h

theorem Shift.le {x s D : Nat} (h : Shift x s D) : s ≤ 1000000000 := by
  have hp := h.pos
  obtain ⟨h1, _⟩ := h
  rw [← h1]; exact Nat.le_mul_of_pos_right _ hp.2

theorem top_vl (xs : List Nat) (hx : ∀ x ∈ xs, x < 1000000000) (t : Nat) (hl : xs.length ≤ t + 3) : lb xs (t + 2) = vl 1000000000 xs / 1000000000 ^ (t + 2) := by
  rw [vl_div xs hx, three _ (by rw [List.length_drop]; omega), lb_drop, lb_drop, lb_drop]
  have e1 : lb xs (t + 2 + 1) = 0 := by unfold lb; rw [List.getD_eq_getElem?_getD, List.getElem?_eq_none (by omega)]; rfl
  have e2 : lb xs (t + 2 + 2) = 0 := by unfold lb; rw [List.getD_eq_getElem?_getD, List.getElem?_eq_none (by omega)]; rfl
  rw [e1, e2]
  simp

theorem top_le (xs ys : List Nat) (hx : ∀ x ∈ xs, x < 1000000000) (hy : ∀ y ∈ ys, y < 1000000000) (t : Nat) (hl : xs.length ≤ t + 3) (hm : ys.length ≤ t + 3) (h : vl 1000000000 ys ≤ vl 1000000000 xs) : lb ys (t + 2) ≤ lb xs (t + 2) := by
  rw [top_vl xs hx t hl, top_vl ys hy t hm]
  exact Nat.div_le_div_right h

/-- The leading digits as a program reckons them. -/
def ldg (xs : List Nat) (t s D : Nat) : Nat := (lb xs (t + 2) * 1000000000 + lb xs (t + 1)) * s + lb xs t / D

theorem lead_all (xs ys : List Nat) (hx : ∀ x ∈ xs, x < 1000000000) (hy : ∀ y ∈ ys, y < 1000000000) (t s D a b : Nat) (hl : xs.length ≤ t + 3) (hm : ys.length ≤ t + 3) (hD : s * D = 1000000000) (hs : lb xs (t + 2) * s < 1000000000) (hD0 : 0 < D)
    (ha : vl 1000000000 xs = a) (hb : vl 1000000000 ys = b) : ∃ T, 0 < T ∧ ldg xs t s D = a / T ∧ ldg ys t s D = b / T ∧ a / T < 1000000000000000000 := by
  refine ⟨1000000000 ^ t * D, Nat.mul_pos (Nat.pow_pos (by omega)) hD0, ?_, ?_, ?_⟩
  · rw [← ha]; exact lead_div xs hx t s D hl hD
  · rw [← hb]; exact lead_div ys hy t s D hm hD
  · rw [← ha, ← lead_div xs hx t s D hl hD]; exact lead_lt _ _ _ s D (lb_lt xs hx t) (lb_lt xs hx (t + 1)) hs hD

theorem digits_to (q t s D gT gS : Nat) (v : Value) (xs : List Nat) (w : World) (ht : t ≤ 50000) (hT : Bo w gT (.int .i64 ((t : Int) + 2))) (hS : Bo w gS (.int .i64 (s : Nat)))
    (hr : Rd .u32 w v xs) (hx : ∀ x ∈ xs, x < 1000000000) (hD : s * D = 1000000000) (hs : lb xs (t + 2) * s < 1000000000) (hq : Hid (True ∧ ldg xs t s D = q)) :
    Calls Tryd.prog 93 #[v, .pointer (some ⟨gT, 0, none⟩), .pointer (some ⟨gS, 0, none⟩)] w fun e w' => e = .returned (.int .i64 (q : Nat)) ∧ Below w.heap.size w w' := by
  rw [← hq.out.2]; exact digits_any t s D gT gS v xs w ht hT.cell.1 hS.cell.1 hT.lt hS.lt hr hx hD hs

set_option maxRecDepth 100000 in
set_option maxHeartbeats 3200000 in
theorem leadingDigits_row (a b t g off c : Nat) (vb : Value) (xs ys : List Nat) (w : World) (ht : t ≤ 50000) (hn : xs.length = t + 3) (hg : g < w.heap.size) (hrow : Row .u32 w g off xs) (hcap : Cap (t + 3) c) (hc : t + 3 ≤ c) (hb : Rd .u32 w vb ys)
    (hx : ∀ x ∈ xs, x < 1000000000) (hy : ∀ y ∈ ys, y < 1000000000) (hyl : ys.length ≤ t + 3) (hva : vl 1000000000 xs = a) (hvb : vl 1000000000 ys = b) (hba : b ≤ a) (htop : 0 < lb xs (t + 2)) :
    Calls Tryd.prog 74 #[.slice (some ⟨g, off, none⟩) (t + 3) c, vb] w fun e w' => ∃ T : Nat, 0 < T ∧ e = .returned (.tuple #[.int .i64 ((a / T : Nat) : Int), .int .i64 ((b / T : Nat) : Int)]) ∧ a / T < 1000000000000000000 ∧ Below w.heap.size w w' := by
  have HX := Lib.hid hx
  have HY := Lib.hid hy
  have HRow := Lib.hid hrow
  have HB := Lib.hid hb
  obtain ⟨x, hxt⟩ : ∃ x, lb xs (t + 2) = x := ⟨_, rfl⟩
  have hx1 : x < 1000000000 := by rw [← hxt]; exact lb_lt xs hx _
  rw [hxt] at htop
  have hct : w.cell? ⟨g, off + (t + 2), none⟩ = some (.int .u32 (x : Nat)) := by
    have h := hrow (t + 2) (by omega)
    rw [h]
    have e : xs[t + 2] = x := by rw [← hxt]; unfold lb; rw [List.getD_eq_getElem?_getD, List.getElem?_eq_getElem (by omega)]; rfl
    rw [e]
  have HXT := Lib.hid hxt
  have HN := Lib.hid hn
  have HA := Lib.hid hva
  have HVB := Lib.hid hvb
  have HCT := Lib.hid hct
  have e0 : IntKind.i64.wrap ((t : Int) + 3 - 1) = (t : Int) + 2 := by rw [IntWalk.i64_in _ (by omega)]; omega
  clear hx hy hrow hb hxt hn hva hvb hct
  go_enter Tryd.func74, Tryd.ntmps74
  go_wp2
  go_loopw [] (fun wr => ∃ s D : Nat, Hid (Shift x s D) ∧ Hid (Bo wr w.heap.size (.int .i64 ((t : Int) + 2))) ∧ Hid (Bo wr (w.heap.size + 1) (.int .i64 (s : Nat))) ∧ Hid (Below w.heap.size w wr)) (fun wr => 2000000000 - (intOf ((wr.cell? ⟨w.heap.size + 1, 0, none⟩).getD .nilIface)).toNat)
  case atStart =>
    refine ⟨1, 1000000000, Lib.hid (Shift.start x hx1), Lib.hid ?_, Lib.hid ?_, Lib.hid ?_⟩
    · exact (Bo.new w _ _).alloc _
    · exact ⟨_, second_new _ _ _⟩
    · exact boxes2 _ _ _
  case round =>
    obtain ⟨s, D, HS, HT, HSB, HBL⟩ := hrel
    have hsp := HS.out.pos
    have hsl := HS.out.le
    have hxs := HS.out.2.1
    obtain ⟨P, hP⟩ : ∃ P, x * s = P := ⟨_, rfl⟩
    rw [hP] at hxs
    have p1 : IntKind.i64.wrap ((x : Int) * (s : Int)) = (P : Nat) := by
      have e : ((x : Int) * (s : Int)) = (P : Nat) := by rw [← hP]; simp
      rw [IntWalk.i64_in _ (by omega), e]
    obtain ⟨R, hR⟩ : ∃ R, P * 10 = R := ⟨_, rfl⟩
    have p2 : IntKind.i64.wrap ((P : Int) * 10) = (R : Nat) := by rw [IntWalk.i64_in _ (by omega)]; omega
    have HR := Lib.hid (And.intro trivial hR)
    have c0 := HT.out.cell.1
    have c1 := HSB.out.cell.1
    have f1 := HSB.out.cell.2
    have c2 := (HBL.out.cell (p := ⟨g, off + (t + 2), none⟩) hg).trans HCT.out
    have HP := Lib.hid (And.intro trivial hP)
    clear hP hR
    have n1 : (0 : Int) ≤ (t : Int) + 2 := by omega
    have n2 : ((t : Int) + 2).toNat = t + 2 := by omega
    by_cases hlt : R < 1000000000
    · have hlt' : decide ((R : Int) < 1000000000) = true := by simp; omega
      obtain ⟨D', HS'⟩ := HS.out.next htop (by rw [HP.out.2, HR.out.2]; exact hlt)
      go_wp2
      go_quiet (fail)
      have HT2 := Lib.hid (show Bo (wr.drewN nq) _ _ from HT.out)
      have HSB2 := Lib.hid (show Bo (wr.drewN nq) _ _ from HSB.out)
      have HBL2 : Hid (Below w.heap.size w (wr.drewN nq)) := Lib.hid (HBL.out.trans ⟨rfl, rfl, rfl, Nat.le_refl _, fun _ _ => rfl⟩)
      have q1 : IntKind.i64.wrap ((s : Int) * 10) = (s : Int) * 10 := IntWalk.i64_in _ (by omega)
      have HS2 := Lib.hid HS'
      have hc1 := c1
      clear c0 c1 f1 c2 HT HSB HBL p1 p2 n1 n2 HS'
      have HC1 : Hid ((wr.drewN nq).cell? ⟨w.heap.size + 1, 0, none⟩ = some (.int .i64 (s : Nat)) ∧ wr.cell? ⟨w.heap.size + 1, 0, none⟩ = some (.int .i64 (s : Nat))) := Lib.hid ⟨hc1, hc1⟩
      clear hc1
      generalize wr.drewN nq = W2 at *
      obtain ⟨d0, d1⟩ := HSB2.out.cell
      go_wp2
      go_roundw
      case rel =>
        refine ⟨s * 10, D', HS2, Lib.hid (HT2.out.past 0 _ (by omega)), Lib.hid ?_, Lib.hid ?_⟩
        · have := HSB2.out.set (.int .i64 ((s : Int) * 10))
          rwa [show ((s : Int) * 10) = ((s * 10 : Nat) : Int) from by omega] at this
        · exact HBL2.out.trans (((Only.refl (w.heap.size + 1) _).set 0 _).below (by omega))
      case measure =>
        have e := (HSB2.out.set (.int .i64 ((s : Int) * 10))).cell.1
        rw [e, HC1.out.2]
        simp [intOf]; omega
    · have hlt' : decide ((R : Int) < 1000000000) = false := by simp; omega
      go_wp2
      go_quiet (fail)
      have HT2 := Lib.hid (show Bo (wr.drewN nq) _ _ from HT.out)
      have HSB2 := Lib.hid (show Bo (wr.drewN nq) _ _ from HSB.out)
      have HBL2 : Hid (Below w.heap.size w (wr.drewN nq)) := Lib.hid (HBL.out.trans ⟨rfl, rfl, rfl, Nat.le_refl _, fun _ _ => rfl⟩)
      clear c0 c1 f1 c2 HT HSB HBL p1 p2 n1 n2
      generalize wr.drewN nq = W2 at *
      have hsa : lb xs (t + 2) * s < 1000000000 := by rw [HXT.out]; exact HS.out.2.1
      have hsb : lb ys (t + 2) * s < 1000000000 := by
        have h1 := top_le xs ys HX.out HY.out t (by rw [HN.out]; exact Nat.le_refl _) hyl (by rw [HA.out, HVB.out]; exact hba)
        exact Nat.lt_of_le_of_lt (Nat.mul_le_mul_right _ h1) hsa
      have HSA := Lib.hid hsa
      have HSBB := Lib.hid hsb
      obtain ⟨T, hT0, hT1, hT2, hT3⟩ := lead_all xs ys HX.out HY.out t s D a b (by rw [HN.out]; exact Nat.le_refl _) hyl HS.out.1 hsa hsp.2 HA.out HVB.out
      have HRA : Hid (Rd .u32 w (.slice (some ⟨g, off, none⟩) (t + 3) c) xs) := Lib.hid (by
        have h := Rd.mk (k := .u32) (w := w) (g := g) (off := off) (c := c) (xs := xs) (by rw [HN.out]; exact hc) (by rw [HN.out]; exact hcap) hg HRow.out
        rwa [HN.out] at h)
      obtain ⟨qa, hqa⟩ : ∃ q, a / T = q := ⟨_, rfl⟩
      obtain ⟨qb, hqb⟩ : ∃ q, b / T = q := ⟨_, rfl⟩
      rw [hqa] at hT1 hT3
      rw [hqb] at hT2
      have HQA := Lib.hid (And.intro trivial hqa)
      have HQB := Lib.hid (And.intro trivial hqb)
      have HT1 := Lib.hid (And.intro trivial hT1)
      have HTT2 := Lib.hid (And.intro trivial hT2)
      have HT3 := Lib.hid (And.intro trivial hT3)
      have HT0 := Lib.hid (And.intro trivial hT0)
      clear hsa hsb hT0 hT1 hT2 hT3 hqa hqb
      go_wp2_with fail
      refine (digits_to qa t s D w.heap.size (w.heap.size + 1) _ xs W2 ht HT2.out HSB2.out (HRA.out.keep HBL2.out (Nat.le_refl _)) HX.out HS.out.1 HSA.out HT1).mono ?_
      rintro e w3 ⟨rfl, hb3⟩
      have HB3 := Lib.hid hb3
      have HBL3 := Lib.hid (HBL2.out.trans (hb3.mono HBL2.out.size))
      clear hb3
      go_wp2_with fail
      refine (digits_to qb t s D w.heap.size (w.heap.size + 1) _ ys w3 ht (HT2.out.below HB3.out HT2.out.lt) (HSB2.out.below HB3.out HSB2.out.lt) (HB.out.keep HBL3.out (Nat.le_refl _)) HY.out HS.out.1 HSBB.out HTT2).mono ?_
      rintro e w4 ⟨rfl, hb4⟩
      have HBL4 := Lib.hid (HBL3.out.trans (hb4.mono HBL3.out.size))
      clear hb4
      go_wp2
      go_ret2
      exact ⟨T, HT0.out.2, by rw [HQA.out.2, HQB.out.2]; rfl, by rw [HQA.out.2]; exact HT3.out.2, HBL4.out⟩

theorem leadingDigits_any (a b : Nat) (va vb : Value) (w : World) (ha : IsNat w va a) (hb : IsNat w vb b) (hba : b ≤ a) (hl : 2 < (ds 1000000000 a).length) (la : (ds 1000000000 a).length ≤ 1000) :
    Calls Tryd.prog 74 #[va, vb] w fun e w' => ∃ T : Nat, 0 < T ∧ e = .returned (.tuple #[.int .i64 ((a / T : Nat) : Int), .int .i64 ((b / T : Nat) : Int)]) ∧ a / T < 1000000000000000000 ∧ Below w.heap.size w w' := by
  rcases Rd.cases ha with ⟨h0, _⟩ | ⟨h0, g, off, c, rfl, hxc, hcap, hg, hrow⟩
  · rw [h0] at hl; simp at hl
  · obtain ⟨t, ht⟩ : ∃ t, (ds 1000000000 a).length = t + 3 := ⟨(ds 1000000000 a).length - 3, by omega⟩
    have htop : 0 < lb (ds 1000000000 a) (t + 2) := by
      have h1 := getLast_ne 1000000000 (by omega) a
      rw [List.getLast?_eq_getElem?, show (ds 1000000000 a).length - 1 = t + 2 from by omega] at h1
      unfold lb
      rw [List.getD_eq_getElem?_getD]
      rw [List.getElem?_eq_getElem (by omega)] at h1 ⊢
      rcases Nat.eq_zero_or_pos ((ds 1000000000 a)[t + 2]) with h2 | h2
      · rw [h2] at h1; exact absurd rfl h1
      · exact h2
    have hm := ds_length_mono 1000000000 (by omega) b a hba
    have h := leadingDigits_row a b t g off c vb _ _ w (by omega) ht hg hrow (by rw [← ht]; exact hcap) (by omega) hb (ds_lt _ (by omega) _) (ds_lt _ (by omega) _) (by omega) (vl_ds _ (by omega) _) (vl_ds _ (by omega) _) hba htop
    rw [ht]
    exact h

end Go.Proofs.YtdkpcjfadabkbaaDoor
