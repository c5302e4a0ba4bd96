/- What compare does. -/
import Derived.Test.YtdkpcjfadabkbaaGreatDoorN4
set_option linter.unusedVariables false
set_option linter.unusedSimpArgs false
namespace Go.Proofs.YtdkpcjfadabkbaaGreatDoor
open Go.RowKit

/-- -1, 0 or 1. -/
def sgn (a b : Int) : Int := if a < b then -1 else if b < a then 1 else 0

theorem sgn_lt {a b : Int} (h : a < b) : sgn a b = -1 := if_pos h
theorem sgn_gt {a b : Int} (h : b < a) : sgn a b = 1 := by unfold sgn; rw [if_neg (by omega), if_pos h]
theorem sgn_eq {a b : Int} (h : a = b) : sgn a b = 0 := by unfold sgn; rw [if_neg (by omega), if_neg (by omega)]

theorem cmpInt_any (a b : Int) (w : World) : Calls Tryz.prog 72 #[.int .i64 a, .int .i64 b] w fun e w' => e = .returned (.int .i64 (sgn a b)) ∧ w = w' := by
  rcases Int.lt_trichotomy a b with h | h | h
  · have H := Lib.hid (sgn_lt h)
    go_enter Tryz.func72, Tryz.ntmps72
    go_wp2
    go_ret
    exact ⟨by rw [H.out]; rfl, rfl⟩
  · have H := Lib.hid (sgn_eq h)
    subst h
    go_enter Tryz.func72, Tryz.ntmps72
    go_wp2
    go_ret
    exact ⟨by rw [H.out]; rfl, rfl⟩
  · have H := Lib.hid (sgn_gt h)
    go_enter Tryz.func72, Tryz.ntmps72
    go_wp2
    go_ret
    exact ⟨by rw [H.out]; rfl, rfl⟩

theorem cmpU32_any (a b : Nat) (w : World) : Calls Tryz.prog 73 #[.int .u32 a, .int .u32 b] w fun e w' => e = .returned (.int .i64 (sgn a b)) ∧ w = w' := by
  rcases Nat.lt_trichotomy a b with h | h | h
  · have H := Lib.hid (sgn_lt (show (a : Int) < b by omega))
    go_enter Tryz.func73, Tryz.ntmps73
    go_wp2
    go_ret
    exact ⟨by rw [H.out]; rfl, rfl⟩
  · have H := Lib.hid (sgn_eq (show (a : Int) = b by omega))
    subst h
    go_enter Tryz.func73, Tryz.ntmps73
    go_wp2
    go_ret
    exact ⟨by rw [H.out]; rfl, rfl⟩
  · have H := Lib.hid (sgn_gt (show (b : Int) < a by omega))
    have h2 : ¬ a < b := by omega
    go_enter Tryz.func73, Tryz.ntmps73
    go_wp2
    go_ret
    exact ⟨by rw [H.out]; rfl, rfl⟩

/-- A callee that draws nothing, behind draws. -/
theorem still_more {P : Program} {f : FuncId} {args : Array Value} {w : World} {a n : Nat} {v : Value} (h : Calls P f args (w.drewN (a + n)) fun e w' => e = .returned v ∧ w.drewN (a + n) = w') :
    Calls P f args (w.drewN (a + n)) fun e w'' => e = .returned v ∧ ∃ m, w'' = w.drewN (a + m) := h.mono fun _ _ ⟨he, hm⟩ => ⟨he, n, hm.symm⟩

/-- A number comes back; the world has at most been drawn from. -/
def CmpPost (r : Int) (w : World) (e : Ending) (w' : World) : Prop := e = .returned (.int .i64 r) ∧ ∃ n, w' = w.drewN n

theorem compare_lens (aa ab : Option Addr) (na nb ca cb : Nat) (h : na ≠ nb) (ha : na ≤ 60000) (hb : nb ≤ 60000) (w : World) :
    Calls Tryz.prog 53 #[.slice aa na ca, .slice ab nb cb] w (CmpPost (sgn na nb) w) := by
  have hn : ((na : Int) != nb) = true := by rw [bne_iff_ne]; omega
  go_enter Tryz.func53, Tryz.ntmps53
  go_wp2_with (go_at_call 72; refine (cmpInt_any _ _ _).mono ?_; rintro e w' ⟨rfl, rfl⟩)
  go_ret
  exact ⟨rfl, 0, rfl⟩

theorem compare_empty (aa ab : Option Addr) (ca cb : Nat) (w : World) :
    Calls Tryz.prog 53 #[.slice aa 0 ca, .slice ab 0 cb] w (CmpPost 0 w) := by
  go_enter Tryz.func53, Tryz.ntmps53
  go_wp2
  refine wp_loop_rounds 1 ?_
  rw [rounds_succ]
  go_wp2
  go_ret
  exact ⟨rfl, 0, rfl⟩

theorem cmp_step (xs ys : List Nat) (p : Nat) (hp : p < xs.length) (hq : p < ys.length) (hd : xs.drop (p + 1) = ys.drop (p + 1)) (he : xs[p] = ys[p]) : xs.drop p = ys.drop p := by
  rw [List.drop_eq_getElem_cons hp, List.drop_eq_getElem_cons hq, hd, he]

theorem cmp_sgn (xs ys : List Nat) (hx : ∀ x ∈ xs, x < 1000000000) (hy : ∀ y ∈ ys, y < 1000000000) (p : Nat) (hp : p < xs.length) (hq : p < ys.length) (hd : xs.drop (p + 1) = ys.drop (p + 1)) (hne : xs[p] ≠ ys[p]) :
    sgn xs[p] ys[p] = sgn (Nm.vl 1000000000 xs) (Nm.vl 1000000000 ys) := by
  rcases Nat.lt_or_ge xs[p] ys[p] with h | h
  · have := Nm.vl_lt_at 1000000000 xs ys hx p hp hq hd h
    rw [sgn_lt (by omega), sgn_lt (by omega)]
  · have := Nm.vl_lt_at 1000000000 ys xs hy p hq hp hd.symm (by omega)
    rw [sgn_gt (by omega), sgn_gt (by omega)]

set_option maxRecDepth 100000 in
set_option maxHeartbeats 1600000 in
theorem compare_rows (g1 o1 c1 g2 o2 c2 : Nat) (xs ys : List Nat) (w : World) (hl : ys.length = xs.length) (h0 : xs.length ≤ 60000) (hx : ∀ x ∈ xs, x < 1000000000) (hy : ∀ y ∈ ys, y < 1000000000) (h1 : Row .u32 w g1 o1 xs) (h2 : Row .u32 w g2 o2 ys) :
    Calls Tryz.prog 53 #[.slice (some ⟨g1, o1, none⟩) xs.length c1, .slice (some ⟨g2, o2, none⟩) xs.length c2] w (CmpPost (sgn (Nm.vl 1000000000 xs) (Nm.vl 1000000000 ys)) w) := by
  have H1 := Lib.hid h1
  have H2 := Lib.hid h2
  have HX := Lib.hid hx
  have HY := Lib.hid hy
  have HL := Lib.hid hl
  clear h1 h2 hx hy hl
  go_enter Tryz.func53, Tryz.ntmps53
  go_wp2
  go_loopw [5, 6, 19] (fun i p j wr => ∃ k : Nat, k ≤ xs.length ∧ j = .int .i64 k ∧ Hid (xs.drop (xs.length - k) = ys.drop (xs.length - k)) ∧ Hid (∃ n, wr = w.drewN n)) (fun _ _ j _ => xs.length - (intOf j).toNat)
  case atStart => exact ⟨0, by omega, rfl, Lib.hid (by rw [Nat.sub_zero, List.drop_length, List.drop_of_length_le (by rw [HL.out]; exact Nat.le_refl _)]), Lib.hid ⟨0, rfl⟩⟩
  case round =>
    obtain ⟨k, hk, rfl, HD, HQ⟩ := hrel
    obtain ⟨n, rfl⟩ := HQ.out
    clear HQ
    by_cases hlt : k < xs.length
    · have hlt' : (k : Int) < xs.length := by omega
      obtain ⟨p, hp⟩ : ∃ p : Nat, p = xs.length - 1 - k := ⟨_, rfl⟩
      have hpl : p < xs.length := by omega
      have hpy : p < ys.length := by rw [HL.out]; exact hpl
      have hpl' : (p : Int) < xs.length := by omega
      have hpe : (xs.length : Int) - 1 - k = p := by omega
      have HP := Lib.hid (show xs.length - k = p + 1 by omega)
      have HP2 := Lib.hid (show xs.length - (k + 1) = p by omega)
      clear hp
      have hc1 := H1.out p hpl
      have hc2 := H2.out p hpy
      rw [HP.out] at HD
      by_cases he : xs[p] = ys[p]
      · rw [← he] at hc2
        have hne : ((xs[p] : Int) != (xs[p] : Int)) = false := by simp
        have HD' : Hid (xs.drop (xs.length - (k + 1)) = ys.drop (xs.length - (k + 1))) := Lib.hid (by rw [HP2.out]; exact cmp_step xs ys p hpl hpy HD.out he)
        clear he
        go_wp2
        go_quiet (fail)
        go_wp2
        go_roundw
        case rel => exact ⟨k + 1, by omega, by go_num, HD', Lib.hid ⟨_, rfl⟩⟩
        case measure => simp [intOf]; omega
      · have hne : ((xs[p] : Int) != (ys[p] : Int)) = true := by rw [bne_iff_ne]; omega
        have HS := Lib.hid (cmp_sgn xs ys HX.out HY.out p hpl hpy HD.out he)
        clear he
        go_wp2
        go_quiet (fail)
        go_wp2
        go_quiet ((go_at_call 73; exact still_more (cmpU32_any _ _ _)))
        go_wp2
        go_ret
        exact ⟨by rw [← HS.out]; rfl, _, by rw [World.drewN_drewN, World.drewN_drewN]⟩
    · have hke : k = xs.length := by omega
      have HS : Hid (sgn (Nm.vl 1000000000 xs) (Nm.vl 1000000000 ys) = 0) := Lib.hid (by
        have := HD.out
        rw [hke, Nat.sub_self, List.drop_zero, List.drop_zero] at this
        rw [this]
        exact sgn_eq rfl)
      clear hke
      go_wp2
      go_ret
      exact ⟨by rw [HS.out]; rfl, n, rfl⟩

theorem compare_any (va vb : Value) (a b : Nat) (w : World) (ha : IsNat w va a) (hb : IsNat w vb b) :
    Calls Tryz.prog 53 #[va, vb] w (CmpPost (sgn a b) w) := by
  have la := Rd.length ha
  have lb := Rd.length hb
  by_cases hl : (Nm.ds 1000000000 a).length = (Nm.ds 1000000000 b).length
  · rcases Rd.cases ha with ⟨h0, aa, ca, rfl, _⟩ | ⟨h0, g1, o1, c1, rfl, _, _, _, hr1⟩
    · rcases Rd.cases hb with ⟨h0', ab, cb, rfl, _⟩ | ⟨h0', g2, o2, c2, rfl, _, _, _, hr2⟩
      · have e1 := (Nm.ds_eq_nil _ (by omega) a).1 h0
        have e2 := (Nm.ds_eq_nil _ (by omega) b).1 h0'
        rw [sgn_eq (by omega)]
        exact compare_empty aa ab ca cb w
      · rw [h0, List.length_nil] at hl; omega
    · rcases Rd.cases hb with ⟨h0', ab, cb, rfl, _⟩ | ⟨h0', g2, o2, c2, rfl, _, _, _, hr2⟩
      · rw [h0', List.length_nil] at hl; omega
      · have h := compare_rows g1 o1 c1 g2 o2 c2 _ _ w hl.symm la (Nm.ds_lt _ (by omega) a) (Nm.ds_lt _ (by omega) b) hr1 hr2
        rw [Nm.vl_ds _ (by omega), Nm.vl_ds _ (by omega)] at h
        rwa [hl] at h ⊢
  · obtain ⟨aa, ca, rfl, _⟩ := id ha
    obtain ⟨ab, cb, rfl, _⟩ := id hb
    have h := compare_lens aa ab _ _ ca cb hl la lb w
    have e : sgn ((Nm.ds 1000000000 a).length : Int) ((Nm.ds 1000000000 b).length : Int) = sgn a b := by
      rcases Nat.lt_or_ge (Nm.ds 1000000000 a).length (Nm.ds 1000000000 b).length with h1 | h1
      · have := Nm.length_lt 1000000000 (by omega) a b h1
        rw [sgn_lt (by omega), sgn_lt (by omega)]
      · have := Nm.length_lt 1000000000 (by omega) b a (by omega)
        rw [sgn_gt (by omega), sgn_gt (by omega)]
    rwa [e] at h

end Go.Proofs.YtdkpcjfadabkbaaGreatDoor
