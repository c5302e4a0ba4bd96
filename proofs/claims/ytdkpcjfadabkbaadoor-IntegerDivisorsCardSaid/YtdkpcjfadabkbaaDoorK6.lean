/- What commonDivisor does. -/
import Derived.Test.YtdkpcjfadabkbaaDoorK5
import Derived.Deep.Cut
import Derived.Deep.CutRange
import Derived.Deep.DeepCutAuto
import Derived.Deep.LoopGhost
set_option linter.unusedVariables false
set_option linter.unusedSimpArgs false
namespace Go.Proofs.YtdkpcjfadabkbaaDoor
open Go.RowKit _root_.Go.Proofs.YtdkpcjfadabkbaaDoor.Nm

/-- What two remainders are, in the numbers with which Euclid's algorithm began. -/
def Sums (x y : Nat) (fA fB gA gB : Int) (R R' : Nat) : Prop :=
  (R : Int) = fA * x + fB * y ∧ (R' : Int) = gA * x + gB * y ∧ R' ≤ R ∧ R ≤ x ∧ R + R' < x + y ∧ Nat.gcd R R' = Nat.gcd x y ∧
  (-1000000000 ≤ fA ∧ fA ≤ 1000000000) ∧ (-1000000000 ≤ fB ∧ fB ≤ 1000000000) ∧ (-1000000000 ≤ gA ∧ gA ≤ 1000000000) ∧ (-1000000000 ≤ gB ∧ gB ≤ 1000000000)

theorem lead_sums (x y T : Nat) (fA fB gA gB : Int) (hT : 0 < T) (hy : 0 < y) (hX : x / T < 1000000000000000000) (h : Lead ((x / T : Nat) : Int) ((y / T : Nat) : Int) fA fB gA gB) (hf : fB ≠ 0) : ∃ R R', Sums x y fA fB gA gB R R' := by
  rcases h with h | ⟨u, v, s, p, q, p', q', hc, c1, c2, hq, e1, e2, e3, e4⟩
  · exact absurd h hf
  · have hs := hc.short c1 c2 (by omega)
    have ex : (x : Int) = ((x / T : Nat) : Int) * (T : Int) + ((x % T : Nat) : Int) := by
      have h1 := Nat.div_add_mod x T
      have h2 : ((T * (x / T) + x % T : Nat) : Int) = x := by rw [h1]
      rw [← h2]; push_cast; rw [Int.mul_comm]
    have ey : (y : Int) = ((y / T : Nat) : Int) * (T : Int) + ((y % T : Nat) : Int) := by
      have h1 := Nat.div_add_mod y T
      have h2 : ((T * (y / T) + y % T : Nat) : Int) = y := by rw [h1]
      rw [← h2]; push_cast; rw [Int.mul_comm]
    have m1 := Nat.mod_lt x hT
    have m2 := Nat.mod_lt y hT
    obtain ⟨R, R', r1, r2, r3, r4, r5, r6, r7, r8⟩ := hc.lehmer c1 c2 hq T ((x % T : Nat) : Int) ((y % T : Nat) : Int) x y (by omega) (by omega) (by omega) (by omega) (by omega) ex ey (by omega)
    have g := gcd_of x y R R' _ _ _ _ _ _ _ _ r1 r2 r7 r8
    have p0 := hc.p0; have p1 := hc.q0; have p2 := hc.p0'; have p3 := hc.q1'
    have k1 : (R.toNat : Int) = R := by omega
    have k2 : (R'.toNat : Int) = R' := by omega
    have k3 : -1000000000 ≤ fA ∧ fA ≤ 1000000000 := by rcases hc.sign with h | h <;> rw [h] at e1 <;> omega
    have k4 : -1000000000 ≤ fB ∧ fB ≤ 1000000000 := by rcases hc.sign with h | h <;> rw [h] at e2 <;> omega
    have k5 : -1000000000 ≤ gA ∧ gA ≤ 1000000000 := by rcases hc.sign with h | h <;> rw [h] at e3 <;> omega
    have k6 : -1000000000 ≤ gB ∧ gB ≤ 1000000000 := by rcases hc.sign with h | h <;> rw [h] at e4 <;> omega
    have k7 : R.gcd R' = Nat.gcd R.toNat R'.toNat := by
      have h1 : R = ((R.toNat : Nat) : Int) := k1.symm
      have h2 : R' = ((R'.toNat : Nat) : Int) := k2.symm
      conv => lhs; rw [h1, h2]
      rfl
    refine ⟨R.toNat, R'.toNat, by rw [k1, r1, e1, e2], by rw [k2, r2, e3, e4], by omega, by omega, by omega, ?_, k3, k4, k5, k6⟩
    rw [← k7, g]
    rfl

theorem two_lt (x : Nat) (h : (ds 1000000000 x).length ≤ 2) : x < 1000000000000000000 := by
  have h1 := lt_pow_length 1000000000 (by omega) x
  have h2 : 1000000000 ^ (ds 1000000000 x).length ≤ 1000000000 ^ 2 := Nat.pow_le_pow_right (by omega) h
  omega

/-- The two numbers that have been reached. -/
structure Two2 (P : Nat → Prop) (a b : Nat) (W : World) (s0 s1 : Value) (x y : Nat) : Prop where
  n0 : IsNat W s0 x
  n1 : IsNat W s1 y
  i0 : In P s0
  i1 : In P s1
  le : y ≤ x
  gcd : Nat.gcd x y = Nat.gcd a b
  len : (ds 1000000000 x).length ≤ 900

theorem Two2.kept {P : Nat → Prop} {a b : Nat} {W W' : World} {s0 s1 : Value} {x y : Nat} (h : Two2 P a b W s0 s1 x y) (hk : Kept P W W') : Two2 P a b W' s0 s1 x y :=
  ⟨h.n0.kept h.i0 hk, h.n1.kept h.i1 hk, h.i0, h.i1, h.le, h.gcd, h.len⟩

theorem Two2.form {P : Nat → Prop} {a b : Nat} {W : World} {s0 s1 : Value} {x y : Nat} (h : Two2 P a b W s0 s1 x y) : ∃ a0 c0 a1 c1, s0 = .slice a0 (ds 1000000000 x).length c0 ∧ s1 = .slice a1 (ds 1000000000 y).length c1 := by
  obtain ⟨a0, c0, e0, _⟩ := h.n0
  obtain ⟨a1, c1, e1, _⟩ := h.n1
  exact ⟨a0, c0, a1, c1, e0, e1⟩

theorem len_zero (y : Nat) (h : (ds 1000000000 y).length = 0) : y = 0 := (ds_eq_nil 1000000000 (by omega) y).1 (List.length_eq_zero_iff.1 h)
theorem len_pos (y : Nat) (h : 0 < (ds 1000000000 y).length) : 0 < y := by
  rcases Nat.eq_zero_or_pos y with h1 | h1
  · rw [h1, ds_zero] at h; simp at h
  · exact h1

set_option maxRecDepth 100000 in
set_option maxHeartbeats 6400000 in
theorem commonDivisor_nat (P : Nat → Prop) (aa ab : Option Addr) (ma mb ca cb : Nat) (a b : Nat) (w : World) (hP : ∀ k, w.heap.size ≤ k → P k) (ha : IsNat w (.slice aa ma ca) a) (hb : IsNat w (.slice ab mb cb) b) (ia : In P (.slice aa ma ca)) (ib : In P (.slice ab mb cb))
    (la : (ds 1000000000 a).length ≤ 900) (lb : (ds 1000000000 b).length ≤ 900) :
    Calls Tryd.prog 55 #[.slice aa ma ca, .slice ab mb cb] w (SizePost P (Nat.gcd a b) w) := by
  have HA := Lib.hid ha
  have HB := Lib.hid hb
  have IA := Lib.hid ia
  have IB := Lib.hid ib
  have HP := Lib.hid hP
  clear ha hb ia ib hP
  go_enter Tryd.func55, Tryd.ntmps55
  go_wp2_with fail
  refine (compare_any _ _ a b _ HA.out HB.out).mono ?_
  rintro e w1 ⟨rfl, n1, rfl⟩
  go_upto_if 12 with fail
  go_cut [0, 1] (fun s0 s1 wx => ∃ x y, Hid (Two2 P a b wx s0 s1 x y) ∧ wx = w.drewN n1)
  case first =>
    by_cases hab : a < b
    · rw [sgn_lt (show (a : Int) < (b : Int) by omega)]
      have H2 : Hid (Two2 P a b (w.drewN n1) (.slice ab mb cb) (.slice aa ma ca) b a) := Lib.hid ⟨HB.out.kept IB.out (.drewN _ _ _), HA.out.kept IA.out (.drewN _ _ _), IB.out, IA.out, by omega, Nat.gcd_comm _ _, lb⟩
      go_wp2_with fail
      go_meet
      case rel => exact ⟨b, a, H2, rfl⟩
    · obtain ⟨r, hr, hr0⟩ : ∃ r, sgn (a : Int) (b : Int) = r ∧ ¬ r < 0 := ⟨_, rfl, by unfold sgn; rw [if_neg (by omega)]; split <;> omega⟩
      rw [hr]
      clear hr
      have H2 : Hid (Two2 P a b (w.drewN n1) (.slice aa ma ca) (.slice ab mb cb) a b) := Lib.hid ⟨HA.out.kept IA.out (.drewN _ _ _), HB.out.kept IB.out (.drewN _ _ _), IA.out, IB.out, by omega, rfl, la⟩
      go_wp2_with fail
      go_meet
      case rel => exact ⟨a, b, H2, rfl⟩
  case rest =>
  obtain ⟨x0, y0, H0, rfl⟩ := hcut
  have HW0 : Hid (Below w.heap.size w (w.drewN n1)) := Lib.hid ⟨rfl, rfl, rfl, Nat.le_refl _, fun _ _ => rfl⟩
  clear HA HB IA IB la lb
  go_wp2_with fail
  go_loopg [0, 1, 5, 6, 7, 8] (x0 + y0) (fun k s0 s1 _ _ _ _ wr => ∃ x y, Hid (k = x + y) ∧ Hid (Two2 P a b wr s0 s1 x y) ∧ Hid (Below w.heap.size w wr))
  case atStart => exact ⟨x0, y0, Lib.hid rfl, H0, HW0⟩
  case round =>
    obtain ⟨x, y, HK, H2, HBL⟩ := hrel
    obtain ⟨a0, c0, a1, c1, rfl, rfl⟩ := H2.out.form
    obtain ⟨l0, hl0⟩ : ∃ l, (ds 1000000000 x).length = l := ⟨_, rfl⟩
    obtain ⟨l1, hl1⟩ : ∃ l, (ds 1000000000 y).length = l := ⟨_, rfl⟩
    rw [hl0, hl1] at H2 ⊢
    have HL0 := Lib.hid hl0
    have HL1 := Lib.hid hl1
    clear hl0 hl1
    by_cases hb0 : 0 < l1
    · have hy0 := len_pos y (by rw [HL1.out]; exact hb0)
      have hb0' : (0 : Int) < (l1 : Int) := by omega
      by_cases hb1 : 2 < l0
      · have hb1' : (2 : Int) < (l0 : Int) := by omega
        have HZ := Lib.hid (HBL.out.size)
        go_wp2_with fail
        refine (leadingDigits_any x y _ _ wr H2.out.n0 H2.out.n1 H2.out.le (by rw [HL0.out]; exact hb1) (by have := H2.out.len; omega)).mono ?_
        rintro e w2 ⟨T, hT, rfl, hX, hb⟩
        have HX := Lib.hid (And.intro hT hX)
        have H3 := Lib.hid (H2.out.kept (.all hb))
        have HBL3 := Lib.hid (HBL.out.trans (hb.mono HBL.out.size))
        clear hT hX hb H2 HBL HZ
        obtain ⟨X, hXX⟩ : ∃ X, x / T = X := ⟨_, rfl⟩
        obtain ⟨Y, hYY⟩ : ∃ X, y / T = X := ⟨_, rfl⟩
        rw [hXX] at HX
        rw [hXX, hYY]
        have HXX := Lib.hid (And.intro trivial hXX)
        have HYY := Lib.hid (And.intro trivial hYY)
        have HYX : Hid (Y ≤ X) := Lib.hid (by rw [← hXX, ← hYY]; exact Nat.div_le_div_right H3.out.le)
        clear hXX hYY
        go_wp2_with fail
        refine (leadingSteps_any X Y (by omega) (by have := HYX.out; omega) (by have := HX.out.2; omega) w2).mono ?_
        rintro e w3 ⟨fA, fB, gA, gB, rfl, hld, hb⟩
        have HLD := Lib.hid hld
        have H4 := Lib.hid (H3.out.kept (.all hb))
        have HBL4 := Lib.hid (HBL3.out.trans (hb.mono HBL3.out.size))
        clear hld hb H3 HBL3
        by_cases hf : fB = 0
        · subst hf
          have H5 := Lib.hid (H4.out.kept (.all (boxes2 w3 (.cells #[.int .i64 fA, .int .i64 0] 99) (.cells #[.int .i64 gA, .int .i64 gB] 99))))
          have HBL5 := Lib.hid (HBL4.out.trans ((boxes2 w3 (.cells #[.int .i64 fA, .int .i64 0] 99) (.cells #[.int .i64 gA, .int .i64 gB] 99)).mono HBL4.out.size))
          go_wp2_with fail
          refine (divide_nat _ _ x y _ H5.out.n0 H5.out.n1 hy0 H5.out.len).mono ?_
          rintro e w6 hq
          obtain ⟨a3, m3, k3, a4, m4, k4, rfl, hv3, hf3, hv4, hf4, hb3⟩ := quo_form hq
          have HN : Hid (Two2 P a b w6 (.slice a1 l1 c1) (.slice a4 m4 k4) y (x % y)) := Lib.hid ⟨H5.out.n1.kept H5.out.i1 (.all hb3), hv4, H5.out.i1, In.fresh hf4 (fun k hk => HP.out k (Nat.le_trans HBL5.out.size hk)), Nat.le_of_lt (Nat.mod_lt _ hy0), by
            rw [← H5.out.gcd, Nat.gcd_comm x y, Nat.gcd_rec y x, Nat.gcd_comm], by have h1 := ds_length_mono 1000000000 (by omega) y x H5.out.le; have := H5.out.len; omega⟩
          have HBL6 := Lib.hid (HBL5.out.trans (hb3.mono HBL5.out.size))
          have HM : Hid (True ∧ y + x % y < gk) := Lib.hid ⟨trivial, by
            have h1 := Nat.mod_lt x hy0
            have h2 := H5.out.le
            have h3 := HK.out
            omega⟩
          clear hq hv3 hf3 hv4 hf4 hb3 H4 H5 HBL4 HBL5
          go_wp2_with fail
          go_roundg (y + x % y)
          case measure => exact HM.out.2
          case rel => exact ⟨y, x % y, Lib.hid rfl, HN, HBL6⟩
        · have hfb : (fB == 0) = false := by simp [hf]
          have HBX := Lib.hid (St2.start w3 (.int .i64 fA) (.int .i64 fB) (.int .i64 gA) (.int .i64 gB) 99 99)
          obtain ⟨R, R', hsm⟩ := lead_sums x y T fA fB gA gB HX.out.1 hy0 (by rw [HXX.out.2]; exact HX.out.2) (by rw [HXX.out.2, HYY.out.2]; exact HLD.out) hf
          have HSM := Lib.hid hsm
          clear hsm HLD HXX HYY HX HYX
          have hS0 := HBX.out
          have H5 := Lib.hid (H4.out.kept (.all (boxes2 w3 (.cells #[.int .i64 fA, .int .i64 fB] 99) (.cells #[.int .i64 gA, .int .i64 gB] 99))))
          have HBL5 := Lib.hid (HBL4.out.trans ((boxes2 w3 (.cells #[.int .i64 fA, .int .i64 fB] 99) (.cells #[.int .i64 gA, .int .i64 gB] 99)).mono HBL4.out.size))
          clear HBX H4 HBL4
          obtain ⟨c0, c1, c2, c3, c4, c5, c6, c7⟩ := hS0.drew.cells
          go_wp2_with fail
          go_region_held3 (fun w' => w'.cell? ⟨w3.heap.size, 0, none⟩ = some (.int .i64 fA) ∧ w'.cell? ⟨w3.heap.size, 1, none⟩ = some (.int .i64 fB) ∧ w'.cell? ⟨w3.heap.size + 1, 0, none⟩ = some (.int .i64 gA) ∧ w'.cell? ⟨w3.heap.size + 1, 1, none⟩ = some (.int .i64 gB)) (first | ((try dsimp only); (repeat' apply And.intro); all_goals with_reducible assumption) | go_keep) (first | (go_at_call 75; have hgd := hT1; clear hgd; refine (msum_any gA gB R' x y _ _ _ HSM.out.2.2.2.2.2.2.2.2.1 HSM.out.2.2.2.2.2.2.2.2.2 (by exact (H5.out.kept (.drew _ _)).n0.kept H5.out.i0 (.all hb8)) (by exact (H5.out.kept (.drew _ _)).n1.kept H5.out.i1 (.all hb8)) (by have := H5.out.len; omega) H5.out.le HSM.out.2.1 (by omega) (by have h1 := HSM.out.2.2.1; have h2 := HSM.out.2.2.2.1; omega)).mono ?_; rintro e w9 ⟨v2, rfl, hv2, hf2, hb9⟩; have hT2 := hT1.next hb9 (Nat.le_refl _); clear d0 d1 d2 d3 d4 d5 d6 d7; obtain ⟨e0, e1, e2, e3, e4, e5, e6, e7⟩ := hT2.cells; obtain ⟨a2, m2, k2, rfl⟩ := IsNat.slice hv2) | (go_at_call 75; refine (msum_any fA fB R x y _ _ _ HSM.out.2.2.2.2.2.2.1 HSM.out.2.2.2.2.2.2.2.1 (by exact (H5.out.kept (.drew _ _)).n0) (by exact (H5.out.kept (.drew _ _)).n1) (by have := H5.out.len; omega) H5.out.le HSM.out.1 (by omega) (by have h2 := HSM.out.2.2.2.1; omega)).mono ?_; rintro e w8 ⟨v1, rfl, hv1, hf1, hb8⟩; have hT1 := hS0.drew.next hb8 (Nat.le_refl _); clear c0 c1 c2 c3 c4 c5 c6 c7; obtain ⟨d0, d1, d2, d3, d4, d5, d6, d7⟩ := hT1.cells; obtain ⟨a9, m9, k9, rfl⟩ := IsNat.slice hv1))
          have hv1' : IsNat w9 (.slice a9 m9 k9) R := by
            have h := Rd.keep hv1 hb9 (Nat.le_refl _)
            rwa [Int.toNat_natCast] at h
          have hv2' : IsNat w9 (.slice a2 m2 k2) R' := by
            have h := hv2
            rwa [Int.toNat_natCast] at h
          have HBL8 : Hid (Below w.heap.size w _) := Lib.hid (HBL5.out.drew.trans (hb8.mono HBL5.out.size))
          have HN : Hid (Two2 P a b w9 (.slice a9 m9 k9) (.slice a2 m2 k2) R R') := Lib.hid ⟨hv1', hv2', In.fresh hf1 (fun k hk => HP.out k (Nat.le_trans HBL5.out.size hk)), In.fresh hf2 (fun k hk => HP.out k (Nat.le_trans HBL8.out.size hk)), HSM.out.2.2.1, by
            rw [← H5.out.gcd]; exact HSM.out.2.2.2.2.2.1, by have h1 := ds_length_mono 1000000000 (by omega) R x HSM.out.2.2.2.1; have := H5.out.len; omega⟩
          have HBL9 := Lib.hid (HBL8.out.trans (hb9.mono HBL8.out.size))
          have HM : Hid (True ∧ R + R' < gk) := Lib.hid ⟨trivial, by
            have h1 := HSM.out.2.2.2.2.1
            have h3 := HK.out
            omega⟩
          clear hv1 hv2 hv1' hv2' hf1 hf2 hb8 hb9 hS0 hT1 hT2 H5 HBL5 HBL8 HSM e0 e1 e2 e3 e4 e5 e6 e7
          go_wp2_with fail
          go_roundg (R + R')
          case measure => exact HM.out.2
          case rel => exact ⟨R, R', Lib.hid rfl, HN, HBL9⟩
      · have hb1' : ¬ (2 : Int) < (l0 : Int) := by omega
        have hz1 : ((l1 : Int) == 0) = false := by rw [beq_eq_false_iff_ne]; omega
        have hx18 := two_lt x (by rw [HL0.out]; omega)
        have hle := H2.out.le
        have HG : Hid (True ∧ Nat.gcd x y = Nat.gcd a b ∧ Nat.gcd x y < 18446744073709551616) := Lib.hid ⟨trivial, H2.out.gcd, by
          have := Nat.le_of_dvd hy0 (Nat.gcd_dvd_right x y); omega⟩
        have HX1 : Hid (True ∧ x < 18446744073709551616 ∧ y < 18446744073709551616) := Lib.hid ⟨trivial, by omega, by omega⟩
        clear hx18 hle
        go_wp2_with fail
        refine (word_any _ x _ H2.out.n0 (by rw [HL0.out]; omega)).mono ?_
        rintro e w2 ⟨rfl, rfl⟩
        go_wp2_with fail
        refine (word_any _ y _ H2.out.n1 (by have h1 := ds_length_mono 1000000000 (by omega) y x H2.out.le; rw [HL0.out] at h1; omega)).mono ?_
        rintro e w2 ⟨rfl, rfl⟩
        go_wp2_with fail
        refine (words_any x y HX1.out.2.1 HX1.out.2.2 _).mono ?_
        rintro e w3 ⟨rfl, n3, rfl⟩
        obtain ⟨G, hG⟩ : ∃ G, Nat.gcd x y = G := ⟨_, rfl⟩
        rw [hG] at HG ⊢
        clear hG
        go_wp2_with fail
        refine (naturalOf_any G HG.out.2.2 _).mono ?_
        rintro e w4 ⟨v4, rfl, hv4, hf4, hb4⟩
        have HV : Hid (IsNat w4 v4 (Nat.gcd a b)) := Lib.hid (by rw [← HG.out.2.1]; exact hv4)
        have HI : Hid (In P v4) := Lib.hid (In.fresh hf4 (fun k hk => HP.out k (Nat.le_trans HBL.out.size hk)))
        have HB4 : Hid (Below w.heap.size w w4) := Lib.hid (HBL.out.trans ((⟨rfl, rfl, rfl, Nat.le_refl _, fun _ _ => rfl⟩ : Below w.heap.size wr (wr.drewN n3)).trans (hb4.mono HBL.out.size)))
        obtain ⟨a5, m5, k5, rfl⟩ := IsNat.slice hv4
        clear hv4 hf4 hb4
        go_wp2
        go_ret
        exact ⟨_, rfl, HV.out, HI.out, HB4.out⟩
    · have hb0' : ¬ (0 : Int) < (l1 : Int) := by omega
      have h1 : l1 = 0 := by omega
      have hy0 := len_zero y (by rw [HL1.out]; exact h1)
      have hz1 : ((l1 : Int) == 0) = true := by rw [beq_iff_eq]; omega
      have HG : Hid (True ∧ Nat.gcd a b = x) := Lib.hid ⟨trivial, by rw [← H2.out.gcd, hy0, Nat.gcd_zero_right]⟩
      clear hy0 h1
      go_wp2
      go_ret
      exact ⟨_, rfl, by rw [HG.out.2]; exact H2.out.n0, H2.out.i0, HBL.out⟩

end Go.Proofs.YtdkpcjfadabkbaaDoor
