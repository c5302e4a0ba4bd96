/- What the reference's plus does. -/
import Derived.Test.YtdkpcjfadabkbaaGreatDoorR9
import Derived.Deep.LoopGhost
set_option linter.unusedVariables false
set_option linter.unusedSimpArgs false
namespace Go.Proofs.YtdkpcjfadabkbaaGreatDoor
open Go.RowKit _root_.Go.Proofs.YtdkpcjfadabkbaaGreatDoor.Nm

/-- The state of plus' loop. -/
structure PlW (xs ys : List Nat) (f : Int) (w wr : World) (i : Nat) (v : Value) (out : List Nat) (carry : Int) : Prop where
  pl : Pl xs ys f i out carry
  own : Ow wr w.heap.size v out
  below : Below w.heap.size w wr

theorem Ow.one (wr : World) (B : Nat) (hB : B ≤ wr.heap.size) (d : Nat) : (wr.alloc (.cells #[.int .i64 (d : Nat)] 3)).ownsRow B 3 1 (.slice (some ⟨wr.heap.size, 0, none⟩) 1 1) 1 [.int .i64 (d : Nat)] :=
  ⟨rfl, .inr ⟨wr.heap.size, 1, #[.int .i64 (d : Nat)], rfl, hB, heap_alloc_new _ _, Nat.le_refl _, by unfold maxLen; omega, rfl, rfl⟩⟩

/-- Where an owned row that is not nil lies. -/
theorem Ow.at {W : World} {B g cap : Nat} {xs : List Nat} (h : Ow W B (.slice (some ⟨g, 0, none⟩) xs.length cap) xs) (j : Nat) (u : Value) (hu : (xs.map (fun x => Value.int .i64 (x : Nat)))[j]? = some u) : W.cell? ((⟨g, 0, none⟩ : Addr).add j) = some u := by
  rcases h.2 with ⟨hv, _⟩ | ⟨g', cap', cur, hv, hB, hg, h1, h2, h3, h4⟩
  · cases hv
  · simp only [Value.slice.injEq, Option.some.injEq, Addr.mk.injEq] at hv
    obtain ⟨⟨rfl, _⟩, _, rfl⟩ := hv
    rw [Nat.mul_one] at h4
    rw [← h4, List.getElem?_take] at hu
    split at hu
    · rw [addr_add]
      simp only [World.cell?, hg, Nat.zero_add]
      simpa using hu
    · cases hu

set_option maxRecDepth 100000 in
set_option maxHeartbeats 6400000 in
theorem plus_any (v1 v2 : Value) (xs ys : List Nat) (f : Int) (z : Nat) (w : World) (h1 : Rd .i64 w v1 xs) (h2 : Rd .i64 w v2 ys) (hf : f = 1 ∨ f = -1) (hx : ∀ x ∈ xs, x < 10) (hy : ∀ y ∈ ys, y < 10) (hle : f = -1 → dval ys ≤ dval xs)
    (lx : xs.length ≤ 2000) (ly : ys.length ≤ 2000) (hz : (z : Int) = dval xs + f * dval ys) :
    Calls Tryz.prog 34 #[v1, v2, .int .i64 f] w (DigPost z w) := by
  obtain ⟨a1, c1, rfl, _⟩ := id h1
  obtain ⟨a2, c2, rfl, _⟩ := id h2
  have H1 := Lib.hid h1
  have H2 := Lib.hid h2
  have HX := Lib.hid hx
  have HY := Lib.hid hy
  have HLE := Lib.hid hle
  have HZ := Lib.hid (And.intro trivial hz)
  have HF := Lib.hid hf
  obtain ⟨la, hla⟩ : ∃ l, xs.length = l := ⟨_, rfl⟩
  obtain ⟨lb, hlb⟩ : ∃ l, ys.length = l := ⟨_, rfl⟩
  rw [hla] at lx H1
  rw [hlb] at ly H2
  rw [hla, hlb]
  have HLA := Lib.hid (And.intro trivial hla)
  have HLB := Lib.hid (And.intro trivial hlb)
  obtain ⟨M, hM1, hM2, hM3⟩ : ∃ M, la ≤ M ∧ lb ≤ M ∧ M ≤ 2000 := ⟨max la lb, Nat.le_max_left _ _, Nat.le_max_right _ _, Nat.max_le.2 ⟨lx, ly⟩⟩
  have hf1 : -1 ≤ f ∧ f ≤ 1 := by omega
  obtain ⟨hf1, hf2⟩ := hf1
  obtain ⟨i0, hi, hz0, hz1, hz2⟩ := info_parts info64
  have HI := Lib.hid hi
  have HZ0 := Lib.hid hz0
  have HZ1 := Lib.hid hz1
  have HZ2 := Lib.hid hz2
  clear hi hz0 hz1 hz2 h1 h2 hx hy hle hz hf hla hlb
  go_enter Tryz.func34, Tryz.ntmps34
  go_wp2
  go_loopg [7, 8, 9, 10] (M + 1) (fun gk v c i _ wr => ∃ (k : Nat) (out : List Nat) (carry : Int), k + gk = M + 1 ∧ i = .int .i64 k ∧ c = .int .i64 carry ∧ Hid (PlW xs ys f w wr k v out carry)) 
  case atStart => exact ⟨0, [], 0, by omega, rfl, rfl, Lib.hid ⟨Pl.start _ _ _, ⟨rfl, .inl ⟨rfl, rfl⟩⟩, Below.refl _ _⟩⟩
  case round =>
    obtain ⟨k, out, carry, hk, rfl, rfl, HP⟩ := hrel
    have hcc := HP.out.pl.c
    obtain ⟨hc1, hc2⟩ := hcc
    by_cases hgo : k < la ∨ k < lb ∨ carry ≠ 0
    · have hkM : k ≤ M := by
        rcases Nat.lt_or_ge k (M + 1) with h | h
        · omega
        · exfalso
          have := HP.out.pl.last HF.out HX.out HY.out HLE.out M (by rw [HLA.out.2]; exact hM1) (by rw [HLB.out.2]; exact hM2) h
          omega
      obtain ⟨X, hX⟩ : ∃ X, dgt xs k = X := ⟨_, rfl⟩
      obtain ⟨Y, hY⟩ : ∃ X, dgt ys k = X := ⟨_, rfl⟩
      have hX10 : X < 10 := by rw [← hX]; exact dgt_lt xs HX.out k
      have hY10 : Y < 10 := by rw [← hY]; exact dgt_lt ys HY.out k
      have hm : -9 ≤ f * (Y : Int) ∧ f * (Y : Int) ≤ 9 := by rcases HF.out with h | h <;> rw [h] <;> omega
      obtain ⟨hm1, hm2⟩ := hm
      have HXD := Lib.hid (And.intro trivial hX)
      have HYD := Lib.hid (And.intro trivial hY)
      have hB : w.heap.size ≤ wr.heap.size := HP.out.below.size
      have HR1 := Lib.hid (H1.out.keep HP.out.below (Nat.le_refl _))
      have HR2 := Lib.hid (H2.out.keep HP.out.below (Nat.le_refl _))
      have hkk : k ≤ 100000 := by omega
      obtain ⟨E, hE⟩ : ∃ E, (X : Int) + f * (Y : Int) + carry = E := ⟨_, rfl⟩
      have HE := Lib.hid (And.intro trivial hE)
      have hE1 : -10 ≤ E ∧ E ≤ 19 := by omega
      obtain ⟨hE1, hE2⟩ := hE1
      clear hX hY
      obtain ⟨dd, cc, hdd, hcase⟩ : ∃ (d : Nat) (c : Int), d < 10 ∧ ((E < 0 ∧ (d : Int) = E + 10 ∧ c = -1) ∨ (¬ E < 0 ∧ ¬ 9 < E ∧ (d : Int) = E ∧ c = 0) ∨ (¬ E < 0 ∧ 9 < E ∧ (d : Int) = E - 10 ∧ c = 1)) := by
        by_cases q1 : E < 0
        · exact ⟨(E + 10).toNat, -1, by omega, .inl ⟨q1, by omega, rfl⟩⟩
        · by_cases q2 : 9 < E
          · exact ⟨(E - 10).toNat, 1, by omega, .inr (.inr ⟨q1, q2, by omega, rfl⟩)⟩
          · exact ⟨E.toNat, 0, by omega, .inr (.inl ⟨q1, q2, by omega, rfl⟩)⟩
      have HN : Hid (Pl xs ys f (k + 1) (dd :: out) cc) := Lib.hid (HP.out.pl.next HF.out HX.out HY.out dd cc hdd (by rw [HXD.out.2, HYD.out.2, hE]; omega))
      have hol : out.length ≤ 2000 := by rw [HP.out.pl.len]; omega
      have hgo' := hgo
      rcases HP.out.own.2 with ⟨hv, h0⟩ | ⟨g, cap, cur, hv, hBg, hg, hc1', hc2', _, _⟩
      · subst hv
        obtain rfl : out = [] := List.length_eq_zero_iff.1 h0
        clear hgo' h0
        rcases (show (k < la) ∨ (¬ k < la ∧ k < lb) ∨ (¬ k < la ∧ ¬ k < lb ∧ carry ≠ 0) by omega) with g1 | ⟨g1, g2⟩ | ⟨g1, g2, g3⟩
        · have g1' : (k : Int) < la := by omega
          clear g1
          rcases hcase with ⟨q1, q2, rfl⟩ | ⟨q1, q2, q3, rfl⟩ | ⟨q1, q2, q3, rfl⟩
          · have q5 : E + 10 = (dd : Int) := q2.symm
            clear q2
            go_wp2_with fail
            refine (digit_any _ xs k _ HR1.out hkk).mono ?_
            rintro e w' ⟨rfl, hw⟩
            rw [hw, HXD.out.2]
            clear hw
            go_wp2_with fail
            refine (digit_any _ ys k _ HR2.out hkk).mono ?_
            rintro e w' ⟨rfl, hw⟩
            rw [hw, HYD.out.2]
            clear hw w'
            go_wp2_with (at_builtin; refine wpList_append_own_none rfl _ _ 28 rfl w.heap.size 3 i0 1 Tryz.underlying28 HI.out _ _ _ rfl (Ow.one wr w.heap.size hB dd) rfl ?_)
            have HP2 : Hid (PlW xs ys f w (wr.alloc (.cells #[.int .i64 (dd : Nat)] 3)) (k + 1) (.slice (some ⟨wr.heap.size, 0, none⟩) 1 1) [dd] (-1)) := Lib.hid ⟨HN.out, Ow.one wr w.heap.size hB dd, HP.out.below.alloc hB _⟩
            clear HN
            go_wp2
            go_roundg (gk - 1)
            case measure => omega
            case rel => exact ⟨k + 1, [dd], (-1), by omega, by go_num, rfl, HP2⟩
          · obtain rfl : E = (dd : Int) := q3.symm
            clear q3
            go_wp2_with fail
            refine (digit_any _ xs k _ HR1.out hkk).mono ?_
            rintro e w' ⟨rfl, hw⟩
            rw [hw, HXD.out.2]
            clear hw
            go_wp2_with fail
            refine (digit_any _ ys k _ HR2.out hkk).mono ?_
            rintro e w' ⟨rfl, hw⟩
            rw [hw, HYD.out.2]
            clear hw w'
            go_wp2_with (at_builtin; refine wpList_append_own_none rfl _ _ 28 rfl w.heap.size 3 i0 1 Tryz.underlying28 HI.out _ _ _ rfl (Ow.one wr w.heap.size hB dd) rfl ?_)
            have HP2 : Hid (PlW xs ys f w (wr.alloc (.cells #[.int .i64 (dd : Nat)] 3)) (k + 1) (.slice (some ⟨wr.heap.size, 0, none⟩) 1 1) [dd] 0) := Lib.hid ⟨HN.out, Ow.one wr w.heap.size hB dd, HP.out.below.alloc hB _⟩
            clear HN
            go_wp2
            go_roundg (gk - 1)
            case measure => omega
            case rel => exact ⟨k + 1, [dd], 0, by omega, by go_num, rfl, HP2⟩
          · have q5 : E - 10 = (dd : Int) := q3.symm
            clear q3
            go_wp2_with fail
            refine (digit_any _ xs k _ HR1.out hkk).mono ?_
            rintro e w' ⟨rfl, hw⟩
            rw [hw, HXD.out.2]
            clear hw
            go_wp2_with fail
            refine (digit_any _ ys k _ HR2.out hkk).mono ?_
            rintro e w' ⟨rfl, hw⟩
            rw [hw, HYD.out.2]
            clear hw w'
            go_wp2_with (at_builtin; refine wpList_append_own_none rfl _ _ 28 rfl w.heap.size 3 i0 1 Tryz.underlying28 HI.out _ _ _ rfl (Ow.one wr w.heap.size hB dd) rfl ?_)
            have HP2 : Hid (PlW xs ys f w (wr.alloc (.cells #[.int .i64 (dd : Nat)] 3)) (k + 1) (.slice (some ⟨wr.heap.size, 0, none⟩) 1 1) [dd] 1) := Lib.hid ⟨HN.out, Ow.one wr w.heap.size hB dd, HP.out.below.alloc hB _⟩
            clear HN
            go_wp2
            go_roundg (gk - 1)
            case measure => omega
            case rel => exact ⟨k + 1, [dd], 1, by omega, by go_num, rfl, HP2⟩
        · have g1' : ¬ (k : Int) < la := by omega
          have g2' : (k : Int) < lb := by omega
          clear g1 g2
          rcases hcase with ⟨q1, q2, rfl⟩ | ⟨q1, q2, q3, rfl⟩ | ⟨q1, q2, q3, rfl⟩
          · have q5 : E + 10 = (dd : Int) := q2.symm
            clear q2
            go_wp2_with fail
            refine (digit_any _ xs k _ HR1.out hkk).mono ?_
            rintro e w' ⟨rfl, hw⟩
            rw [hw, HXD.out.2]
            clear hw
            go_wp2_with fail
            refine (digit_any _ ys k _ HR2.out hkk).mono ?_
            rintro e w' ⟨rfl, hw⟩
            rw [hw, HYD.out.2]
            clear hw w'
            go_wp2_with (at_builtin; refine wpList_append_own_none rfl _ _ 28 rfl w.heap.size 3 i0 1 Tryz.underlying28 HI.out _ _ _ rfl (Ow.one wr w.heap.size hB dd) rfl ?_)
            have HP2 : Hid (PlW xs ys f w (wr.alloc (.cells #[.int .i64 (dd : Nat)] 3)) (k + 1) (.slice (some ⟨wr.heap.size, 0, none⟩) 1 1) [dd] (-1)) := Lib.hid ⟨HN.out, Ow.one wr w.heap.size hB dd, HP.out.below.alloc hB _⟩
            clear HN
            go_wp2
            go_roundg (gk - 1)
            case measure => omega
            case rel => exact ⟨k + 1, [dd], (-1), by omega, by go_num, rfl, HP2⟩
          · obtain rfl : E = (dd : Int) := q3.symm
            clear q3
            go_wp2_with fail
            refine (digit_any _ xs k _ HR1.out hkk).mono ?_
            rintro e w' ⟨rfl, hw⟩
            rw [hw, HXD.out.2]
            clear hw
            go_wp2_with fail
            refine (digit_any _ ys k _ HR2.out hkk).mono ?_
            rintro e w' ⟨rfl, hw⟩
            rw [hw, HYD.out.2]
            clear hw w'
            go_wp2_with (at_builtin; refine wpList_append_own_none rfl _ _ 28 rfl w.heap.size 3 i0 1 Tryz.underlying28 HI.out _ _ _ rfl (Ow.one wr w.heap.size hB dd) rfl ?_)
            have HP2 : Hid (PlW xs ys f w (wr.alloc (.cells #[.int .i64 (dd : Nat)] 3)) (k + 1) (.slice (some ⟨wr.heap.size, 0, none⟩) 1 1) [dd] 0) := Lib.hid ⟨HN.out, Ow.one wr w.heap.size hB dd, HP.out.below.alloc hB _⟩
            clear HN
            go_wp2
            go_roundg (gk - 1)
            case measure => omega
            case rel => exact ⟨k + 1, [dd], 0, by omega, by go_num, rfl, HP2⟩
          · have q5 : E - 10 = (dd : Int) := q3.symm
            clear q3
            go_wp2_with fail
            refine (digit_any _ xs k _ HR1.out hkk).mono ?_
            rintro e w' ⟨rfl, hw⟩
            rw [hw, HXD.out.2]
            clear hw
            go_wp2_with fail
            refine (digit_any _ ys k _ HR2.out hkk).mono ?_
            rintro e w' ⟨rfl, hw⟩
            rw [hw, HYD.out.2]
            clear hw w'
            go_wp2_with (at_builtin; refine wpList_append_own_none rfl _ _ 28 rfl w.heap.size 3 i0 1 Tryz.underlying28 HI.out _ _ _ rfl (Ow.one wr w.heap.size hB dd) rfl ?_)
            have HP2 : Hid (PlW xs ys f w (wr.alloc (.cells #[.int .i64 (dd : Nat)] 3)) (k + 1) (.slice (some ⟨wr.heap.size, 0, none⟩) 1 1) [dd] 1) := Lib.hid ⟨HN.out, Ow.one wr w.heap.size hB dd, HP.out.below.alloc hB _⟩
            clear HN
            go_wp2
            go_roundg (gk - 1)
            case measure => omega
            case rel => exact ⟨k + 1, [dd], 1, by omega, by go_num, rfl, HP2⟩
        · have g1' : ¬ (k : Int) < la := by omega
          have g2' : ¬ (k : Int) < lb := by omega
          have g3' : (carry != 0) = true := by simp [g3]
          clear g1 g2
          rcases hcase with ⟨q1, q2, rfl⟩ | ⟨q1, q2, q3, rfl⟩ | ⟨q1, q2, q3, rfl⟩
          · have q5 : E + 10 = (dd : Int) := q2.symm
            clear q2
            go_wp2_with fail
            refine (digit_any _ xs k _ HR1.out hkk).mono ?_
            rintro e w' ⟨rfl, hw⟩
            rw [hw, HXD.out.2]
            clear hw
            go_wp2_with fail
            refine (digit_any _ ys k _ HR2.out hkk).mono ?_
            rintro e w' ⟨rfl, hw⟩
            rw [hw, HYD.out.2]
            clear hw w'
            go_wp2_with (at_builtin; refine wpList_append_own_none rfl _ _ 28 rfl w.heap.size 3 i0 1 Tryz.underlying28 HI.out _ _ _ rfl (Ow.one wr w.heap.size hB dd) rfl ?_)
            have HP2 : Hid (PlW xs ys f w (wr.alloc (.cells #[.int .i64 (dd : Nat)] 3)) (k + 1) (.slice (some ⟨wr.heap.size, 0, none⟩) 1 1) [dd] (-1)) := Lib.hid ⟨HN.out, Ow.one wr w.heap.size hB dd, HP.out.below.alloc hB _⟩
            clear HN
            go_wp2
            go_roundg (gk - 1)
            case measure => omega
            case rel => exact ⟨k + 1, [dd], (-1), by omega, by go_num, rfl, HP2⟩
          · obtain rfl : E = (dd : Int) := q3.symm
            clear q3
            go_wp2_with fail
            refine (digit_any _ xs k _ HR1.out hkk).mono ?_
            rintro e w' ⟨rfl, hw⟩
            rw [hw, HXD.out.2]
            clear hw
            go_wp2_with fail
            refine (digit_any _ ys k _ HR2.out hkk).mono ?_
            rintro e w' ⟨rfl, hw⟩
            rw [hw, HYD.out.2]
            clear hw w'
            go_wp2_with (at_builtin; refine wpList_append_own_none rfl _ _ 28 rfl w.heap.size 3 i0 1 Tryz.underlying28 HI.out _ _ _ rfl (Ow.one wr w.heap.size hB dd) rfl ?_)
            have HP2 : Hid (PlW xs ys f w (wr.alloc (.cells #[.int .i64 (dd : Nat)] 3)) (k + 1) (.slice (some ⟨wr.heap.size, 0, none⟩) 1 1) [dd] 0) := Lib.hid ⟨HN.out, Ow.one wr w.heap.size hB dd, HP.out.below.alloc hB _⟩
            clear HN
            go_wp2
            go_roundg (gk - 1)
            case measure => omega
            case rel => exact ⟨k + 1, [dd], 0, by omega, by go_num, rfl, HP2⟩
          · have q5 : E - 10 = (dd : Int) := q3.symm
            clear q3
            go_wp2_with fail
            refine (digit_any _ xs k _ HR1.out hkk).mono ?_
            rintro e w' ⟨rfl, hw⟩
            rw [hw, HXD.out.2]
            clear hw
            go_wp2_with fail
            refine (digit_any _ ys k _ HR2.out hkk).mono ?_
            rintro e w' ⟨rfl, hw⟩
            rw [hw, HYD.out.2]
            clear hw w'
            go_wp2_with (at_builtin; refine wpList_append_own_none rfl _ _ 28 rfl w.heap.size 3 i0 1 Tryz.underlying28 HI.out _ _ _ rfl (Ow.one wr w.heap.size hB dd) rfl ?_)
            have HP2 : Hid (PlW xs ys f w (wr.alloc (.cells #[.int .i64 (dd : Nat)] 3)) (k + 1) (.slice (some ⟨wr.heap.size, 0, none⟩) 1 1) [dd] 1) := Lib.hid ⟨HN.out, Ow.one wr w.heap.size hB dd, HP.out.below.alloc hB _⟩
            clear HN
            go_wp2
            go_roundg (gk - 1)
            case measure => omega
            case rel => exact ⟨k + 1, [dd], 1, by omega, by go_num, rfl, HP2⟩
      · subst hv
        have hgl : g < wr.heap.size := by
          rcases Nat.lt_or_ge g wr.heap.size with h' | h'
          · exact h'
          · simp [Array.getElem?_eq_none h'] at hg
        clear hgo' hg hc1' hc2'
        rcases (show (k < la) ∨ (¬ k < la ∧ k < lb) ∨ (¬ k < la ∧ ¬ k < lb ∧ carry ≠ 0) by omega) with g1 | ⟨g1, g2⟩ | ⟨g1, g2, g3⟩
        · have g1' : (k : Int) < la := by omega
          clear g1
          rcases hcase with ⟨q1, q2, rfl⟩ | ⟨q1, q2, q3, rfl⟩ | ⟨q1, q2, q3, rfl⟩
          · have q5 : E + 10 = (dd : Int) := q2.symm
            clear q2
            go_wp2_with fail
            refine (digit_any _ xs k _ HR1.out hkk).mono ?_
            rintro e w' ⟨rfl, hw⟩
            rw [hw, HXD.out.2]
            clear hw
            go_wp2_with fail
            refine (digit_any _ ys k _ HR2.out hkk).mono ?_
            rintro e w' ⟨rfl, hw⟩
            rw [hw, HYD.out.2]
            clear hw w'
            go_wp2_with (at_builtin; refine wpList_append_own _ rfl _ _ 28 rfl w.heap.size 3 i0 (.int .i64 0) 1 8 Tryz.underlying28 HI.out HZ0.out HZ1.out HZ2.out rfl (by decide) _ _ _ rfl (Ow.one wr w.heap.size hB dd) ⟨g, 0, none⟩ out.length cap (out.map (fun x => Value.int .i64 (x : Nat))) rfl (by simp) (fun j u hu => (((Below.refl wr.heap.size wr).alloc (Nat.le_refl _) _).cell (p := (⟨g, 0, none⟩ : Addr).add j) (by rw [addr_add]; exact hgl)).trans (HP.out.own.at j u hu)) (fun u hu => by obtain ⟨x, _, rfl⟩ := List.mem_map.1 hu; rfl) (by unfold maxLen; omega) (by omega) (by simp; omega) ?_)
            intro v' w2 hown' hgrow _
            have HP2 : Hid (PlW xs ys f w w2 (k + 1) v' (dd :: out) (-1)) := Lib.hid ⟨HN.out, by
              unfold Ow
              rw [List.length_cons, Nat.add_comm out.length 1]
              exact hown', (HP.out.below.alloc hB _).grown hgrow (by simp; omega) (fun k hk => by simp [Value.ownBlock] at hk; omega)⟩
            clear HN hown' hgrow
            go_wp2
            go_roundg (gk - 1)
            case measure => omega
            case rel => exact ⟨k + 1, dd :: out, (-1), by omega, by go_num, rfl, HP2⟩
          · obtain rfl : E = (dd : Int) := q3.symm
            clear q3
            go_wp2_with fail
            refine (digit_any _ xs k _ HR1.out hkk).mono ?_
            rintro e w' ⟨rfl, hw⟩
            rw [hw, HXD.out.2]
            clear hw
            go_wp2_with fail
            refine (digit_any _ ys k _ HR2.out hkk).mono ?_
            rintro e w' ⟨rfl, hw⟩
            rw [hw, HYD.out.2]
            clear hw w'
            go_wp2_with (at_builtin; refine wpList_append_own _ rfl _ _ 28 rfl w.heap.size 3 i0 (.int .i64 0) 1 8 Tryz.underlying28 HI.out HZ0.out HZ1.out HZ2.out rfl (by decide) _ _ _ rfl (Ow.one wr w.heap.size hB dd) ⟨g, 0, none⟩ out.length cap (out.map (fun x => Value.int .i64 (x : Nat))) rfl (by simp) (fun j u hu => (((Below.refl wr.heap.size wr).alloc (Nat.le_refl _) _).cell (p := (⟨g, 0, none⟩ : Addr).add j) (by rw [addr_add]; exact hgl)).trans (HP.out.own.at j u hu)) (fun u hu => by obtain ⟨x, _, rfl⟩ := List.mem_map.1 hu; rfl) (by unfold maxLen; omega) (by omega) (by simp; omega) ?_)
            intro v' w2 hown' hgrow _
            have HP2 : Hid (PlW xs ys f w w2 (k + 1) v' (dd :: out) 0) := Lib.hid ⟨HN.out, by
              unfold Ow
              rw [List.length_cons, Nat.add_comm out.length 1]
              exact hown', (HP.out.below.alloc hB _).grown hgrow (by simp; omega) (fun k hk => by simp [Value.ownBlock] at hk; omega)⟩
            clear HN hown' hgrow
            go_wp2
            go_roundg (gk - 1)
            case measure => omega
            case rel => exact ⟨k + 1, dd :: out, 0, by omega, by go_num, rfl, HP2⟩
          · have q5 : E - 10 = (dd : Int) := q3.symm
            clear q3
            go_wp2_with fail
            refine (digit_any _ xs k _ HR1.out hkk).mono ?_
            rintro e w' ⟨rfl, hw⟩
            rw [hw, HXD.out.2]
            clear hw
            go_wp2_with fail
            refine (digit_any _ ys k _ HR2.out hkk).mono ?_
            rintro e w' ⟨rfl, hw⟩
            rw [hw, HYD.out.2]
            clear hw w'
            go_wp2_with (at_builtin; refine wpList_append_own _ rfl _ _ 28 rfl w.heap.size 3 i0 (.int .i64 0) 1 8 Tryz.underlying28 HI.out HZ0.out HZ1.out HZ2.out rfl (by decide) _ _ _ rfl (Ow.one wr w.heap.size hB dd) ⟨g, 0, none⟩ out.length cap (out.map (fun x => Value.int .i64 (x : Nat))) rfl (by simp) (fun j u hu => (((Below.refl wr.heap.size wr).alloc (Nat.le_refl _) _).cell (p := (⟨g, 0, none⟩ : Addr).add j) (by rw [addr_add]; exact hgl)).trans (HP.out.own.at j u hu)) (fun u hu => by obtain ⟨x, _, rfl⟩ := List.mem_map.1 hu; rfl) (by unfold maxLen; omega) (by omega) (by simp; omega) ?_)
            intro v' w2 hown' hgrow _
            have HP2 : Hid (PlW xs ys f w w2 (k + 1) v' (dd :: out) 1) := Lib.hid ⟨HN.out, by
              unfold Ow
              rw [List.length_cons, Nat.add_comm out.length 1]
              exact hown', (HP.out.below.alloc hB _).grown hgrow (by simp; omega) (fun k hk => by simp [Value.ownBlock] at hk; omega)⟩
            clear HN hown' hgrow
            go_wp2
            go_roundg (gk - 1)
            case measure => omega
            case rel => exact ⟨k + 1, dd :: out, 1, by omega, by go_num, rfl, HP2⟩
        · have g1' : ¬ (k : Int) < la := by omega
          have g2' : (k : Int) < lb := by omega
          clear g1 g2
          rcases hcase with ⟨q1, q2, rfl⟩ | ⟨q1, q2, q3, rfl⟩ | ⟨q1, q2, q3, rfl⟩
          · have q5 : E + 10 = (dd : Int) := q2.symm
            clear q2
            go_wp2_with fail
            refine (digit_any _ xs k _ HR1.out hkk).mono ?_
            rintro e w' ⟨rfl, hw⟩
            rw [hw, HXD.out.2]
            clear hw
            go_wp2_with fail
            refine (digit_any _ ys k _ HR2.out hkk).mono ?_
            rintro e w' ⟨rfl, hw⟩
            rw [hw, HYD.out.2]
            clear hw w'
            go_wp2_with (at_builtin; refine wpList_append_own _ rfl _ _ 28 rfl w.heap.size 3 i0 (.int .i64 0) 1 8 Tryz.underlying28 HI.out HZ0.out HZ1.out HZ2.out rfl (by decide) _ _ _ rfl (Ow.one wr w.heap.size hB dd) ⟨g, 0, none⟩ out.length cap (out.map (fun x => Value.int .i64 (x : Nat))) rfl (by simp) (fun j u hu => (((Below.refl wr.heap.size wr).alloc (Nat.le_refl _) _).cell (p := (⟨g, 0, none⟩ : Addr).add j) (by rw [addr_add]; exact hgl)).trans (HP.out.own.at j u hu)) (fun u hu => by obtain ⟨x, _, rfl⟩ := List.mem_map.1 hu; rfl) (by unfold maxLen; omega) (by omega) (by simp; omega) ?_)
            intro v' w2 hown' hgrow _
            have HP2 : Hid (PlW xs ys f w w2 (k + 1) v' (dd :: out) (-1)) := Lib.hid ⟨HN.out, by
              unfold Ow
              rw [List.length_cons, Nat.add_comm out.length 1]
              exact hown', (HP.out.below.alloc hB _).grown hgrow (by simp; omega) (fun k hk => by simp [Value.ownBlock] at hk; omega)⟩
            clear HN hown' hgrow
            go_wp2
            go_roundg (gk - 1)
            case measure => omega
            case rel => exact ⟨k + 1, dd :: out, (-1), by omega, by go_num, rfl, HP2⟩
          · obtain rfl : E = (dd : Int) := q3.symm
            clear q3
            go_wp2_with fail
            refine (digit_any _ xs k _ HR1.out hkk).mono ?_
            rintro e w' ⟨rfl, hw⟩
            rw [hw, HXD.out.2]
            clear hw
            go_wp2_with fail
            refine (digit_any _ ys k _ HR2.out hkk).mono ?_
            rintro e w' ⟨rfl, hw⟩
            rw [hw, HYD.out.2]
            clear hw w'
            go_wp2_with (at_builtin; refine wpList_append_own _ rfl _ _ 28 rfl w.heap.size 3 i0 (.int .i64 0) 1 8 Tryz.underlying28 HI.out HZ0.out HZ1.out HZ2.out rfl (by decide) _ _ _ rfl (Ow.one wr w.heap.size hB dd) ⟨g, 0, none⟩ out.length cap (out.map (fun x => Value.int .i64 (x : Nat))) rfl (by simp) (fun j u hu => (((Below.refl wr.heap.size wr).alloc (Nat.le_refl _) _).cell (p := (⟨g, 0, none⟩ : Addr).add j) (by rw [addr_add]; exact hgl)).trans (HP.out.own.at j u hu)) (fun u hu => by obtain ⟨x, _, rfl⟩ := List.mem_map.1 hu; rfl) (by unfold maxLen; omega) (by omega) (by simp; omega) ?_)
            intro v' w2 hown' hgrow _
            have HP2 : Hid (PlW xs ys f w w2 (k + 1) v' (dd :: out) 0) := Lib.hid ⟨HN.out, by
              unfold Ow
              rw [List.length_cons, Nat.add_comm out.length 1]
              exact hown', (HP.out.below.alloc hB _).grown hgrow (by simp; omega) (fun k hk => by simp [Value.ownBlock] at hk; omega)⟩
            clear HN hown' hgrow
            go_wp2
            go_roundg (gk - 1)
            case measure => omega
            case rel => exact ⟨k + 1, dd :: out, 0, by omega, by go_num, rfl, HP2⟩
          · have q5 : E - 10 = (dd : Int) := q3.symm
            clear q3
            go_wp2_with fail
            refine (digit_any _ xs k _ HR1.out hkk).mono ?_
            rintro e w' ⟨rfl, hw⟩
            rw [hw, HXD.out.2]
            clear hw
            go_wp2_with fail
            refine (digit_any _ ys k _ HR2.out hkk).mono ?_
            rintro e w' ⟨rfl, hw⟩
            rw [hw, HYD.out.2]
            clear hw w'
            go_wp2_with (at_builtin; refine wpList_append_own _ rfl _ _ 28 rfl w.heap.size 3 i0 (.int .i64 0) 1 8 Tryz.underlying28 HI.out HZ0.out HZ1.out HZ2.out rfl (by decide) _ _ _ rfl (Ow.one wr w.heap.size hB dd) ⟨g, 0, none⟩ out.length cap (out.map (fun x => Value.int .i64 (x : Nat))) rfl (by simp) (fun j u hu => (((Below.refl wr.heap.size wr).alloc (Nat.le_refl _) _).cell (p := (⟨g, 0, none⟩ : Addr).add j) (by rw [addr_add]; exact hgl)).trans (HP.out.own.at j u hu)) (fun u hu => by obtain ⟨x, _, rfl⟩ := List.mem_map.1 hu; rfl) (by unfold maxLen; omega) (by omega) (by simp; omega) ?_)
            intro v' w2 hown' hgrow _
            have HP2 : Hid (PlW xs ys f w w2 (k + 1) v' (dd :: out) 1) := Lib.hid ⟨HN.out, by
              unfold Ow
              rw [List.length_cons, Nat.add_comm out.length 1]
              exact hown', (HP.out.below.alloc hB _).grown hgrow (by simp; omega) (fun k hk => by simp [Value.ownBlock] at hk; omega)⟩
            clear HN hown' hgrow
            go_wp2
            go_roundg (gk - 1)
            case measure => omega
            case rel => exact ⟨k + 1, dd :: out, 1, by omega, by go_num, rfl, HP2⟩
        · have g1' : ¬ (k : Int) < la := by omega
          have g2' : ¬ (k : Int) < lb := by omega
          have g3' : (carry != 0) = true := by simp [g3]
          clear g1 g2
          rcases hcase with ⟨q1, q2, rfl⟩ | ⟨q1, q2, q3, rfl⟩ | ⟨q1, q2, q3, rfl⟩
          · have q5 : E + 10 = (dd : Int) := q2.symm
            clear q2
            go_wp2_with fail
            refine (digit_any _ xs k _ HR1.out hkk).mono ?_
            rintro e w' ⟨rfl, hw⟩
            rw [hw, HXD.out.2]
            clear hw
            go_wp2_with fail
            refine (digit_any _ ys k _ HR2.out hkk).mono ?_
            rintro e w' ⟨rfl, hw⟩
            rw [hw, HYD.out.2]
            clear hw w'
            go_wp2_with (at_builtin; refine wpList_append_own _ rfl _ _ 28 rfl w.heap.size 3 i0 (.int .i64 0) 1 8 Tryz.underlying28 HI.out HZ0.out HZ1.out HZ2.out rfl (by decide) _ _ _ rfl (Ow.one wr w.heap.size hB dd) ⟨g, 0, none⟩ out.length cap (out.map (fun x => Value.int .i64 (x : Nat))) rfl (by simp) (fun j u hu => (((Below.refl wr.heap.size wr).alloc (Nat.le_refl _) _).cell (p := (⟨g, 0, none⟩ : Addr).add j) (by rw [addr_add]; exact hgl)).trans (HP.out.own.at j u hu)) (fun u hu => by obtain ⟨x, _, rfl⟩ := List.mem_map.1 hu; rfl) (by unfold maxLen; omega) (by omega) (by simp; omega) ?_)
            intro v' w2 hown' hgrow _
            have HP2 : Hid (PlW xs ys f w w2 (k + 1) v' (dd :: out) (-1)) := Lib.hid ⟨HN.out, by
              unfold Ow
              rw [List.length_cons, Nat.add_comm out.length 1]
              exact hown', (HP.out.below.alloc hB _).grown hgrow (by simp; omega) (fun k hk => by simp [Value.ownBlock] at hk; omega)⟩
            clear HN hown' hgrow
            go_wp2
            go_roundg (gk - 1)
            case measure => omega
            case rel => exact ⟨k + 1, dd :: out, (-1), by omega, by go_num, rfl, HP2⟩
          · obtain rfl : E = (dd : Int) := q3.symm
            clear q3
            go_wp2_with fail
            refine (digit_any _ xs k _ HR1.out hkk).mono ?_
            rintro e w' ⟨rfl, hw⟩
            rw [hw, HXD.out.2]
            clear hw
            go_wp2_with fail
            refine (digit_any _ ys k _ HR2.out hkk).mono ?_
            rintro e w' ⟨rfl, hw⟩
            rw [hw, HYD.out.2]
            clear hw w'
            go_wp2_with (at_builtin; refine wpList_append_own _ rfl _ _ 28 rfl w.heap.size 3 i0 (.int .i64 0) 1 8 Tryz.underlying28 HI.out HZ0.out HZ1.out HZ2.out rfl (by decide) _ _ _ rfl (Ow.one wr w.heap.size hB dd) ⟨g, 0, none⟩ out.length cap (out.map (fun x => Value.int .i64 (x : Nat))) rfl (by simp) (fun j u hu => (((Below.refl wr.heap.size wr).alloc (Nat.le_refl _) _).cell (p := (⟨g, 0, none⟩ : Addr).add j) (by rw [addr_add]; exact hgl)).trans (HP.out.own.at j u hu)) (fun u hu => by obtain ⟨x, _, rfl⟩ := List.mem_map.1 hu; rfl) (by unfold maxLen; omega) (by omega) (by simp; omega) ?_)
            intro v' w2 hown' hgrow _
            have HP2 : Hid (PlW xs ys f w w2 (k + 1) v' (dd :: out) 0) := Lib.hid ⟨HN.out, by
              unfold Ow
              rw [List.length_cons, Nat.add_comm out.length 1]
              exact hown', (HP.out.below.alloc hB _).grown hgrow (by simp; omega) (fun k hk => by simp [Value.ownBlock] at hk; omega)⟩
            clear HN hown' hgrow
            go_wp2
            go_roundg (gk - 1)
            case measure => omega
            case rel => exact ⟨k + 1, dd :: out, 0, by omega, by go_num, rfl, HP2⟩
          · have q5 : E - 10 = (dd : Int) := q3.symm
            clear q3
            go_wp2_with fail
            refine (digit_any _ xs k _ HR1.out hkk).mono ?_
            rintro e w' ⟨rfl, hw⟩
            rw [hw, HXD.out.2]
            clear hw
            go_wp2_with fail
            refine (digit_any _ ys k _ HR2.out hkk).mono ?_
            rintro e w' ⟨rfl, hw⟩
            rw [hw, HYD.out.2]
            clear hw w'
            go_wp2_with (at_builtin; refine wpList_append_own _ rfl _ _ 28 rfl w.heap.size 3 i0 (.int .i64 0) 1 8 Tryz.underlying28 HI.out HZ0.out HZ1.out HZ2.out rfl (by decide) _ _ _ rfl (Ow.one wr w.heap.size hB dd) ⟨g, 0, none⟩ out.length cap (out.map (fun x => Value.int .i64 (x : Nat))) rfl (by simp) (fun j u hu => (((Below.refl wr.heap.size wr).alloc (Nat.le_refl _) _).cell (p := (⟨g, 0, none⟩ : Addr).add j) (by rw [addr_add]; exact hgl)).trans (HP.out.own.at j u hu)) (fun u hu => by obtain ⟨x, _, rfl⟩ := List.mem_map.1 hu; rfl) (by unfold maxLen; omega) (by omega) (by simp; omega) ?_)
            intro v' w2 hown' hgrow _
            have HP2 : Hid (PlW xs ys f w w2 (k + 1) v' (dd :: out) 1) := Lib.hid ⟨HN.out, by
              unfold Ow
              rw [List.length_cons, Nat.add_comm out.length 1]
              exact hown', (HP.out.below.alloc hB _).grown hgrow (by simp; omega) (fun k hk => by simp [Value.ownBlock] at hk; omega)⟩
            clear HN hown' hgrow
            go_wp2
            go_roundg (gk - 1)
            case measure => omega
            case rel => exact ⟨k + 1, dd :: out, 1, by omega, by go_num, rfl, HP2⟩
    · have g1 : ¬ (k : Int) < la := by omega
      have g2 : ¬ (k : Int) < lb := by omega
      have g3 : carry = 0 := by omega
      subst g3
      have hd := HP.out.pl.done (by rw [HLA.out.2]; omega) (by rw [HLB.out.2]; omega)
      have HD : Hid (True ∧ dval out = z) := Lib.hid ⟨trivial, by have := HZ.out.2; omega⟩
      have HO : Hid (Rd .i64 wr u7 out) := Lib.hid (HP.out.own.rd (by have h1 := HP.out.pl.len; have h2 := HP.out.pl.last HF.out HX.out HY.out HLE.out M (by rw [HLA.out.2]; exact hM1) (by rw [HLB.out.2]; exact hM2); omega))
      obtain ⟨a3, c3, hv3, _⟩ := id HO.out
      subst hv3
      clear hgo hd
      go_wp2
      go_ret
      exact ⟨_, out, rfl, HO.out, HP.out.pl.lt, HD.out.2, HP.out.below⟩

end Go.Proofs.YtdkpcjfadabkbaaGreatDoor
