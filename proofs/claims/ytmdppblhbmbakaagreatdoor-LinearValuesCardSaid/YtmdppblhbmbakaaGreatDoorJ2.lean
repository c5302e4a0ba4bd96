/- What divide and CommonDivisor do with short integers. -/
import Derived.Test.YtmdppblhbmbakaaGreatDoorJ1
set_option linter.unusedVariables false
set_option linter.unusedSimpArgs false
namespace Go.Proofs.YtmdppblhbmbakaaGreatDoor
open Go.RowKit _root_.Go.Proofs.YtmdppblhbmbakaaGreatDoor.Nm

theorem quo_small (a b : Int) (ha : a.natAbs < 1000000000000000000) (hb : b.natAbs < 1000000000000000000) (hb0 : b ≠ 0) : (a.tdiv b).natAbs < 1000000000000000000 ∧ (a.tmod b).natAbs < 1000000000000000000 := by
  have h := tv_tdiv a b hb0
  have h1 := h.size
  have h2 := h.2.1
  omega

theorem IsInt.short {P : Nat → Prop} {w : World} {z : Int} (h : z.natAbs < 1000000000000000000) : IsInt P w (.agg #[.int .i64 z, .pointer none]) z := .inl ⟨h, rfl⟩

set_option maxRecDepth 100000 in
set_option maxHeartbeats 1600000 in
theorem divide_short (P : Nat → Prop) (a b : Int) (ha : a.natAbs < 1000000000000000000) (hb : b.natAbs < 1000000000000000000) (hb0 : b ≠ 0) (w : World) :
    Calls Tryz.prog 201 #[.agg #[.int .i64 a, .pointer none], .agg #[.int .i64 b, .pointer none]] w (DivPost P (a.tdiv b) (a.tmod b) w) := by
  have HS := Lib.hid (quo_small a b ha hb hb0)
  have hq : IntKind.i64.wrap (a.tdiv b) = a.tdiv b := IntWalk.i64_in _ (by have := HS.out; omega)
  have hr : IntKind.i64.wrap (a.tmod b) = a.tmod b := IntWalk.i64_in _ (by have := HS.out; omega)
  have hbz : ((b : Int) == 0) = false := by rw [beq_eq_false_iff_ne]; exact hb0
  clear ha hb
  go_enter Tryz.func201, Tryz.ntmps201
  go_wp2_with fail
  go_region
  go_wp2
  refine bodyPost_ret (v := .tuple #[.agg #[.int .i64 (a.tdiv b), .pointer none], .agg #[.int .i64 (a.tmod b), .pointer none]]) (by simp [results, Tryz.results201, go_sem, drew_cell]) rfl ?_
  exact ⟨_, _, _, _, rfl, .short HS.out.1, .short HS.out.2, (boxes4 _ _ _ _ _).drew⟩

set_option maxRecDepth 100000 in
set_option maxHeartbeats 1600000 in
theorem words_any (a b : Nat) (ha : a < 18446744073709551616) (hb : b < 18446744073709551616) (w : World) :
    Calls Tryz.prog 156 #[.int .u64 a, .int .u64 b] w fun e w' => e = .returned (.int .u64 (Nat.gcd a b : Nat)) ∧ ∃ n, w' = w.drewN n := by
  have HA := Lib.hid (And.intro ha hb)
  clear ha hb
  go_enter Tryz.func156, Tryz.ntmps156
  go_wp2
  go_loopw [0, 1] (fun x y wr => ∃ m n k : Nat, x = .int .u64 m ∧ y = .int .u64 n ∧ Hid (Nat.gcd m n = Nat.gcd a b) ∧ wr = w.drewN k ∧ Hid (True ∧ m < 18446744073709551616 ∧ n < 18446744073709551616)) (fun _ y _ => (intOf y).toNat)
  case atStart => exact ⟨a, b, 0, rfl, rfl, Lib.hid rfl, rfl, Lib.hid ⟨trivial, HA.out⟩⟩
  case round =>
    obtain ⟨m, n, k, rfl, rfl, HG, rfl, HB⟩ := hrel
    by_cases hn : 0 < n
    · have hz : ((n : Int) == 0) = false := by rw [beq_eq_false_iff_ne]; omega
      have hn' : (0 : Int) < n := by omega
      have hr : IntKind.u64.wrap ((m : Int).tmod n) = ((m % n : Nat) : Int) := by
        rw [Int.tmod_eq_emod_of_nonneg (by omega), ← Int.natCast_emod]
        exact IntWalk.u64_in _ (by have := HB.out.2.1; have := Nat.mod_le m n; omega)
      have HG' : Hid (Nat.gcd n (m % n) = Nat.gcd a b) := Lib.hid (by rw [← HG.out, Nat.gcd_comm m n, Nat.gcd_rec n m, Nat.gcd_comm])
      have HB' := Lib.hid (show True ∧ n < 18446744073709551616 ∧ m % n < 18446744073709551616 from ⟨trivial, HB.out.2.2, by have := HB.out.2.1; have := Nat.mod_le m n; omega⟩)
      have hlt := Nat.mod_lt m hn
      go_wp2_with fail
      go_region
      go_wp2
      go_roundw
      case rel => exact ⟨n, m % n, k + 1, rfl, rfl, HG', rfl, HB'⟩
      case measure => simp [intOf]; omega
    · have h0 : n = 0 := by omega
      subst h0
      have HG2 : Hid (m = Nat.gcd a b) := Lib.hid (by rw [← HG.out, Nat.gcd_zero_right])
      go_wp2
      go_ret
      exact ⟨by rw [← HG2.out]; rfl, k, rfl⟩

theorem St.of_eq {w W W' : World} {x0 x1 y0 y1 z0 z1 : Value} (h : St w W x0 x1 y0 y1 z0 z1) (e : W' = W) : St w W' x0 x1 y0 y1 z0 z1 := by rw [e]; exact h

theorem words_gcd (a b : Int) (m n : Nat) (h1 : Hid (a.natAbs = m ∧ m < 1000000000000000000)) (h2 : Hid (b.natAbs = n ∧ n < 1000000000000000000)) : Nat.gcd m n = Int.gcd a b ∧ Nat.gcd m n < 1000000000000000000 := by
  obtain ⟨rfl, h1⟩ := h1.out
  obtain ⟨rfl, h2⟩ := h2.out
  refine ⟨rfl, ?_⟩
  rcases Nat.eq_zero_or_pos a.natAbs with h | h
  · rw [h, Nat.gcd_zero_left]; exact h2
  · exact Nat.lt_of_le_of_lt (Nat.gcd_le_left _ h) h1

set_option maxRecDepth 100000 in
set_option maxHeartbeats 1600000 in
theorem CommonDivisor_short (P : Nat → Prop) (a b : Int) (ha : a.natAbs < 1000000000000000000) (hb : b.natAbs < 1000000000000000000) (w : World) :
    Calls Tryz.prog 125 #[.agg #[.int .i64 a, .pointer none], .agg #[.int .i64 b, .pointer none]] w (IntPost P (Int.gcd a b) w) := by
  obtain ⟨m, hm⟩ : ∃ n, a.natAbs = n := ⟨_, rfl⟩
  obtain ⟨n, hn⟩ : ∃ n, b.natAbs = n := ⟨_, rfl⟩
  have HS1 := Lib.hid (show a.natAbs = m ∧ m < 1000000000000000000 from ⟨hm, by omega⟩)
  have HS2 := Lib.hid (show b.natAbs = n ∧ n < 1000000000000000000 from ⟨hn, by omega⟩)
  have hg := words_gcd a b m n HS1 HS2
  obtain ⟨g, hgg⟩ : ∃ g, Nat.gcd m n = g := ⟨_, rfl⟩
  have HG := Lib.hid (And.intro hgg (And.intro hg.1 hg.2))
  have hwr : IntKind.i64.wrap (g : Int) = g := IntWalk.i64_in _ (by omega)
  clear ha hb hm hn hg hgg
  have hS0 := St.start w (.int .i64 a) (.pointer none) (.int .i64 b) (.pointer none) (.int .i64 0) (.pointer none) 107 107 107
  obtain ⟨f0, f1, f2, f3, f4, f5, f6, f7⟩ := hS0.drew.cells
  go_enter Tryz.func125, Tryz.ntmps125
  go_wp2_with fail
  go_region_held3 (fun w' => w'.cell? ⟨w.heap.size, 0, none⟩ = some (.int .i64 a) ∧ w'.cell? ⟨w.heap.size + 1, 0, none⟩ = some (.int .i64 b)) (first | ((try dsimp only); (repeat' apply And.intro); all_goals (first | (rw [cell_set2 _ _ _ _ _ _ (by omega)]; with_reducible assumption) | with_reducible assumption)) | go_keep) (first | (go_at_call 129; refine (mag_q _ _ _ (by first | exact HS1 | exact HS2)).mono ?_; rintro e w' ⟨rfl, rfl⟩) | (go_at_call 156; refine (words_any m n (abs_u64 HS1) (abs_u64 HS2) _).mono ?_; rintro e w5 ⟨rfl, k, hw5⟩; rw [HG.out.1]; have hS2 := St.of_eq (hS0.drew.drewN k) hw5; clear hw5; obtain ⟨l0, l1, l2, l3, l4, l5, l6, l7⟩ := hS2.cells; clear f0 f1 f2 f3 f4 f5 f6 f7))
  go_wp2
  refine bodyPost_ret (v := .agg #[.int .i64 (g : Int), .pointer none]) (by simp [results, Tryz.results125, go_sem, l4, l5]) rfl ?_
  have ho := hS2.1.trans ((((Only.refl (w.heap.size + 1 + 1) _).set 0 (.int .i64 (g : Int))).set 1 (.pointer none)).below (by omega))
  rw [← HG.out.2.1, HG.out.1]
  exact ⟨_, rfl, .short (by have := HG.out; omega), ho⟩

end Go.Proofs.YtmdppblhbmbakaaGreatDoor
