/- What magnitude, naturalOf and signed do. -/
import Derived.Test.YtpnofebhpeiepaaGreatDoorI1
set_option linter.unusedVariables false
set_option linter.unusedSimpArgs false
namespace Go.Proofs.YtpnofebhpeiepaaGreatDoor
open Go.RowKit

theorem magnitude_any (n : Int) (hn : -9223372036854775808 ≤ n) (hn2 : n ≤ 9223372036854775807) (w : World) :
    Calls Tryz.prog 94 #[.int .i64 n] w fun e w' => e = .returned (.int .u64 (n.natAbs : Int)) ∧ w = w' := by
  by_cases h : n < 0
  · have H : Hid (IntKind.u64.wrap (-IntKind.u64.wrap n) = (n.natAbs : Int)) := Lib.hid (by simp [IntKind.wrap, IntKind.bits, IntKind.signed]; omega)
    go_enter Tryz.func94, Tryz.ntmps94
    go_wp2
    go_ret
    exact ⟨by rw [← H.out]; rfl, rfl⟩
  · have H : Hid (n = (n.natAbs : Int)) := Lib.hid (by omega)
    go_enter Tryz.func94, Tryz.ntmps94
    go_wp2
    go_ret
    exact ⟨by rw [← H.out]; rfl, rfl⟩

theorem own_three (k : IntKind) (t : TypeId) (w : World) (a b c : Nat) : Own k t (w.alloc (.cells #[.int k (a : Nat), .int k (b : Nat), .int k (c : Nat)] t)) w.heap.size [a, b, c] := by
  unfold Own
  rw [heap_alloc_new]
  rfl

theorem three_limbs (u : Nat) (hu : u < 18446744073709551616) : Nm.vl 1000000000 [u % 1000000000, u / 1000000000 % 1000000000, u / 1000000000 / 1000000000] = u ∧ ∀ x ∈ [u % 1000000000, u / 1000000000 % 1000000000, u / 1000000000 / 1000000000], x < 1000000000 := by
  refine ⟨by simp [Nm.vl]; omega, ?_⟩
  intro x hx
  simp at hx
  omega

theorem naturalOf_any (u : Nat) (hu : u < 18446744073709551616) (w : World) :
    Calls Tryz.prog 103 #[.int .u64 u] w (NatPost u w) := by
  have HL := Lib.hid (three_limbs u hu)
  go_enter Tryz.func103, Tryz.ntmps103
  go_wp2_with fail
  have HO := Lib.hid (own_three .u32 129 w (u % 1000000000) (u / 1000000000 % 1000000000) (u / 1000000000 / 1000000000))
  have HB := Lib.hid ((Below.refl w.heap.size w).alloc (Nat.le_refl _) (.cells #[.int .u32 ((u % 1000000000 : Nat) : Int), .int .u32 ((u / 1000000000 % 1000000000 : Nat) : Int), .int .u32 ((u / 1000000000 / 1000000000 : Nat) : Int)] 129))
  refine (trim_any _ [u % 1000000000, u / 1000000000 % 1000000000, u / 1000000000 / 1000000000] HL.out.2 _ (by exact HO.out.rd 3 3 (by simp) (by omega) (by omega))).mono ?_
  rintro e w1 ⟨⟨v', rfl, hv, hsm⟩, rfl⟩
  rw [HL.out.1] at hv
  have HV := Lib.hid hv
  have HFR := Lib.hid (Fr.of_same hsm (Nat.le_refl _))
  clear hv hsm
  go_wp2
  go_ret
  exact ⟨_, rfl, HV.out, HFR.out, HB.out⟩

/-- The integer with a sign and a size. -/
def sz (neg : Bool) (n : Nat) : Int := if neg then -(n : Int) else n

theorem sz_abs (neg : Bool) (n : Nat) : (sz neg n).natAbs = n := by unfold sz; split <;> omega
theorem sz_neg (neg : Bool) (n : Nat) (h : 0 < n) : isNeg (sz neg n) = neg := by
  unfold sz isNeg
  cases neg <;> simp <;> omega

theorem cells_two {w w' : World} {x y : Value} {T : TypeId} {B : Nat} (h : Below B (w.alloc (.cells #[x, y] T)) w') (hB : w.heap.size < B) : w'.heap[w.heap.size]? = some (.cells #[x, y] T (0, 0)) := by
  rw [h.block _ hB, heap_alloc_new]

theorem second_new (w : World) (x y : Obj) : ((w.alloc x).alloc y).heap[w.heap.size + 1]? = some y := by
  have := heap_alloc_new (w.alloc x) y
  rwa [World.size_alloc] at this

set_option maxRecDepth 100000 in
set_option maxHeartbeats 800000 in
theorem signed_any (P : Nat → Prop) (neg : Bool) (v : Value) (n : Nat) (w : World) (hP : ∀ k, w.heap.size ≤ k → P k) (h : IsNat w v n) (hi : In P v) :
    Calls Tryz.prog 86 #[.bool neg, v] w (IntPost P (sz neg n) w) := by
  obtain ⟨a, c, rfl, _⟩ := id h
  obtain ⟨m, hm⟩ : ∃ m, m = (Nm.ds 1000000000 n).length := ⟨_, rfl⟩
  rw [← hm] at h hi ⊢
  have ht := limbs_two n
  rw [← hm] at ht
  have HN := Lib.hid h
  have HI := Lib.hid hi
  have HM := Lib.hid hm
  clear h hi hm
  by_cases hl : 1000000000000000000 ≤ n
  · have hd : decide ((2 : Int) < m) = true := by rw [decide_eq_true hl, decide_eq_true_eq] at ht; simp; omega
    clear ht
    go_enter Tryz.func86, Tryz.ntmps86
    go_wp2
    refine bodyPost_ret (v := .agg #[.int .i64 0, .pointer (some ⟨w.heap.size + 1, 0, none⟩)]) (by simp [results, Tryz.results86, go_sem]) rfl ?_
    have hb : Below w.heap.size w ((w.alloc (.cells #[.int .i64 0, .pointer (some ⟨w.heap.size + 1, 0, none⟩)] 61)).alloc (.cells #[.bool neg, .slice a m c] 103)) := ((Below.refl _ _).alloc (Nat.le_refl _) _).alloc (by simp) _
    refine ⟨_, rfl, .inr ⟨by rw [sz_abs]; exact hl, w.heap.size + 1, _, rfl, by simp, hP _ (by omega), HI.out, ?_, ?_⟩, hb⟩
    · rw [sz_neg neg n (by omega)]; exact second_new _ _ _
    · rw [sz_abs]; exact HN.out.keep hb (Nat.le_refl _)
  · have ht2 : m ≤ 2 := by rw [decide_eq_false hl, decide_eq_false_iff_not] at ht; omega
    have hd : decide ((2 : Int) < m) = false := by simp; omega
    clear ht
    cases neg
    · go_enter Tryz.func86, Tryz.ntmps86
      go_wp2_with fail
      refine (word_any _ n _ (by exact HN.out.keep ((Below.refl _ _).alloc (Nat.le_refl _) _) (Nat.le_refl _)) (by rw [← HM.out]; exact ht2)).mono ?_
      rintro e w1 ⟨rfl, rfl⟩
      go_wp2
      refine bodyPost_ret (v := .agg #[.int .i64 n, .pointer none]) (by simp [results, Tryz.results86, go_sem]) rfl ?_
      exact ⟨_, rfl, .inl ⟨by rw [sz_abs]; omega, rfl⟩, (Below.refl _ _).alloc (Nat.le_refl _) _⟩
    · go_enter Tryz.func86, Tryz.ntmps86
      go_wp2_with fail
      refine (word_any _ n _ (by exact HN.out.keep ((Below.refl _ _).alloc (Nat.le_refl _) _) (Nat.le_refl _)) (by rw [← HM.out]; exact ht2)).mono ?_
      rintro e w1 ⟨rfl, rfl⟩
      go_wp2
      refine bodyPost_ret (v := .agg #[.int .i64 (-(n : Int)), .pointer none]) (by simp [results, Tryz.results86, go_sem]) rfl ?_
      exact ⟨_, rfl, .inl ⟨by rw [sz_abs]; omega, rfl⟩, (Below.refl _ _).alloc (Nat.le_refl _) _⟩

end Go.Proofs.YtpnofebhpeiepaaGreatDoor
