/- What deepest does. -/
import Derived.Test.YtpeihgbkolihgaaDoorU5
import Derived.Deep.Cut
import Derived.Deep.DeepCutAuto
import Derived.Deep.QuietTactic
import Derived.BigQuiet
set_option linter.unusedVariables false
set_option linter.unusedSimpArgs false
namespace Go.Proofs.YtpeihgbkolihgaaDoor
open Go.RowKit

theorem reach_ok (B n cap : Nat) (ad : Option Addr) (w : World) (hB : B = w.heap.size) (root : Int) (L : List LeafM) (hL : LsAt w (.slice ad n cap) L) (hS : SmT L) (hn : L.length = n) : ∀ k, RcOk B n cap ad w root L k
  | 0 => fun t depth W s _ _ _ _ h => absurd h (Nat.not_lt_zero _)
  | k + 1 => fun t depth W s h0 h1 hlen hcu hun hm => by
    have ih := reach_ok B n cap ad w hB root L hL hS hn k
    by_cases ht : 0 ≤ t ∧ t < (n : Int)
    · obtain ⟨i, rfl⟩ := Int.eq_ofNat_of_zero_le ht.1
      have hi : i < n := by omega
      have hmk : ∃ b, s.marks[i]? = some b := ⟨_, List.getElem?_eq_getElem (by omega)⟩
      obtain ⟨b, hb⟩ := hmk
      have hbad : Sx.bad L (i : Int) s = b := by
        unfold Sx.bad Sx.isLeaf
        rw [Int.toNat_natCast, hb, hn]
        simp [hi]
      cases b with
      | true =>
        rw [Sx.reachF_bad hbad]
        exact reach_met B n cap ad w root i depth W s hi hb hm
      | false => exact reach_new B n cap ad w hB root L hL hS hn k ih i depth W s h0 h1 hlen hcu hun hi hbad hm
    · have hbad : Sx.bad L t s = true := by
        unfold Sx.bad Sx.isLeaf
        rw [hn]
        have : (decide (0 ≤ t) && decide (t < (n : Int))) = false := by
          rw [Bool.and_eq_false_iff]
          by_cases h : 0 ≤ t
          · exact .inr (decide_eq_false (fun h2 => ht ⟨h, h2⟩))
          · exact .inl (decide_eq_false h)
        rw [this]; rfl
      rw [Sx.reachF_bad hbad]
      exact reach_out B n cap ad w root t depth W s ht hm

theorem below_drewN {B : Nat} {w W : World} (n : Nat) (h : Below B w W) : Below B w (W.drewN n) := ⟨h.os, h.tape, h.output, h.size, h.block⟩
theorem infoBool : (Tryd.prog.info? 4).map (fun i => (i.zero, i.size, i.bytes)) = some (some (.bool false), 1, 1) := by kernel_rfl
theorem info_parts {o : Option TypeInfo} {z : Value} {s b : Nat} (h : o.map (fun i => (i.zero, i.size, i.bytes)) = some (some z, s, b)) : ∃ i, o = some i ∧ i.zero = some z ∧ i.size = s ∧ i.bytes = b := by
  cases o with
  | none => cases h
  | some i =>
    simp only [Option.map_some, Option.some.injEq, Prod.mk.injEq] at h
    exact ⟨i, rfl, h.1, h.2.1, h.2.2⟩
theorem wpList_make_at {P : Program} (w : World) {ops : Array Oper} {rest : List Oper} {o : Oper} {a : Act} {Q : Exit → Act → World → Prop}
    (hg : o.guard = none) (l c : Operand) (t : TypeId) (hop : o.op = Op.makeSlice t l c) (e : TypeId) (i : TypeInfo) (z : Value) (h1 : P.underlying t = some (.slice e)) (h2 : P.info? e = some i) (h3 : i.zero = some z)
    (n : Nat) (hl : a.eval l = .int .i64 (n : Int)) (hc : a.eval c = .int .i64 (n : Int)) (b2 : (i.bytes : Int) * (n : Int) ≤ 281474976710656) (b3 : (n : Int) ≤ 9223372036854775807)
    (hK : wpList P ops Q rest (a.put o.dst (.slice (some ⟨w.heap.size, 0, none⟩) n n)) (w.alloc (.cells (madeCells z.cells (n * i.size)) e))) :
    wpList P ops Q (o :: rest) a w := by
  refine wpList_plain hg fun K hK' => ?_
  have hrun := run_make (P := P) w t e i z h1 h2 h3 .i64 .i64 (n : Int) (n : Int) (by omega) (Int.le_refl _) b2 b3
  rw [Int.toNat_natCast] at hrun
  unfold Oper.wp
  simp [execOp, hop, hl, hc, hrun, Result.andThen]
  exact hK' _ _ hK
theorem made_bools (n : Nat) : madeCells (Value.bool false).cells (n * 1) = bools (List.replicate n false) := by
  unfold madeCells bools
  apply Array.ext
  · simp
  · intro i h1 h2
    simp [Value.cells, Nat.mod_one]

set_option maxRecDepth 100000 in
set_option maxHeartbeats 3200000 in
theorem deepest_any (v : Value) (L : List LeafM) (root : Int) (w : World) (hv : LsAt w v L) (hS : SmT L) :
    Calls Tryd.prog 41 #[.agg #[v, .int .i64 root]] w fun e w' => e = .returned (.tuple #[.int .i64 (Sx.deepest L root).1, .bool (Sx.deepest L root).2]) ∧ Below w.heap.size w w' := by
  obtain ⟨ad, cap, rfl⟩ := hv.slice
  obtain ⟨n, hn⟩ : ∃ n, L.length = n := ⟨_, rfl⟩
  rw [hn] at hv ⊢
  have hnb : n ≤ 100000 := by have := hS.1; omega
  obtain ⟨i0, hi, hz0, hz1, hz2⟩ := info_parts infoBool
  have HI := Lib.hid hi
  have HZ0 := Lib.hid hz0
  have HZ1 := Lib.hid hz1
  have HZ2 := Lib.hid hz2
  have HV := Lib.hid hv
  have HS := Lib.hid hS
  have HN := Lib.hid hn
  clear hi hz0 hz1 hz2 hv hS hn
  obtain ⟨W1, hW1⟩ : ∃ W1, W1 = w.alloc (.cells #[.slice ad n cap, .int .i64 root] 24) := ⟨_, rfl⟩
  obtain ⟨W2, hW2⟩ : ∃ W2, W2 = W1.alloc (.cells (bools (List.replicate n false)) 4) := ⟨_, rfl⟩
  obtain ⟨W3, hW3⟩ : ∃ W3, W3 = W2.alloc (.cells #[.slice (some ⟨w.heap.size + 1, 0, none⟩) n n] 93) := ⟨_, rfl⟩
  obtain ⟨W4, hW4⟩ : ∃ W4, W4 = W3.alloc (.cells #[.int .i64 0] 3) := ⟨_, rfl⟩
  obtain ⟨W5, hW5⟩ : ∃ W5, W5 = W4.alloc (.cells #[.int .i64 0] 3) := ⟨_, rfl⟩
  obtain ⟨W6, hW6⟩ : ∃ W6, W6 = W5.alloc (.cells #[.nilFunc] 94) := ⟨_, rfl⟩
  have s1 : W1.heap.size = w.heap.size + 1 := by rw [hW1]; simp
  have s2 : W2.heap.size = w.heap.size + 1 + 1 := by rw [hW2]; simp [s1]
  have s3 : W3.heap.size = w.heap.size + 1 + 1 + 1 := by rw [hW3]; simp [s2]
  have s4 : W4.heap.size = w.heap.size + 1 + 1 + 1 + 1 := by rw [hW4]; simp [s3]
  have s5 : W5.heap.size = w.heap.size + 1 + 1 + 1 + 1 + 1 := by rw [hW5]; simp [s4]
  have b1 : W1.heap[w.heap.size]? = some (.cells #[.slice ad n cap, .int .i64 root] 24) := by rw [hW1]; exact World.alloc_heap_new w _
  have b2 : W2.heap[w.heap.size + 1]? = some (.cells (bools (List.replicate n false)) 4) := by rw [hW2, ← s1]; exact World.alloc_heap_new W1 _
  have b3 : W3.heap[w.heap.size + 1 + 1]? = some (.cells #[.slice (some ⟨w.heap.size + 1, 0, none⟩) n n] 93) := by rw [hW3, ← s2]; exact World.alloc_heap_new W2 _
  have b4 : W4.heap[w.heap.size + 1 + 1 + 1]? = some (.cells #[.int .i64 0] 3) := by rw [hW4, ← s3]; exact World.alloc_heap_new W3 _
  have b5 : W5.heap[w.heap.size + 1 + 1 + 1 + 1]? = some (.cells #[.int .i64 0] 3) := by rw [hW5, ← s4]; exact World.alloc_heap_new W4 _
  have b6 : Boxed W6 (w.heap.size + 1 + 1 + 1 + 1 + 1) 94 .nilFunc := by rw [hW6, ← s5]; exact Boxed.new W5 _ _
  have k6 : ∀ {b x}, W5.heap[b]? = some x → W6.heap[b]? = some x := fun h => by rw [hW6]; exact (Below.heap_alloc _ _ _ (lt_of h)).trans h
  have k5 : ∀ {b x}, W4.heap[b]? = some x → W6.heap[b]? = some x := fun h => k6 (by rw [hW5]; exact (Below.heap_alloc _ _ _ (lt_of h)).trans h)
  have k4 : ∀ {b x}, W3.heap[b]? = some x → W6.heap[b]? = some x := fun h => k5 (by rw [hW4]; exact (Below.heap_alloc _ _ _ (lt_of h)).trans h)
  have k3 : ∀ {b x}, W2.heap[b]? = some x → W6.heap[b]? = some x := fun h => k4 (by rw [hW3]; exact (Below.heap_alloc _ _ _ (lt_of h)).trans h)
  have k2 : ∀ {b x}, W1.heap[b]? = some x → W6.heap[b]? = some x := fun h => k3 (by rw [hW2]; exact (Below.heap_alloc _ _ _ (lt_of h)).trans h)
  have hb6 : Below w.heap.size w W6 := by
    rw [hW6, hW5, hW4, hW3, hW2, hW1]
    exact ((((((Below.refl w.heap.size w).alloc (Nat.le_refl _) _).alloc (by simp) _).alloc (by simp; omega) _).alloc (by simp; omega) _).alloc (by simp; omega) _).alloc (by simp; omega) _
  have c8 := b6.cell
  have f8 := b6.frozen
  have far : ∀ k, k ≠ w.heap.size + 1 + 1 + 1 + 1 + 1 → (W6.setCell ⟨w.heap.size + 1 + 1 + 1 + 1 + 1, 0, none⟩ (.func (.func 55) #[] #[.pointer (some ⟨w.heap.size, 0, none⟩), .pointer (some ⟨w.heap.size + 1 + 1, 0, none⟩), .pointer (some ⟨w.heap.size + 1 + 1 + 1, 0, none⟩), .pointer (some ⟨w.heap.size + 1 + 1 + 1 + 1, 0, none⟩), .pointer (some ⟨w.heap.size + 1 + 1 + 1 + 1 + 1, 0, none⟩)])).heap[k]? = W6.heap[k]? := fun k hk => Below.heap_setCell _ _ _ k hk
  have hm0 : DpM w.heap.size w (.slice ad n cap) root n (W6.setCell ⟨w.heap.size + 1 + 1 + 1 + 1 + 1, 0, none⟩ (.func (.func 55) #[] #[.pointer (some ⟨w.heap.size, 0, none⟩), .pointer (some ⟨w.heap.size + 1 + 1, 0, none⟩), .pointer (some ⟨w.heap.size + 1 + 1 + 1, 0, none⟩), .pointer (some ⟨w.heap.size + 1 + 1 + 1 + 1, 0, none⟩), .pointer (some ⟨w.heap.size + 1 + 1 + 1 + 1 + 1, 0, none⟩)])) (Sx.start n) :=
    ⟨hb6.setCell (p := ⟨w.heap.size + 1 + 1 + 1 + 1 + 1, 0, none⟩) (by dsimp only; omega) _, (far _ (by omega)).trans (k2 b1), (far _ (by omega)).trans (k3 b2), (far _ (by omega)).trans (k4 b3), (far _ (by omega)).trans (k5 b4), (far _ (by omega)).trans (k6 b5), b6.set _⟩
  have hrun : Sem.run Tryd.prog (store ⟨w.heap.size + 1 + 1 + 1 + 1 + 1, 0, none⟩ (.func (.func 55) #[] #[.pointer (some ⟨w.heap.size, 0, none⟩), .pointer (some ⟨w.heap.size + 1 + 1, 0, none⟩), .pointer (some ⟨w.heap.size + 1 + 1 + 1, 0, none⟩), .pointer (some ⟨w.heap.size + 1 + 1 + 1 + 1, 0, none⟩), .pointer (some ⟨w.heap.size + 1 + 1 + 1 + 1 + 1, 0, none⟩)])) W6 = .ok () (W6.setCell ⟨w.heap.size + 1 + 1 + 1 + 1 + 1, 0, none⟩ (.func (.func 55) #[] #[.pointer (some ⟨w.heap.size, 0, none⟩), .pointer (some ⟨w.heap.size + 1 + 1, 0, none⟩), .pointer (some ⟨w.heap.size + 1 + 1 + 1, 0, none⟩), .pointer (some ⟨w.heap.size + 1 + 1 + 1 + 1, 0, none⟩), .pointer (some ⟨w.heap.size + 1 + 1 + 1 + 1 + 1, 0, none⟩)])) := by
    rw [run_store _ _ _ _ _ rfl, c8, f8]
    rfl
  have c10 := (b6.set (.func (.func 55) #[] #[.pointer (some ⟨w.heap.size, 0, none⟩), .pointer (some ⟨w.heap.size + 1 + 1, 0, none⟩), .pointer (some ⟨w.heap.size + 1 + 1 + 1, 0, none⟩), .pointer (some ⟨w.heap.size + 1 + 1 + 1 + 1, 0, none⟩), .pointer (some ⟨w.heap.size + 1 + 1 + 1 + 1 + 1, 0, none⟩)])).cell
  have c11 : (W6.setCell ⟨w.heap.size + 1 + 1 + 1 + 1 + 1, 0, none⟩ (.func (.func 55) #[] #[.pointer (some ⟨w.heap.size, 0, none⟩), .pointer (some ⟨w.heap.size + 1 + 1, 0, none⟩), .pointer (some ⟨w.heap.size + 1 + 1 + 1, 0, none⟩), .pointer (some ⟨w.heap.size + 1 + 1 + 1 + 1, 0, none⟩), .pointer (some ⟨w.heap.size + 1 + 1 + 1 + 1 + 1, 0, none⟩)])).cell? ⟨w.heap.size, 1, none⟩ = some (.int .i64 root) := cell_at hm0.tree rfl
  obtain ⟨⟨ok, s'⟩, hr⟩ : ∃ r, Sx.reachF L (n + 1) root 0 (Sx.start n) = r := ⟨_, rfl⟩
  have hcall := reach_ok w.heap.size n cap ad w rfl root L HV.out HS.out HN.out (n + 1) root 0 _ (Sx.start n) (Int.le_refl _) (by rw [Sx.unm_start]; omega) (by rw [HN.out]; simp [Sx.start]) (by rw [Sx.unm_start, HN.out]; simp [Sx.start]) (by rw [Sx.unm_start]; omega) hm0
  rw [hr] at hcall
  have hres : Sx.deepest L root = (s'.top, ok && decide (s'.count = n)) := by
    unfold Sx.deepest
    rw [HN.out, hr]
  rw [hres]
  have HCALL := Lib.hid hcall
  unfold dpArgs at HCALL
  have hch := hW6
  rw [hW5, hW4, hW3, hW2, hW1] at hch
  replace hch := hch.symm
  clear hW1 hW2 hW3 hW4 hW5 hW6 s1 s2 s3 s4 s5 b1 b2 b3 b4 b5 b6 k2 k3 k4 k5 k6 hb6 far hm0 hcall hres hr
  go_enter Tryd.func41, Tryd.ntmps41
  go_wp2_with (refine wpList_make_at _ rfl (.tmp 11) (.tmp 11) 93 rfl 4 i0 (.bool false) Tryd.underlying93 HI.out HZ0.out n rfl rfl (by rw [HZ2.out]; omega) (by omega) ?_; rw [HZ1.out, made_bools])
  refine HCALL.out.mono ?_
  rintro e W7 ⟨rfl, hm7⟩
  have c12 : W7.cell? ⟨w.heap.size + 1 + 1 + 1 + 1, 0, none⟩ = some (.int .i64 s'.top) := cell_at hm7.top rfl
  have c13 : W7.cell? ⟨w.heap.size + 1 + 1 + 1, 0, none⟩ = some (.int .i64 (s'.count : Int)) := cell_at hm7.cnt rfl
  have c14 : W7.cell? ⟨w.heap.size, 0, none⟩ = some (.slice ad n cap) := cell_at hm7.tree rfl
  have HB7 := Lib.hid hm7.below
  clear hm7 c8 f8 c10 c11 hrun hch
  cases ok with
  | false =>
    go_wp2_with fail
    go_quiet (fail)
    go_wp2
    go_ret2
    exact ⟨rfl, below_drewN _ HB7.out⟩
  | true =>
    obtain ⟨q, hq⟩ : ∃ q, decide ((s'.count : Int) = (n : Int)) = q := ⟨_, rfl⟩
    have hq2 : (true && decide (s'.count = n)) = q := by rw [← hq, Bool.true_and]; exact decide_eq_decide.2 (by omega)
    have HQ := Lib.hid hq2
    clear hq2
    go_wp2_with fail
    go_quiet (fail)
    go_wp2
    go_ret2
    exact ⟨by rw [HQ.out, ← hq] <;> rfl, below_drewN _ HB7.out⟩

end Go.Proofs.YtpeihgbkolihgaaDoor
