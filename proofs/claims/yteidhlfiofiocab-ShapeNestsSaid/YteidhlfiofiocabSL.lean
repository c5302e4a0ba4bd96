/- awake: the examples of the chapter. -/
import Derived.Test.YteidhlfiofiocabSK
import Derived.Test.YteidhlfiofiocabZO
set_option linter.unusedVariables false
set_option linter.unusedSimpArgs false
namespace Go.Proofs.Yteidhlfiofiocab
open Go.RowKit Go.Shelf

def exS : List DataM := [⟨⟨#[66, 111, 111, 108]⟩, [⟨⟨#[70, 97, 108, 115, 101]⟩, []⟩, ⟨⟨#[84, 114, 117, 101]⟩, []⟩]⟩, ⟨⟨#[76, 105, 115, 116]⟩, [⟨⟨#[78, 105, 108]⟩, []⟩, ⟨⟨#[67, 111, 110, 115]⟩, [0, 2]⟩]⟩, ⟨⟨#[84, 114, 101, 101]⟩, [⟨⟨#[76, 101, 97, 102]⟩, []⟩, ⟨⟨#[78, 111, 100, 101]⟩, [3, 2, 3]⟩]⟩]

theorem exS_sm : Sm exS := by
  unfold Sm SmD SmC In64 exS
  simp
  decide
theorem exS_many : Dt.many exS = false := by decide +kernel
theorem exS_typed : Dt.typed exS = true := by decide +kernel
theorem exS_form : Dt.form exS = true := by
  unfold Dt.form exS Dt.isBool Dt.pairB
  simp only [Dt.seq_data]
  decide +kernel
theorem exS_twice : Dt.twice exS = false := by
  unfold Dt.twice exS
  simp only [Dt.twF, Dt.conStep, Dt.inS, Dt.seq_data]
  decide +kernel
theorem exS_fin : AllFin exS := by
  have h1 : HasFin exS 1 := HasFin.data 0 (by decide) ⟨⟨#[70, 97, 108, 115, 101]⟩, []⟩ (by simp [exS]) (by simp)
  have h2 : HasFin exS 2 := HasFin.data 1 (by decide) ⟨⟨#[78, 105, 108]⟩, []⟩ (by simp [exS]) (by simp)
  have h3 : HasFin exS 3 := HasFin.data 2 (by decide) ⟨⟨#[76, 101, 97, 102]⟩, []⟩ (by simp [exS]) (by simp)
  intro i hi
  match i, hi with
  | 0, _ => exact h1
  | 1, _ => exact h2
  | 2, _ => exact h3
  | i + 3, h => exact absurd h (by simp [exS])
theorem exS_check : Dt.check exS = 0 := by
  unfold Dt.check
  rw [exS_many, exS_form, exS_twice, exS_typed, (Dt.finB_iff exS).2 exS_fin]
  rfl
theorem exS_err1 (t : Int) (h : Dt.ok exS t = true) : Dt.shErr exS [t] = 0 := by
  unfold Dt.shErr
  rw [exS_check]
  simp [h]
theorem exS_err2 (t u : Int) (h : Dt.ok exS t = true) (h2 : Dt.ok exS u = true) : Dt.shErr exS [t, u] = 0 := by
  unfold Dt.shErr
  rw [exS_check]
  simp [h, h2]
theorem exS_p3 : Dt.places exS 3 = [(3, 0), (3, 1), (2, 0), (2, 1)] := by decide +kernel
theorem exS_p2 : Dt.places exS 2 = [(2, 0), (2, 1)] := by decide +kernel
theorem exS_p0 : Dt.places exS 0 = [] := by decide +kernel
theorem exS_txt : Dt.txt exS 3 = ⟨#[76, 101, 97, 102, 32, 78, 111, 100, 101, 32, 78, 105, 108, 32, 67, 111, 110, 115]⟩ := by
  unfold Dt.txt
  rw [exS_err1 3 (by decide), if_pos rfl, exS_p3]
  rfl
theorem exS_i32 : Dt.insE exS 3 2 = 0 := by
  unfold Dt.insE
  rw [exS_err2 3 2 (by decide) (by decide), if_pos rfl]
  unfold Dt.inAll
  rw [exS_p3, exS_p2]
  rfl
theorem exS_l32 : Dt.insL exS 3 2 = [2, 3] := by
  unfold Dt.insL
  rw [exS_i32, if_pos rfl]
  unfold Dt.inList
  rw [exS_p3, exS_p2]
  rfl
theorem exS_i23 : Dt.insE exS 2 3 = 9 := by
  unfold Dt.insE
  rw [exS_err2 2 3 (by decide) (by decide), if_pos rfl]
  unfold Dt.inAll
  rw [exS_p3, exS_p2]
  rfl
theorem exS_l23 : Dt.insL exS 2 3 = [] := by
  unfold Dt.insL
  rw [exS_i23, if_neg (by decide)]
theorem exS_of0 : Dt.ofM exS 0 = [] := by
  unfold Dt.ofM
  rw [exS_err1 0 (by decide), if_pos rfl, exS_p0]

set_option maxRecDepth 100000 in
set_option maxHeartbeats 12800000 in
theorem sawake_any (w : World) : Calls Try.prog 4 #[] w fun e w' => e = .returned (.bool true) ∧ Below w.heap.size w w' := by
  obtain ⟨N, hN⟩ : ∃ N, w.heap.size = N := ⟨_, rfl⟩
  obtain ⟨W1, h1⟩ : ∃ W, W = w.alloc (.cells #[.string ⟨#[70, 97, 108, 115, 101]⟩, .slice none 0 0, .string ⟨#[84, 114, 117, 101]⟩, .slice none 0 0] 35) := ⟨_, rfl⟩
  obtain ⟨W2, h2⟩ : ∃ W, W = W1.alloc (.cells #[.int .i64 0, .int .i64 2] 23) := ⟨_, rfl⟩
  obtain ⟨W3, h3⟩ : ∃ W, W = W2.alloc (.cells #[.string ⟨#[78, 105, 108]⟩, .slice none 0 0, .string ⟨#[67, 111, 110, 115]⟩, .slice (some ⟨N + 1, 0, none⟩) 2 2] 35) := ⟨_, rfl⟩
  obtain ⟨W4, h4⟩ : ∃ W, W = W3.alloc (.cells #[.int .i64 3, .int .i64 2, .int .i64 3] 23) := ⟨_, rfl⟩
  obtain ⟨W5, h5⟩ : ∃ W, W = W4.alloc (.cells #[.string ⟨#[76, 101, 97, 102]⟩, .slice none 0 0, .string ⟨#[78, 111, 100, 101]⟩, .slice (some ⟨N + 1 + 1 + 1, 0, none⟩) 3 3] 35) := ⟨_, rfl⟩
  obtain ⟨W6, h6⟩ : ∃ W, W = W5.alloc (.cells #[.string ⟨#[66, 111, 111, 108]⟩, .slice (some ⟨N, 0, none⟩) 2 2, .string ⟨#[76, 105, 115, 116]⟩, .slice (some ⟨N + 1 + 1, 0, none⟩) 2 2, .string ⟨#[84, 114, 101, 101]⟩, .slice (some ⟨N + 1 + 1 + 1 + 1, 0, none⟩) 2 2] 38) := ⟨_, rfl⟩
  have s1 : W1.heap.size = N + 1 := by rw [h1]; simp [hN]
  have s2 : W2.heap.size = N + 1 + 1 := by rw [h2]; simp [s1]
  have s3 : W3.heap.size = N + 1 + 1 + 1 := by rw [h3]; simp [s2]
  have s4 : W4.heap.size = N + 1 + 1 + 1 + 1 := by rw [h4]; simp [s3]
  have s5 : W5.heap.size = N + 1 + 1 + 1 + 1 + 1 := by rw [h5]; simp [s4]
  have k6 : ∀ k, k < W5.heap.size → W6.heap[k]? = W5.heap[k]? := fun k h => by rw [h6]; exact Below.heap_alloc _ _ _ h
  have k5 : ∀ k, k < W4.heap.size → W6.heap[k]? = W4.heap[k]? := fun k h => (k6 k (by omega)).trans (by rw [h5]; exact Below.heap_alloc _ _ _ h)
  have k4 : ∀ k, k < W3.heap.size → W6.heap[k]? = W3.heap[k]? := fun k h => (k5 k (by omega)).trans (by rw [h4]; exact Below.heap_alloc _ _ _ h)
  have k3 : ∀ k, k < W2.heap.size → W6.heap[k]? = W2.heap[k]? := fun k h => (k4 k (by omega)).trans (by rw [h3]; exact Below.heap_alloc _ _ _ h)
  have k2 : ∀ k, k < W1.heap.size → W6.heap[k]? = W1.heap[k]? := fun k h => (k3 k (by omega)).trans (by rw [h2]; exact Below.heap_alloc _ _ _ h)
  have b0 := (k2 N (by omega)).trans (show W1.heap[N]? = some _ by rw [h1, ← hN]; exact World.alloc_heap_new w _)
  have b1 := (k3 (N + 1) (by omega)).trans (show W2.heap[N + 1]? = some _ by rw [h2, ← s1]; exact World.alloc_heap_new W1 _)
  have b2 := (k4 (N + 1 + 1) (by omega)).trans (show W3.heap[N + 1 + 1]? = some _ by rw [h3, ← s2]; exact World.alloc_heap_new W2 _)
  have b3 := (k5 (N + 1 + 1 + 1) (by omega)).trans (show W4.heap[N + 1 + 1 + 1]? = some _ by rw [h4, ← s3]; exact World.alloc_heap_new W3 _)
  have b4 := (k6 (N + 1 + 1 + 1 + 1) (by omega)).trans (show W5.heap[N + 1 + 1 + 1 + 1]? = some _ by rw [h5, ← s4]; exact World.alloc_heap_new W4 _)
  have b5 := (show W6.heap[N + 1 + 1 + 1 + 1 + 1]? = some _ by rw [h6, ← s5]; exact World.alloc_heap_new W5 _)
  have f1 : FsAt W6 (.slice (some ⟨N + 1, 0, none⟩) 2 2) [0, 2] := FsAt.blk b1 rfl (fun i hi => match i, hi with
    | 0, _ => rfl
    | 1, _ => rfl)
  have f3 : FsAt W6 (.slice (some ⟨N + 1 + 1 + 1, 0, none⟩) 3 3) [3, 2, 3] := FsAt.blk b3 rfl (fun i hi => match i, hi with
    | 0, _ => rfl
    | 1, _ => rfl
    | 2, _ => rfl)
  have c0 := CsAt.blk (l := exS[0].cons) (n := 2) b0 rfl (fun i hi => match i, hi with
    | 0, _ => ⟨rfl, _, rfl, FsAt.nil _⟩
    | 1, _ => ⟨rfl, _, rfl, FsAt.nil _⟩)
  have c2 := CsAt.blk (l := exS[1].cons) (n := 2) b2 rfl (fun i hi => match i, hi with
    | 0, _ => ⟨rfl, _, rfl, FsAt.nil _⟩
    | 1, _ => ⟨rfl, _, rfl, f1⟩)
  have c4 := CsAt.blk (l := exS[2].cons) (n := 2) b4 rfl (fun i hi => match i, hi with
    | 0, _ => ⟨rfl, _, rfl, FsAt.nil _⟩
    | 1, _ => ⟨rfl, _, rfl, f3⟩)
  have HD : Hid (DsAt W6 (.slice (some ⟨N + 1 + 1 + 1 + 1 + 1, 0, none⟩) 3 3) exS) := Lib.hid (DsAt.blk b5 rfl (fun i hi => match i, hi with
    | 0, _ => ⟨rfl, _, rfl, c0⟩
    | 1, _ => ⟨rfl, _, rfl, c2⟩
    | 2, _ => ⟨rfl, _, rfl, c4⟩))
  have q1 : Below N w W1 := by rw [h1]; exact (Below.refl N w).alloc (by omega) _
  have q2 : Below N w W2 := by rw [h2]; exact q1.alloc (by omega) _
  have q3 : Below N w W3 := by rw [h3]; exact q2.alloc (by omega) _
  have q4 : Below N w W4 := by rw [h4]; exact q3.alloc (by omega) _
  have q5 : Below N w W5 := by rw [h5]; exact q4.alloc (by omega) _
  have q6 : Below N w W6 := by rw [h6]; exact q5.alloc (by omega) _
  have HB := Lib.hid q6
  clear q1 q2 q3 q4 q5 q6
  rw [h6, h5, h4, h3, h2, h1, ← hN] at HD HB
  clear h1 h2 h3 h4 h5 h6 s1 s2 s3 s4 s5 k2 k3 k4 k5 k6 b0 b1 b2 b3 b4 b5 f1 f3 c0 c2 c4 hN
  have i0 : In64 0 := In64_zero
  have i2 : In64 2 := by unfold In64; omega
  have i3 : In64 3 := by unfold In64; omega
  have HI := Lib.hid (And.intro i0 (And.intro i2 i3))
  clear i0 i2 i3
  go_enter Try.func4, Try.ntmps4
  go_wp2_with fail
  refine (Text_any _ exS 3 _ HD.out exS_sm HI.out.2.2).mono ?_
  rintro e w1 ⟨rfl, hb⟩
  rw [exS_txt, exS_err1 3 (by decide)]
  have HB1 := Lib.hid (HB.out.trans (hb.mono HB.out.size))
  have HD1 := Lib.hid (HD.out.keep hb (Nat.le_refl _))
  clear hb HB HD
  go_wp2_with fail
  refine (Inside_any _ exS 3 2 w1 HD1.out exS_sm HI.out.2.2 HI.out.2.1).mono ?_
  rintro e w2 ⟨⟨u, rfl, hu⟩, hb⟩
  rw [exS_i32]
  rw [exS_l32] at hu
  have HB2 := Lib.hid (HB1.out.trans (hb.mono HB1.out.size))
  have HD2 := Lib.hid (HD1.out.keep hb (Nat.le_refl _))
  obtain ⟨al, cl, hE⟩ := hu.slice
  have hlen : ([2, 3] : List Int).length = 2 := rfl
  rw [hlen] at hE
  subst hE
  obtain ⟨bl, ol, rfl, hbl, c0⟩ := hu.at 0 (by decide)
  obtain ⟨bl', ol', e1, hbl1, c1⟩ := hu.at 1 (by decide)
  cases e1
  simp only [List.getElem_cons_zero, List.getElem_cons_succ] at c0 c1
  rw [Nat.add_zero] at c0
  clear hb hu hlen hbl1 HB1 HD1
  go_wp2_with fail
  refine (Inside_any _ exS 2 3 w2 HD2.out exS_sm HI.out.2.1 HI.out.2.2).mono ?_
  rintro e w3 ⟨⟨u, rfl, hu⟩, hb⟩
  rw [exS_i23]
  rw [exS_l23] at hu
  have HB3 := Lib.hid (HB2.out.trans (hb.mono HB2.out.size))
  have HD3 := Lib.hid (HD2.out.keep hb (Nat.le_refl _))
  obtain ⟨al3, cl3, rfl⟩ := hu.slice
  replace c0 := (hb.cell (p := ⟨bl, ol, none⟩) hbl).trans c0
  replace c1 := (hb.cell (p := ⟨bl, ol + 1, none⟩) hbl).trans c1
  clear hb hu HB2 HD2 hbl
  have HOF := Lib.hid (Of_any _ exS 0 w3 HD3.out exS_sm HI.out.1)
  rw [exS_of0] at HOF
  go_wp2_with (first | (go_at_call 8; refine HOF.out.mono ?_; rintro e w4 ⟨⟨u, rfl, hu⟩, hb⟩; obtain ⟨a4, c4, rfl⟩ := hu.slice; have HB4 := Lib.hid (HB3.out.trans (hb.mono HB3.out.size)); clear hb hu))
  go_ret
  exact ⟨rfl, HB4.out⟩

end Go.Proofs.Yteidhlfiofiocab
