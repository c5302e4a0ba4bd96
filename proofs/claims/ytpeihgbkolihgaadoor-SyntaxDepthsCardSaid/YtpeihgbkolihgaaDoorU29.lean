/- awake: the examples of the chapter. -/
import Derived.Test.YtpeihgbkolihgaaDoorU28
set_option linter.unusedVariables false
set_option linter.unusedSimpArgs false
namespace Go.Proofs.YtpeihgbkolihgaaDoor
open Go.RowKit

def exL : List LeafM := [⟨13, ⟨#[120]⟩, 0, [1, 3], 0, 0⟩, ⟨10, ⟨#[102]⟩, 0, [2], 0, 0⟩, ⟨9, ⟨#[]⟩, 1, [], 0, 0⟩, ⟨8, ⟨#[120]⟩, 0, [], 0, 0⟩]
def exOne (k : Int) (s : ByteArray) : List LeafM := [⟨k, s, 0, [], 0, 0⟩]
def exText : List UInt8 := [40, 108, 101, 116, 32, 120, 32, 40, 97, 112, 112, 108, 121, 32, 102, 32, 40, 110, 117, 109, 32, 49, 41, 41, 32, 40, 110, 97, 109, 101, 32, 120, 41, 41]
set_option maxRecDepth 100000 in
theorem ex_check : Sx.check exL 0 = 0 := by decide +kernel
set_option maxRecDepth 100000 in
theorem ex_text : Sx.text exL 0 = exText := by decide +kernel
theorem ex_dump : Sx.dumpR exL 0 = (exText, 0) := by
  unfold Sx.dumpR
  rw [ex_check, if_neg (by decide), ex_text, if_neg (by decide)]
set_option maxRecDepth 100000 in
theorem ex_nil : Sx.check (exOne 11 ⟨#[78, 105, 108]⟩) 0 = 0 := by decide +kernel
set_option maxRecDepth 100000 in
theorem ex_apply : Sx.check (exOne 10 ⟨#[102]⟩) 0 = 3 := by decide +kernel
set_option maxRecDepth 100000 in
theorem ex_let : Sx.check (exOne 8 ⟨#[108, 101, 116]⟩) 0 = 3 := by decide +kernel
theorem in64_small {z : Int} (h0 : -1000 ≤ z) (h1 : z ≤ 1000) : In64 z := by unfold In64; omega
theorem exL_sm : SmT exL := by
  refine ⟨by decide, fun x hx => ?_⟩
  unfold exL at hx
  simp only [List.mem_cons, List.not_mem_nil, or_false] at hx
  rcases hx with rfl | rfl | rfl | rfl
  all_goals
    refine ⟨by decide, by decide, in64_small (by decide) (by decide), in64_small (by decide) (by decide), in64_small (by decide) (by decide), in64_small (by decide) (by decide), fun t ht => ?_⟩
    simp at ht
    try omega
  · rcases ht with rfl | rfl <;> exact in64_small (by decide) (by decide)
  · rw [ht]; exact in64_small (by decide) (by decide)
theorem exOne_sm (k : Int) (s : ByteArray) (hk : -1000 ≤ k) (hk2 : k ≤ 1000) (hs : s.size ≤ 100000) : SmT (exOne k s) := by
  refine ⟨by show 1 ≤ 100000; decide, fun x hx => ?_⟩
  unfold exOne at hx
  rw [List.mem_singleton] at hx
  subst hx
  exact ⟨hs, by show 0 ≤ 100000; decide, in64_small hk hk2, in64_small (z := 0) (by decide) (by decide), in64_small (z := 0) (by decide) (by decide), in64_small (z := 0) (by decide) (by decide), fun t ht => by cases ht⟩

theorem IsAt.blk {W : World} {b n : Nat} {cs : Array Value} {T : TypeId} {l : List Int} (h : W.heap[b]? = some (.cells cs T (0, 0))) (hn : n = l.length) (hc : ∀ (i : Nat) (hi : i < l.length), cs[i]? = some (.int .i64 l[i])) : IsAt W (.slice (some ⟨b, 0, none⟩) n n) l :=
  ⟨_, _, _, rfl, hn, .inr ⟨b, 0, rfl, lt_of h, fun i hi => by rw [Nat.zero_add]; exact cell_at h (hc i hi)⟩⟩
def leafCs (x : LeafM) (vk : Value) : List Value := [.int .i64 x.kind, .string x.text, .int .i64 x.num, vk, .int .i64 x.frm, .int .i64 x.to]
theorem LfAt.blk {W : World} {b o : Nat} {cs : Array Value} {T : TypeId} {x : LeafM} {vk : Value} (h : W.heap[b]? = some (.cells cs T (0, 0))) (hk : IsAt W vk x.kids) (h0 : cs[o]? = some (.int .i64 x.kind)) (h1 : cs[o + 1]? = some (.string x.text)) (h2 : cs[o + 2]? = some (.int .i64 x.num)) (h3 : cs[o + 3]? = some vk) (h4 : cs[o + 4]? = some (.int .i64 x.frm)) (h5 : cs[o + 5]? = some (.int .i64 x.to)) : LfAt W b o x :=
  ⟨cell_at h h0, cell_at h h1, cell_at h h2, ⟨vk, cell_at h h3, hk⟩, cell_at h h4, cell_at h h5⟩
theorem ls_one {W : World} {b : Nat} {T : TypeId} (k : Int) (s : ByteArray) (h : W.heap[b]? = some (.cells #[.int .i64 k, .string s, .int .i64 0, .slice none 0 0, .int .i64 0, .int .i64 0] T (0, 0))) : LsAt W (.slice (some ⟨b, 0, none⟩) 1 1) (exOne k s) :=
  ⟨_, _, _, rfl, rfl, .inr ⟨b, 0, rfl, lt_of h, fun i hi => by
    have : i = 0 := by have : (exOne k s).length = 1 := rfl; omega
    subst this
    exact LfAt.blk h (IsAt.nil W) rfl rfl rfl rfl rfl rfl⟩⟩

set_option maxRecDepth 100000 in
set_option maxHeartbeats 12800000 in
theorem awake_any (w : World) (htab : Tab w) : Calls Tryd.prog 10 #[] w fun e w' => e = .returned (.bool true) ∧ Below w.heap.size w w' := by
  obtain ⟨N, hN⟩ : ∃ N, w.heap.size = N := ⟨_, rfl⟩
  obtain ⟨W1, h1⟩ : ∃ W, W = w.alloc (.cells #[.int .i64 1, .int .i64 3] 3) := ⟨_, rfl⟩
  obtain ⟨W2, h2⟩ : ∃ W, W = W1.alloc (.cells #[.int .i64 2] 3) := ⟨_, rfl⟩
  obtain ⟨W3, h3⟩ : ∃ W, W = W2.alloc (.cells #[.int .i64 13, .string ⟨#[120]⟩, .int .i64 0, .slice (some ⟨N, 0, none⟩) 2 2, .int .i64 0, .int .i64 0, .int .i64 10, .string ⟨#[102]⟩, .int .i64 0, .slice (some ⟨N + 1, 0, none⟩) 1 1, .int .i64 0, .int .i64 0, .int .i64 9, .string ⟨#[]⟩, .int .i64 1, .slice none 0 0, .int .i64 0, .int .i64 0, .int .i64 8, .string ⟨#[120]⟩, .int .i64 0, .slice none 0 0, .int .i64 0, .int .i64 0] 38) := ⟨_, rfl⟩
  obtain ⟨W4, h4⟩ : ∃ W, W = W3.alloc (.cells #[.slice (some ⟨N + 1 + 1, 0, none⟩) 4 4, .int .i64 0] 24) := ⟨_, rfl⟩
  have s1 : W1.heap.size = N + 1 := by rw [h1]; simp [hN]
  have s2 : W2.heap.size = N + 1 + 1 := by rw [h2]; simp [s1]
  have s3 : W3.heap.size = N + 1 + 1 + 1 := by rw [h3]; simp [s2]
  have k4 : ∀ k, k < W3.heap.size → W4.heap[k]? = W3.heap[k]? := fun k h => by rw [h4]; exact Below.heap_alloc _ _ _ h
  have k3 : ∀ k, k < W2.heap.size → W4.heap[k]? = W2.heap[k]? := fun k h => (k4 k (by omega)).trans (by rw [h3]; exact Below.heap_alloc _ _ _ h)
  have k2 : ∀ k, k < W1.heap.size → W4.heap[k]? = W1.heap[k]? := fun k h => (k3 k (by omega)).trans (by rw [h2]; exact Below.heap_alloc _ _ _ h)
  have b0 := (k2 N (by omega)).trans (show W1.heap[N]? = some _ by rw [h1, ← hN]; exact World.alloc_heap_new w _)
  have b1 := (k3 (N + 1) (by omega)).trans (show W2.heap[N + 1]? = some _ by rw [h2, ← s1]; exact World.alloc_heap_new W1 _)
  have b2 := (k4 (N + 1 + 1) (by omega)).trans (show W3.heap[N + 1 + 1]? = some _ by rw [h3, ← s2]; exact World.alloc_heap_new W2 _)
  have b3 := (show W4.heap[N + 1 + 1 + 1]? = some _ by rw [h4, ← s3]; exact World.alloc_heap_new W3 _)
  have f0 : IsAt W4 (.slice (some ⟨N, 0, none⟩) 2 2) [1, 3] := IsAt.blk b0 rfl (fun i hi => match i, hi with
    | 0, _ => rfl
    | 1, _ => rfl)
  have f1 : IsAt W4 (.slice (some ⟨N + 1, 0, none⟩) 1 1) [2] := IsAt.blk b1 rfl (fun i hi => match i, hi with
    | 0, _ => rfl)
  have HL : Hid (LsAt W4 (.slice (some ⟨N + 1 + 1, 0, none⟩) 4 4) exL) := Lib.hid ⟨_, _, _, rfl, rfl, .inr ⟨_, 0, rfl, lt_of b2, fun i hi => match i, hi with
    | 0, _ => LfAt.blk b2 f0 rfl rfl rfl rfl rfl rfl
    | 1, _ => LfAt.blk b2 f1 rfl rfl rfl rfl rfl rfl
    | 2, _ => LfAt.blk b2 (IsAt.nil _) rfl rfl rfl rfl rfl rfl
    | 3, _ => LfAt.blk b2 (IsAt.nil _) rfl rfl rfl rfl rfl rfl⟩⟩
  have q1 : Below N w W1 := by rw [h1]; exact (Below.refl N w).alloc (by omega) _
  have q2 : Below N w W2 := by rw [h2]; exact q1.alloc (by omega) _
  have q3 : Below N w W3 := by rw [h3]; exact q2.alloc (by omega) _
  have q4 : Below N w W4 := by rw [h4]; exact q3.alloc (by omega) _
  have HB := Lib.hid q4
  have HT := Lib.hid (tab_keep htab q4 (Nat.le_of_eq hN))
  have x0 := cell_at (i := 0) b3 rfl
  have x1 := cell_at (i := 1) b3 rfl
  have hch := h4
  rw [h3, h2, h1] at hch
  replace hch := hch.symm
  rw [← hN] at hch HL HB x0 x1
  have HX := Lib.hid (And.intro x0 x1)
  have HCH := Lib.hid hch
  clear x0 x1 hch q1 q2 q3 q4 h1 h2 h3 h4 s1 s2 s3 k2 k3 k4 b0 b1 b2 b3 f0 f1 hN htab
  go_enter Tryd.func10, Tryd.ntmps10
  go_upto_region 2 with fail
  rw [HCH.out]
  have x0 := HX.out.1
  have x1 := HX.out.2
  go_wp2_with fail
  refine (Dump_any _ exL 0 W4 HL.out exL_sm HT.out).mono ?_
  rintro e w1 ⟨rfl, hb⟩
  rw [ex_dump]
  have HB1 := Lib.hid (HB.out.trans (hb.mono HB.out.size))
  clear hb x0 x1 HX HCH HL HT HB
  -- the three single leaves
  have ho := World.alloc_heap_new w1 (.cells #[.int .i64 11, .string ⟨#[78, 105, 108]⟩, .int .i64 0, .slice none 0 0, .int .i64 0, .int .i64 0] 38)
  have hb := HB1.out.alloc HB1.out.size (.cells #[.int .i64 11, .string ⟨#[78, 105, 108]⟩, .int .i64 0, .slice none 0 0, .int .i64 0, .int .i64 0] 38)
  have HC := Lib.hid (Check_any _ (exOne 11 ⟨#[78, 105, 108]⟩) 0 _ (ls_one 11 ⟨#[78, 105, 108]⟩ ho) (exOne_sm _ _ (by decide) (by decide) (by decide)))
  rw [ex_nil] at HC
  have HB := Lib.hid hb
  clear ho hb
  go_wp2_with fail
  refine HC.out.mono ?_
  rintro e w2 ⟨rfl, hb⟩
  have HB2 := Lib.hid (HB.out.trans (hb.mono HB.out.size))
  clear hb HC HB HB1
  have ho := World.alloc_heap_new w2 (.cells #[.int .i64 10, .string ⟨#[102]⟩, .int .i64 0, .slice none 0 0, .int .i64 0, .int .i64 0] 38)
  have hb := HB2.out.alloc HB2.out.size (.cells #[.int .i64 10, .string ⟨#[102]⟩, .int .i64 0, .slice none 0 0, .int .i64 0, .int .i64 0] 38)
  have HC := Lib.hid (Check_any _ (exOne 10 ⟨#[102]⟩) 0 _ (ls_one 10 ⟨#[102]⟩ ho) (exOne_sm _ _ (by decide) (by decide) (by decide)))
  rw [ex_apply] at HC
  have HB := Lib.hid hb
  clear ho hb
  go_wp2_with fail
  refine HC.out.mono ?_
  rintro e w3 ⟨rfl, hb⟩
  have HB3 := Lib.hid (HB.out.trans (hb.mono HB.out.size))
  clear hb HC HB HB2
  have ho := World.alloc_heap_new w3 (.cells #[.int .i64 8, .string ⟨#[108, 101, 116]⟩, .int .i64 0, .slice none 0 0, .int .i64 0, .int .i64 0] 38)
  have hb := HB3.out.alloc HB3.out.size (.cells #[.int .i64 8, .string ⟨#[108, 101, 116]⟩, .int .i64 0, .slice none 0 0, .int .i64 0, .int .i64 0] 38)
  have HC := Lib.hid (Check_any _ (exOne 8 ⟨#[108, 101, 116]⟩) 0 _ (ls_one 8 ⟨#[108, 101, 116]⟩ ho) (exOne_sm _ _ (by decide) (by decide) (by decide)))
  rw [ex_let] at HC
  have HB := Lib.hid hb
  clear ho hb
  go_wp2_with fail
  refine HC.out.mono ?_
  rintro e w4 ⟨rfl, hb⟩
  have HB4 := Lib.hid (HB.out.trans (hb.mono HB.out.size))
  clear hb HC HB HB3
  go_wp2
  go_ret
  exact ⟨rfl, HB4.out⟩

end Go.Proofs.YtpeihgbkolihgaaDoor
