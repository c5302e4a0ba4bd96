/- The table of the chapter's examples, and awake. -/
import Derived.Test.YtphlokjhfbfogaaZM
import Derived.Test.YtphlokjhfbfogaaZD
set_option linter.unusedVariables false
set_option linter.unusedSimpArgs false
namespace Go.Proofs.Ytphlokjhfbfogaa
open Go.RowKit Go.Shelf

def exNil : ConM := ⟨⟨#[78, 105, 108]⟩, []⟩
def exCons : ConM := ⟨⟨#[67, 111, 110, 115]⟩, [0, 2]⟩
def exTable : List DataM := [⟨⟨#[66, 111, 111, 108]⟩, [⟨⟨#[70, 97, 108, 115, 101]⟩, []⟩, ⟨⟨#[84, 114, 117, 101]⟩, []⟩]⟩, ⟨⟨#[76, 105, 115, 116]⟩, [⟨⟨#[78, 105, 108]⟩, []⟩, ⟨⟨#[67, 111, 110, 115]⟩, [0, 2]⟩]⟩, ⟨⟨#[67, 111, 108, 111, 114]⟩, [⟨⟨#[82, 101, 100]⟩, []⟩, ⟨⟨#[71, 114, 101, 101, 110]⟩, []⟩]⟩, ⟨⟨#[79, 112, 116]⟩, [⟨⟨#[78, 111, 110, 101]⟩, []⟩, ⟨⟨#[83, 111, 109, 101]⟩, [2]⟩]⟩]

theorem FsAt.blk {W : World} {b n : Nat} {cs : Array Value} {T : TypeId} {l : List Int} (h : W.heap[b]? = some (.cells cs T (0, 0))) (hn : n = l.length) (hc : ∀ (i : Nat) (hi : i < l.length), cs[i]? = some (.int .i64 l[i])) : FsAt W (.slice (some ⟨b, 0, none⟩) n n) l :=
  ⟨_, _, _, rfl, hn, .inr ⟨b, 0, rfl, (Array.getElem?_eq_some_iff.1 h).1, fun i hi => by simp only [World.cell?, h, Nat.zero_add]; exact hc i hi⟩⟩
theorem CsAt.blk {W : World} {b n : Nat} {cs : Array Value} {T : TypeId} {l : List ConM} (h : W.heap[b]? = some (.cells cs T (0, 0))) (hn : n = l.length) (hc : ∀ (i : Nat) (hi : i < l.length), cs[i * 2]? = some (.string l[i].name) ∧ ∃ vf, cs[i * 2 + 1]? = some vf ∧ FsAt W vf l[i].fields) : CsAt W (.slice (some ⟨b, 0, none⟩) n n) l := by
  refine ⟨_, _, _, rfl, hn, .inr ⟨b, 0, rfl, (Array.getElem?_eq_some_iff.1 h).1, fun i hi => ?_⟩⟩
  obtain ⟨h1, vf, h2, h3⟩ := hc i hi
  exact ⟨by simp only [World.cell?, h, Nat.zero_add]; exact h1, vf, by simp only [World.cell?, h, Nat.zero_add]; exact h2, h3⟩
theorem DsAt.blk {W : World} {b n : Nat} {cs : Array Value} {T : TypeId} {l : List DataM} (h : W.heap[b]? = some (.cells cs T (0, 0))) (hn : n = l.length) (hc : ∀ (i : Nat) (hi : i < l.length), cs[i * 2]? = some (.string l[i].name) ∧ ∃ vf, cs[i * 2 + 1]? = some vf ∧ CsAt W vf l[i].cons) : DsAt W (.slice (some ⟨b, 0, none⟩) n n) l := by
  refine ⟨_, _, _, rfl, hn, .inr ⟨b, 0, rfl, (Array.getElem?_eq_some_iff.1 h).1, fun i hi => ?_⟩⟩
  obtain ⟨h1, vf, h2, h3⟩ := hc i hi
  exact ⟨by simp only [World.cell?, h, Nat.zero_add]; exact h1, vf, by simp only [World.cell?, h, Nat.zero_add]; exact h2, h3⟩

set_option maxRecDepth 100000 in
set_option maxHeartbeats 6400000 in
theorem table_any (w : World) : Calls Try.prog 9 #[] w fun e w' => (∃ u, e = .returned u ∧ DsAt w' u exTable) ∧ Below w.heap.size w w' := by
  obtain ⟨N, hN⟩ : ∃ N, w.heap.size = N := ⟨_, rfl⟩
  obtain ⟨W1, h1⟩ : ∃ W, W = w.alloc (.cells #[.string ⟨#[70, 97, 108, 115, 101]⟩, .slice none 0 0, .string ⟨#[84, 114, 117, 101]⟩, .slice none 0 0] 34) := ⟨_, rfl⟩
  obtain ⟨W2, h2⟩ : ∃ W, W = W1.alloc (.cells #[.int .i64 0, .int .i64 2] 27) := ⟨_, rfl⟩
  obtain ⟨W3, h3⟩ : ∃ W, W = W2.alloc (.cells #[.string ⟨#[78, 105, 108]⟩, .slice none 0 0, .string ⟨#[67, 111, 110, 115]⟩, .slice (some ⟨N + 1, 0, none⟩) 2 2] 34) := ⟨_, rfl⟩
  obtain ⟨W4, h4⟩ : ∃ W, W = W3.alloc (.cells #[.string ⟨#[82, 101, 100]⟩, .slice none 0 0, .string ⟨#[71, 114, 101, 101, 110]⟩, .slice none 0 0] 34) := ⟨_, rfl⟩
  obtain ⟨W5, h5⟩ : ∃ W, W = W4.alloc (.cells #[.int .i64 2] 27) := ⟨_, rfl⟩
  obtain ⟨W6, h6⟩ : ∃ W, W = W5.alloc (.cells #[.string ⟨#[78, 111, 110, 101]⟩, .slice none 0 0, .string ⟨#[83, 111, 109, 101]⟩, .slice (some ⟨N + 1 + 1 + 1 + 1, 0, none⟩) 1 1] 34) := ⟨_, rfl⟩
  obtain ⟨W7, h7⟩ : ∃ W, W = W6.alloc (.cells #[.string ⟨#[66, 111, 111, 108]⟩, .slice (some ⟨N, 0, none⟩) 2 2, .string ⟨#[76, 105, 115, 116]⟩, .slice (some ⟨N + 1 + 1, 0, none⟩) 2 2, .string ⟨#[67, 111, 108, 111, 114]⟩, .slice (some ⟨N + 1 + 1 + 1, 0, none⟩) 2 2, .string ⟨#[79, 112, 116]⟩, .slice (some ⟨N + 1 + 1 + 1 + 1 + 1, 0, none⟩) 2 2] 37) := ⟨_, rfl⟩
  have s1 : W1.heap.size = N + 1 := by rw [h1]; simp [hN]
  have s2 : W2.heap.size = N + 1 + 1 := by rw [h2]; simp [s1]
  have s3 : W3.heap.size = N + 1 + 1 + 1 := by rw [h3]; simp [s2]
  have s4 : W4.heap.size = N + 1 + 1 + 1 + 1 := by rw [h4]; simp [s3]
  have s5 : W5.heap.size = N + 1 + 1 + 1 + 1 + 1 := by rw [h5]; simp [s4]
  have s6 : W6.heap.size = N + 1 + 1 + 1 + 1 + 1 + 1 := by rw [h6]; simp [s5]
  have k7 : ∀ k, k < W6.heap.size → W7.heap[k]? = W6.heap[k]? := fun k h => by rw [h7]; exact Below.heap_alloc _ _ _ h
  have k6 : ∀ k, k < W5.heap.size → W7.heap[k]? = W5.heap[k]? := fun k h => (k7 k (by omega)).trans (by rw [h6]; exact Below.heap_alloc _ _ _ h)
  have k5 : ∀ k, k < W4.heap.size → W7.heap[k]? = W4.heap[k]? := fun k h => (k6 k (by omega)).trans (by rw [h5]; exact Below.heap_alloc _ _ _ h)
  have k4 : ∀ k, k < W3.heap.size → W7.heap[k]? = W3.heap[k]? := fun k h => (k5 k (by omega)).trans (by rw [h4]; exact Below.heap_alloc _ _ _ h)
  have k3 : ∀ k, k < W2.heap.size → W7.heap[k]? = W2.heap[k]? := fun k h => (k4 k (by omega)).trans (by rw [h3]; exact Below.heap_alloc _ _ _ h)
  have k2 : ∀ k, k < W1.heap.size → W7.heap[k]? = W1.heap[k]? := fun k h => (k3 k (by omega)).trans (by rw [h2]; exact Below.heap_alloc _ _ _ h)
  have b0 : W7.heap[N]? = some (.cells #[.string ⟨#[70, 97, 108, 115, 101]⟩, .slice none 0 0, .string ⟨#[84, 114, 117, 101]⟩, .slice none 0 0] 34 (0, 0)) := (k2 N (by omega)).trans (by rw [h1, ← hN]; exact World.alloc_heap_new w _)
  have b1 : W7.heap[N + 1]? = some (.cells #[.int .i64 0, .int .i64 2] 27 (0, 0)) := (k3 _ (by omega)).trans (by rw [h2, ← s1]; exact World.alloc_heap_new W1 _)
  have b2 : W7.heap[N + 1 + 1]? = some (.cells #[.string ⟨#[78, 105, 108]⟩, .slice none 0 0, .string ⟨#[67, 111, 110, 115]⟩, .slice (some ⟨N + 1, 0, none⟩) 2 2] 34 (0, 0)) := (k4 _ (by omega)).trans (by rw [h3, ← s2]; exact World.alloc_heap_new W2 _)
  have b3 : W7.heap[N + 1 + 1 + 1]? = some (.cells #[.string ⟨#[82, 101, 100]⟩, .slice none 0 0, .string ⟨#[71, 114, 101, 101, 110]⟩, .slice none 0 0] 34 (0, 0)) := (k5 _ (by omega)).trans (by rw [h4, ← s3]; exact World.alloc_heap_new W3 _)
  have b4 : W7.heap[N + 1 + 1 + 1 + 1]? = some (.cells #[.int .i64 2] 27 (0, 0)) := (k6 _ (by omega)).trans (by rw [h5, ← s4]; exact World.alloc_heap_new W4 _)
  have b5 : W7.heap[N + 1 + 1 + 1 + 1 + 1]? = some (.cells #[.string ⟨#[78, 111, 110, 101]⟩, .slice none 0 0, .string ⟨#[83, 111, 109, 101]⟩, .slice (some ⟨N + 1 + 1 + 1 + 1, 0, none⟩) 1 1] 34 (0, 0)) := (k7 _ (by omega)).trans (by rw [h6, ← s5]; exact World.alloc_heap_new W5 _)
  have b6 : W7.heap[N + 1 + 1 + 1 + 1 + 1 + 1]? = some (.cells #[.string ⟨#[66, 111, 111, 108]⟩, .slice (some ⟨N, 0, none⟩) 2 2, .string ⟨#[76, 105, 115, 116]⟩, .slice (some ⟨N + 1 + 1, 0, none⟩) 2 2, .string ⟨#[67, 111, 108, 111, 114]⟩, .slice (some ⟨N + 1 + 1 + 1, 0, none⟩) 2 2, .string ⟨#[79, 112, 116]⟩, .slice (some ⟨N + 1 + 1 + 1 + 1 + 1, 0, none⟩) 2 2] 37 (0, 0)) := by rw [h7, ← s6]; exact World.alloc_heap_new W6 _
  have f1 : FsAt W7 (.slice (some ⟨N + 1, 0, none⟩) 2 2) [0, 2] := FsAt.blk b1 rfl (fun i hi => match i, hi with
    | 0, _ => rfl
    | 1, _ => rfl)
  have f4 : FsAt W7 (.slice (some ⟨N + 1 + 1 + 1 + 1, 0, none⟩) 1 1) [2] := FsAt.blk b4 rfl (fun i hi => match i, hi with
    | 0, _ => rfl)
  have c0 := CsAt.blk (l := exTable[0].cons) (n := 2) b0 rfl (fun i hi => match i, hi with
    | 0, _ => ⟨rfl, _, rfl, FsAt.nil _⟩
    | 1, _ => ⟨rfl, _, rfl, FsAt.nil _⟩)
  have c2 := CsAt.blk (l := exTable[1].cons) (n := 2) b2 rfl (fun i hi => match i, hi with
    | 0, _ => ⟨rfl, _, rfl, FsAt.nil _⟩
    | 1, _ => ⟨rfl, _, rfl, f1⟩)
  have c3 := CsAt.blk (l := exTable[2].cons) (n := 2) b3 rfl (fun i hi => match i, hi with
    | 0, _ => ⟨rfl, _, rfl, FsAt.nil _⟩
    | 1, _ => ⟨rfl, _, rfl, FsAt.nil _⟩)
  have c5 := CsAt.blk (l := exTable[3].cons) (n := 2) b5 rfl (fun i hi => match i, hi with
    | 0, _ => ⟨rfl, _, rfl, FsAt.nil _⟩
    | 1, _ => ⟨rfl, _, rfl, f4⟩)
  have HD : Hid (DsAt W7 (.slice (some ⟨N + 1 + 1 + 1 + 1 + 1 + 1, 0, none⟩) 4 4) exTable) := Lib.hid (DsAt.blk b6 rfl (fun i hi => match i, hi with
    | 0, _ => ⟨rfl, _, rfl, c0⟩
    | 1, _ => ⟨rfl, _, rfl, c2⟩
    | 2, _ => ⟨rfl, _, rfl, c3⟩
    | 3, _ => ⟨rfl, _, rfl, c5⟩))
  have q1 : Below N w W1 := by rw [h1]; exact (Below.refl N w).alloc (by omega) _
  have q2 : Below N w W2 := by rw [h2]; exact q1.alloc (by omega) _
  have q3 : Below N w W3 := by rw [h3]; exact q2.alloc (by omega) _
  have q4 : Below N w W4 := by rw [h4]; exact q3.alloc (by omega) _
  have q5 : Below N w W5 := by rw [h5]; exact q4.alloc (by omega) _
  have q6 : Below N w W6 := by rw [h6]; exact q5.alloc (by omega) _
  have q7 : Below N w W7 := by rw [h7]; exact q6.alloc (by omega) _
  have HB := Lib.hid q7
  clear q1 q2 q3 q4 q5 q6 q7
  rw [h7, h6, h5, h4, h3, h2, h1, ← hN] at HD HB
  clear h1 h2 h3 h4 h5 h6 h7 s1 s2 s3 s4 s5 s6 k2 k3 k4 k5 k6 k7 b0 b1 b2 b3 b4 b5 b6 f1 f4 c0 c2 c3 c5 hN
  go_enter Try.func9, Try.ntmps9
  go_wp2
  go_ret
  exact ⟨⟨_, rfl, HD.out⟩, HB.out⟩

end Go.Proofs.Ytphlokjhfbfogaa
