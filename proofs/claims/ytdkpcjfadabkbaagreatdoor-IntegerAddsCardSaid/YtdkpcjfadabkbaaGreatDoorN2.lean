/- What extended does: a copy with zeros at the top, in a block of its own. -/
import Derived.Test.YtdkpcjfadabkbaaGreatDoorN1
import Derived.Laws.CopyOwn
set_option linter.unusedVariables false
set_option linter.unusedSimpArgs false
namespace Go.Proofs.YtdkpcjfadabkbaaGreatDoor
open Go.RowKit

theorem info32 : (Tryz.prog.info? 96).map (fun i => (i.zero, i.size, i.bytes)) = some (some (.int .u32 0), 1, 4) := by kernel_rfl
theorem size32 : (Tryz.prog.info? 96).map (·.size) = some 1 := by kernel_rfl

theorem own_of_full {k : IntKind} {t : TypeId} {w : World} {B g n : Nat} {cs : List Nat} (hl : cs.length = n) (h : w.ownsRow B t 1 (.slice (some ⟨g, 0, none⟩) n n) n (cs.map (fun x => Value.int k (x : Nat)))) : Own k t w g cs ∧ B ≤ g := by
  rcases h.2 with ⟨hv, _⟩ | ⟨g', cap, cur, hv, hB, hg, h1, h2, h3, h4⟩
  · simp at hv
  · simp only [Value.slice.injEq, Option.some.injEq, Addr.mk.injEq] at hv
    obtain ⟨⟨rfl, _⟩, _, rfl⟩ := hv
    refine ⟨?_, hB⟩
    unfold Own
    rw [hg]
    congr 1
    congr 1
    rw [Nat.mul_one, List.take_of_length_le (by simp; omega)] at h4
    rw [← h4]

theorem addr_add (g off j : Nat) : (⟨g, off, none⟩ : Addr).add j = ⟨g, off + j, none⟩ := by
  by_cases h : j = 0
  · subst h; simp [Addr.add]
  · simp [Addr.add, h]

theorem made_zeros (k : IntKind) (n : Nat) : (madeCells (Value.int k 0).cells (n * 1)).toList = (List.replicate n 0).map (fun x => Value.int k ((x : Nat) : Int)) := by
  apply List.ext_getElem
  · simp [madeCells]
  · intro i h1 h2
    simp [madeCells, Value.cells] at h1 ⊢
    rw [Nat.mod_one]
    rfl

/-- A copy of xs with zeros at the top, n limbs in all, in a new block. -/
def ExtPost (xs : List Nat) (n : Nat) (w : World) (e : Ending) (w' : World) : Prop :=
  ∃ g, w.heap.size ≤ g ∧ e = .returned (.slice (some ⟨g, 0, none⟩) n n) ∧ Own .u32 96 w' g (xs ++ List.replicate (n - xs.length) 0) ∧ Below w.heap.size w w'

theorem splice_zeros (k : IntKind) (xs : List Nat) (n : Nat) (h : xs.length ≤ n) :
    splice (List.replicate n (Value.int k 0)) 0 (xs.map (fun x => Value.int k ((x : Nat) : Int))) = (xs ++ List.replicate (n - xs.length) 0).map (fun x => Value.int k ((x : Nat) : Int)) := by
  simp [splice, List.drop_replicate]

set_option maxRecDepth 100000 in
set_option maxHeartbeats 800000 in
theorem extended_to (a : Option Addr) (c : Nat) (xs : List Nat) (m n : Nat) (hn : n ≤ 60000) (hmn : (m < xs.length ∧ n = xs.length) ∨ (¬ m < xs.length ∧ n = m)) (w : World) (h : Rd .u32 w (.slice a xs.length c) xs) :
    Calls Tryz.prog 69 #[.slice a xs.length c, .int .i64 m] w (ExtPost xs n w) := by
  have hl := h.length
  have H := Lib.hid h
  clear h
  have hxn : xs.length ≤ n := by omega
  obtain ⟨i0, hi, hz0, hz1, hz2⟩ := info_parts info32
  have HZ2 := Lib.hid hz2
  have HI := Lib.hid hi
  have HZ0 := Lib.hid hz0
  have HZ1 := Lib.hid hz1
  clear hz2 hi hz0 hz1
  rcases hmn with ⟨hlt, rfl⟩ | ⟨hlt, rfl⟩
  · skip
    go_enter Tryz.func69, Tryz.ntmps69
    go_wp2_with (refine wpList_make_full _ rfl (.tmp 9) (.tmp 9) 75 rfl w.heap.size 96 i0 (.int .u32 0) 1 Tryz.underlying75 HI.out HZ0.out HZ1.out .i64 .i64 _ _ xs.length rfl rfl rfl rfl (by rw [HZ2.out]; omega) (by unfold maxLen; omega) (Nat.le_refl _) ?_; intro w1 hown hgrow; refine hold ?_)
    rw [made_zeros] at hown
    obtain ⟨hO, _⟩ := own_of_full (by simp) hown
    have HO := Lib.hid hO
    have HB := Lib.hid ((Below.refl w.heap.size w).grown hgrow (Nat.le_refl _) (fun k hk => by simp at hk))
    have HR : Hid (xs ≠ [] → ∃ g off, a = some ⟨g, off, none⟩ ∧ Row .u32 w1 g off xs) := Lib.hid (fun hx => by
      obtain ⟨a', c', e, _, _, h3⟩ := H.out
      obtain ⟨rfl, rfl⟩ : a = a' ∧ c = c' := by simpa using e
      obtain ⟨g, off, rfl, hg, hr⟩ := h3 hx
      exact ⟨g, off, rfl, hr.keep HB.out hg⟩)
    clear hown hgrow hO
    refine go_on ?_
    go_wp2_with (refine wpList_copy_splice rfl (.tmp 11) (.tmp 12) 75 75 rfl 96 Tryz.underlying75 size32 (some ⟨w.heap.size, 0, none⟩) a xs.length xs.length xs.length c (by rfl) (by rfl) w.heap.size 0 ((List.replicate xs.length 0).map (fun x => Value.int .u32 ((x : Nat) : Int))) 96 HO.out (xs.map (fun x => Value.int .u32 ((x : Nat) : Int))) (by rw [List.length_map]; exact (Nat.min_eq_left (by omega)).symm) ?_ (by rw [List.length_map, List.length_map, List.length_replicate]; omega) (fun v hv => by obtain ⟨x, _, rfl⟩ := List.mem_map.1 hv; rfl) w.heap.size w HB.out (Nat.le_refl _) ?_)
    · intro hpos
      obtain ⟨g, off, rfl, hr⟩ := HR.out (by rintro rfl; simp at hpos)
      refine ⟨_, rfl, fun j x hx => ?_⟩
      obtain ⟨hj, rfl⟩ := List.getElem?_eq_some_iff.1 hx
      rw [addr_add]; exact hr j hj
    · intro w2 HG hb2
      rw [splice_zeros _ _ _ (by omega)] at HG
      have HB2 := Lib.hid hb2
      clear hb2
      go_wp2
      go_ret
      exact ⟨_, Nat.le_refl _, rfl, HG.out, HB2.out⟩
  · skip
    go_enter Tryz.func69, Tryz.ntmps69
    go_wp2_with (refine wpList_make_full _ rfl (.tmp 9) (.tmp 9) 75 rfl w.heap.size 96 i0 (.int .u32 0) 1 Tryz.underlying75 HI.out HZ0.out HZ1.out .i64 .i64 _ _ n rfl rfl rfl rfl (by rw [HZ2.out]; omega) (by unfold maxLen; omega) (Nat.le_refl _) ?_; intro w1 hown hgrow; refine hold ?_)
    rw [made_zeros] at hown
    obtain ⟨hO, _⟩ := own_of_full (by simp) hown
    have HO := Lib.hid hO
    have HB := Lib.hid ((Below.refl w.heap.size w).grown hgrow (Nat.le_refl _) (fun k hk => by simp at hk))
    have HR : Hid (xs ≠ [] → ∃ g off, a = some ⟨g, off, none⟩ ∧ Row .u32 w1 g off xs) := Lib.hid (fun hx => by
      obtain ⟨a', c', e, _, _, h3⟩ := H.out
      obtain ⟨rfl, rfl⟩ : a = a' ∧ c = c' := by simpa using e
      obtain ⟨g, off, rfl, hg, hr⟩ := h3 hx
      exact ⟨g, off, rfl, hr.keep HB.out hg⟩)
    clear hown hgrow hO
    refine go_on ?_
    go_wp2_with (refine wpList_copy_splice rfl (.tmp 11) (.tmp 12) 75 75 rfl 96 Tryz.underlying75 size32 (some ⟨w.heap.size, 0, none⟩) a n n xs.length c (by rfl) (by rfl) w.heap.size 0 ((List.replicate n 0).map (fun x => Value.int .u32 ((x : Nat) : Int))) 96 HO.out (xs.map (fun x => Value.int .u32 ((x : Nat) : Int))) (by rw [List.length_map]; exact (Nat.min_eq_left (by omega)).symm) ?_ (by rw [List.length_map, List.length_map, List.length_replicate]; omega) (fun v hv => by obtain ⟨x, _, rfl⟩ := List.mem_map.1 hv; rfl) w.heap.size w HB.out (Nat.le_refl _) ?_)
    · intro hpos
      obtain ⟨g, off, rfl, hr⟩ := HR.out (by rintro rfl; simp at hpos)
      refine ⟨_, rfl, fun j x hx => ?_⟩
      obtain ⟨hj, rfl⟩ := List.getElem?_eq_some_iff.1 hx
      rw [addr_add]; exact hr j hj
    · intro w2 HG hb2
      rw [splice_zeros _ _ _ (by omega)] at HG
      have HB2 := Lib.hid hb2
      clear hb2
      go_wp2
      go_ret
      exact ⟨_, Nat.le_refl _, rfl, HG.out, HB2.out⟩

theorem extended_any (v : Value) (xs : List Nat) (m n : Nat) (hn : n ≤ 60000) (hmn : n = max m xs.length) (w : World) (h : Rd .u32 w v xs) :
    Calls Tryz.prog 69 #[v, .int .i64 m] w (ExtPost xs n w) := by
  obtain ⟨a, c, rfl, _⟩ := id h
  exact extended_to a c xs m n hn (by omega) w h

end Go.Proofs.YtdkpcjfadabkbaaGreatDoor
