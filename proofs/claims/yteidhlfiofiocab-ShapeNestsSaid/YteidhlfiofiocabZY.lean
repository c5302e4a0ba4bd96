/- The reference's in and twice. -/
import Derived.Test.YteidhlfiofiocabZX
set_option linter.unusedVariables false
set_option linter.unusedSimpArgs false
namespace Go.Proofs.Yteidhlfiofiocab
open Go.RowKit Go.Shelf Go.Maps

theorem infoStr : (Try.prog.info? 9).map (fun i => (i.zero, i.size, i.bytes)) = some (some (.string ⟨#[]⟩), 1, 16) := by kernel_rfl
def strs (l : List ByteArray) : List Value := l.map Value.string
theorem strs_snoc (l : List ByteArray) (x : ByteArray) : strs (l ++ [x]) = strs l ++ [.string x] := by simp [strs]
/-- A row of strings. -/
def SsAt (w : World) (v : Value) (l : List ByteArray) : Prop :=
  ∃ ad n cap, v = .slice ad n cap ∧ n = l.length ∧ (n = 0 ∨ ∃ b off, ad = some ⟨b, off, none⟩ ∧ b < w.heap.size ∧ ∀ (i : Nat) (h : i < l.length), w.cell? ⟨b, off + i, none⟩ = some (.string l[i]))
theorem SsAt.slice {w : World} {v : Value} {l : List ByteArray} (h : SsAt w v l) : ∃ ad cap, v = .slice ad l.length cap := by
  obtain ⟨ad, n, cap, rfl, rfl, _⟩ := h; exact ⟨ad, cap, rfl⟩
theorem SsAt.at {w : World} {ad : Option Addr} {n cap : Nat} {l : List ByteArray} (h : SsAt w (.slice ad n cap) l) (i : Nat) (hi : i < l.length) : ∃ b off, ad = some ⟨b, off, none⟩ ∧ b < w.heap.size ∧ w.cell? ⟨b, off + i, none⟩ = some (.string l[i]) := by
  obtain ⟨ad', n', cap', e, hn, h⟩ := h
  cases e
  rcases h with h | ⟨b, off, rfl, h1, h2⟩
  · omega
  · exact ⟨b, off, rfl, h1, h2 i hi⟩
/-- A row of strings of the call's own. -/
def Sw (B : Nat) (W : World) (v : Value) (l : List ByteArray) : Prop := W.ownsRow B 9 1 v l.length (strs l)
theorem Sw.strings {B : Nat} {W : World} {v : Value} {l : List ByteArray} (h : Sw B W v l) : SsAt W v l := by
  rcases h.2 with ⟨hv, h0⟩ | ⟨g, cap, cur, hv, hg, hgb, hnc, hcm, hcs, htk⟩
  · obtain rfl := List.length_eq_zero_iff.1 h0
    exact ⟨_, _, _, hv, rfl, .inl rfl⟩
  · refine ⟨_, _, _, hv, rfl, .inr ⟨g, 0, rfl, (Array.getElem?_eq_some_iff.1 hgb).1, fun i hi => ?_⟩⟩
    have h1 := congrArg (fun l => l[i]?) htk
    rw [List.getElem?_take_of_lt (by omega)] at h1
    simp only [World.cell?, hgb, Nat.zero_add]
    simpa [strs, hi] using h1
theorem Sw.keep {B : Nat} {W W' : World} {v : Value} {l : List ByteArray} (h : Sw B W v l) (hk : ∀ g, v.ownBlock = some g → W'.heap[g]? = W.heap[g]?) : Sw B W' v l := by
  refine ⟨h.1, ?_⟩
  rcases h.2 with h1 | ⟨g, cap, cur, h3, h4, h5, rest⟩
  · exact .inl h1
  · exact .inr ⟨g, cap, cur, h3, h4, (hk g (by rw [h3]; rfl)).trans h5, rest⟩
/-- Two rows of the call's own, apart. -/
def Two (B : Nat) (W : World) (v o : Value) (l lo : List ByteArray) : Prop := Sw B W v l ∧ Sw B W o lo ∧ ∀ g, v.ownBlock = some g → o.ownBlock = some g → False
theorem Two.swap {B : Nat} {W : World} {v o : Value} {l lo : List ByteArray} (h : Two B W v o l lo) : Two B W o v lo l := ⟨h.2.1, h.1, fun g a b => h.2.2 g b a⟩
theorem Two.push {B : Nat} {W W2 : World} {v v2 o : Value} {l lo : List ByteArray} {x : ByteArray} {tmp : Obj} (h : Two B W v o l lo) (hB : B ≤ W.heap.size)
    (hown : W2.ownsRow B 9 1 v2 (l.length + 1) (strs l ++ [.string x])) (hgrow : (W.alloc tmp).grownBy W2 v.ownBlock) (hloc : v2.ownBlock = v.ownBlock ∨ v2.ownBlock = some (W.alloc tmp).heap.size) :
    Two B W2 v2 o (l ++ [x]) lo ∧ Below B W W2 := by
  obtain ⟨h1, h2, h3⟩ := h
  refine ⟨⟨?_, h2.keep (fun g hg => ?_), fun g a b => ?_⟩, ((Below.refl B W).alloc hB _).grown hgrow (by simp; omega) (fun k hk => (h1.lt k hk).1)⟩
  · unfold Sw
    rw [strs_snoc, List.length_append]
    exact hown
  · have hlt := (h2.lt g hg).2
    rw [hgrow.block g (by simp; omega) (fun e => h3 g e.symm hg), Lib.alloc_old W _ g hlt]
  · rcases hloc with e | e
    · exact h3 g (e.symm.trans a) b
    · have hlt := (h2.lt g b).2
      rw [e] at a
      simp at a
      omega



end Go.Proofs.Yteidhlfiofiocab
