/- How an integer of package wide lies in memory, and what stays of it when other memory changes. -/
import Derived.Test.YtmdppblhbmbakaaGreatDoorN6
import Derived.Test.YtmdppblhbmbakaaGreatDoorD7
set_option linter.unusedVariables false
set_option linter.unusedSimpArgs false
namespace Go.Proofs.YtmdppblhbmbakaaGreatDoor
open Go.RowKit

/-- The old blocks of which P holds are as they were. -/
def Kept (P : Nat → Prop) (w w' : World) : Prop := w.heap.size ≤ w'.heap.size ∧ ∀ k, k < w.heap.size → P k → w'.heap[k]? = w.heap[k]?

theorem Kept.refl (P : Nat → Prop) (w : World) : Kept P w w := ⟨Nat.le_refl _, fun _ _ _ => rfl⟩
theorem Kept.trans {P : Nat → Prop} {a b c : World} (h : Kept P a b) (k : Kept P b c) : Kept P a c :=
  ⟨Nat.le_trans h.1 k.1, fun i hi hp => (k.2 i (Nat.lt_of_lt_of_le hi h.1) hp).trans (h.2 i hi hp)⟩
theorem Kept.mono {P Q : Nat → Prop} {w w' : World} (h : Kept P w w') (hq : ∀ k, k < w.heap.size → Q k → P k) : Kept Q w w' := ⟨h.1, fun k hk hp => h.2 k hk (hq k hk hp)⟩
theorem Kept.below {P : Nat → Prop} {B : Nat} {w w' : World} (h : Below B w w') (hB : ∀ k, k < w.heap.size → P k → k < B) : Kept P w w' := ⟨h.size, fun k hk hp => h.block k (hB k hk hp)⟩
theorem Kept.all {P : Nat → Prop} {w w' : World} (h : Below w.heap.size w w') : Kept P w w' := .below h fun _ hk _ => hk
theorem Kept.only {P : Nat → Prop} {b : Nat} {w w' : World} (h : Only b w w') (hb : ¬ P b) : Kept P w w' := ⟨by rw [h.size]; exact Nat.le_refl _, fun k _ hp => h.block k (fun e => hb (e ▸ hp))⟩
theorem Kept.set {P : Nat → Prop} (w : World) (b i : Nat) (u : Value) (hb : ¬ P b) : Kept P w (w.setCell ⟨b, i, none⟩ u) := .only ((Only.refl b w).set i u) hb
theorem Kept.alloc (P : Nat → Prop) (w : World) (x : Obj) : Kept P w (w.alloc x) := .all ((Below.refl _ _).alloc (Nat.le_refl _) x)
theorem Kept.drew (P : Nat → Prop) (w : World) : Kept P w w.drew := ⟨Nat.le_refl _, fun _ _ _ => rfl⟩
theorem Kept.drewN (P : Nat → Prop) (w : World) (n : Nat) : Kept P w (w.drewN n) := ⟨Nat.le_refl _, fun _ _ _ => rfl⟩

/-- The cells of a slice lie in a block of which P holds. -/
def In (P : Nat → Prop) (v : Value) : Prop := ∀ (ad : Addr) (n c : Nat), v = .slice (some ad) n c → 0 < n → P ad.block

theorem In.mono {P Q : Nat → Prop} {v : Value} (h : In P v) (hq : ∀ k, P k → Q k) : In Q v := fun ad n c e hn => hq _ (h ad n c e hn)
theorem In.fresh {P : Nat → Prop} {B : Nat} {v : Value} (h : Fr B v) (hP : ∀ k, B ≤ k → P k) : In P v := fun ad n c e hn => hP _ (h ad n c e hn)

theorem Rd.kept {P : Nat → Prop} {k : IntKind} {w w' : World} {v : Value} {xs : List Nat} (h : Rd k w v xs) (hi : In P v) (hk : Kept P w w') : Rd k w' v xs := by
  obtain ⟨a, c, rfl, h1, h2, h3⟩ := h
  refine ⟨a, c, rfl, h1, h2, fun hx => ?_⟩
  obtain ⟨g, off, rfl, h4, h5⟩ := h3 hx
  have hp : P g := hi _ _ _ rfl (List.length_pos_iff.2 hx)
  exact ⟨g, off, rfl, Nat.lt_of_lt_of_le h4 hk.1, fun i hi => (World.cell?_of_block (w := w) (hk.2 g h4 hp)).trans (h5 i hi)⟩

/-- The sign of an integer. -/
def isNeg (z : Int) : Bool := decide (z < 0)

/-- What lies behind the pointer of a long integer. -/
def Far (P : Nat → Prop) (w : World) (g : Nat) (neg : Bool) (sv : Value) (n : Nat) : Prop :=
  g < w.heap.size ∧ P g ∧ In P sv ∧ w.heap[g]? = some (.cells #[.bool neg, sv] 196 (0, 0)) ∧ IsNat w sv n

/-- A value that is the integer z; what it consists of lies in blocks of which P holds. -/
def IsInt (P : Nat → Prop) (w : World) (v : Value) (z : Int) : Prop :=
  (z.natAbs < 1000000000000000000 ∧ v = .agg #[.int .i64 z, .pointer none]) ∨
  (1000000000000000000 ≤ z.natAbs ∧ ∃ g sv, v = .agg #[.int .i64 0, .pointer (some ⟨g, 0, none⟩)] ∧ Far P w g (isNeg z) sv z.natAbs)

theorem Far.kept {P : Nat → Prop} {w w' : World} {g n : Nat} {neg : Bool} {sv : Value} (h : Far P w g neg sv n) (hk : Kept P w w') : Far P w' g neg sv n := by
  obtain ⟨h1, h2, h3, h4, h5⟩ := h
  exact ⟨Nat.lt_of_lt_of_le h1 hk.1, h2, h3, (hk.2 g h1 h2).trans h4, Rd.kept h5 h3 hk⟩

theorem Far.cells {P : Nat → Prop} {w : World} {g n : Nat} {neg : Bool} {sv : Value} (h : Far P w g neg sv n) : w.cell? ⟨g, 0, none⟩ = some (.bool neg) ∧ w.cell? ⟨g, 1, none⟩ = some sv := by
  obtain ⟨_, _, _, h4, _⟩ := h
  simp [World.cell?, h4]

theorem IsInt.kept {P : Nat → Prop} {w w' : World} {v : Value} {z : Int} (h : IsInt P w v z) (hk : Kept P w w') : IsInt P w' v z := by
  rcases h with h | ⟨h1, g, sv, rfl, h2⟩
  · exact .inl h
  · exact .inr ⟨h1, g, sv, rfl, h2.kept hk⟩

/-- Where the parts lie is said of old blocks alone. -/
theorem In.lt {P : Nat → Prop} {w : World} {v : Value} {n : Nat} (h : In P v) (hn : IsNat w v n) : In (fun k => P k ∧ k < w.heap.size) v := by
  intro ad m c e hm
  refine ⟨h ad m c e hm, ?_⟩
  obtain ⟨a, c', e2, _, _, h3⟩ := hn
  subst e
  simp only [Value.slice.injEq] at e2
  obtain ⟨rfl, rfl, rfl⟩ := e2
  obtain ⟨g, off, e3, hg, _⟩ := h3 (by rintro h; rw [h] at hm; simp at hm)
  cases e3
  exact hg

theorem Far.mono {P Q : Nat → Prop} {w : World} {g n : Nat} {neg : Bool} {sv : Value} (h : Far P w g neg sv n) (hq : ∀ k, k < w.heap.size → P k → Q k) : Far Q w g neg sv n := by
  obtain ⟨h1, h2, h3, h4, h5⟩ := h
  exact ⟨h1, hq g h1 h2, (h3.lt h5).mono (fun k hk => hq k hk.2 hk.1), h4, h5⟩

theorem IsInt.mono {P Q : Nat → Prop} {w : World} {v : Value} {z : Int} (h : IsInt P w v z) (hq : ∀ k, k < w.heap.size → P k → Q k) : IsInt Q w v z := by
  rcases h with h | ⟨h1, g, sv, rfl, h2⟩
  · exact .inl h
  · exact .inr ⟨h1, g, sv, rfl, h2.mono hq⟩

/-- The form of the value. -/
theorem IsInt.form {P : Nat → Prop} {w : World} {v : Value} {z : Int} (h : IsInt P w v z) : ∃ s p, v = .agg #[.int .i64 s, .pointer p] := by
  rcases h with ⟨_, rfl⟩ | ⟨_, g, sv, rfl, _⟩
  · exact ⟨_, _, rfl⟩
  · exact ⟨_, _, rfl⟩

theorem IsNat.slice {w : World} {v : Value} {n : Nat} (h : IsNat w v n) : ∃ a m c, v = .slice a m c := by
  obtain ⟨a, c, rfl, _⟩ := h
  exact ⟨a, _, c, rfl⟩

/-- The call returns the integer z; nothing that was there has changed. -/
def IntPost (P : Nat → Prop) (z : Int) (w : World) (e : Ending) (w' : World) : Prop := ∃ v, e = .returned v ∧ IsInt P w' v z ∧ Below w.heap.size w w'

/-- Two limbs are what is below the square of the base. -/
theorem limbs_two (n : Nat) : decide (2 < (Nm.ds 1000000000 n).length) = decide (1000000000000000000 ≤ n) := by
  by_cases h : 1000000000000000000 ≤ n
  · have := Nm.ds_length_ge 1000000000 (by omega) n 2 (by omega)
    simp [h]; omega
  · have := Nm.ds_length_le 1000000000 (by omega) n 2 (by omega)
    simp [h]; omega

end Go.Proofs.YtmdppblhbmbakaaGreatDoor
