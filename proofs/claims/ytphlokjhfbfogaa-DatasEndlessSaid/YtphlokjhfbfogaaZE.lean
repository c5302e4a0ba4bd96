/- What a type reaches: the mathematics. -/
import Derived.Test.YtphlokjhfbfogaaZ1
set_option linter.unusedVariables false
set_option linter.unusedSimpArgs false
namespace Go.Proofs.Ytphlokjhfbfogaa
open Go.RowKit

namespace Dt
def fieldsOf (d : List DataM) (t : Int) : List Int := (consOf d t).flatMap (·.fields)
/-- What a type adds to the types met so far, at most so many calls deep. -/
def reachF (d : List DataM) : Nat → Int → List Int → List Int
  | 0, _, l => l
  | k + 1, t, l => if ok d t = true ∧ ¬ t ∈ l then (fieldsOf d t).foldl (fun l f => reachF d k f l) (l ++ [t]) else l
/-- How many types are still to be met. -/
def unmet (d : List DataM) (l : List Int) : Nat := (List.range (d.length + 1)).countP (fun t : Nat => decide (¬ (t : Int) ∈ l))

theorem unmet_mono (d : List DataM) {l l' : List Int} (h : ∀ x ∈ l, x ∈ l') : unmet d l' ≤ unmet d l := by
  unfold unmet
  apply List.countP_mono_left
  intro t _ ht
  simp only [decide_eq_true_eq] at ht ⊢
  exact fun hx => ht (h _ hx)
theorem countP_lt {α : Type} {p q : α → Bool} : ∀ (l : List α), (∀ x ∈ l, p x = true → q x = true) → ∀ a ∈ l, p a = false → q a = true → l.countP p < l.countP q
  | [], _, a, h, _, _ => by cases h
  | x :: l, hpq, a, ha, h1, h2 => by
    have hle : l.countP p ≤ l.countP q := List.countP_mono_left (fun x hx => hpq x (List.mem_cons_of_mem _ hx))
    rcases List.mem_cons.1 ha with rfl | ha
    · rw [List.countP_cons_of_neg (by simp [h1]), List.countP_cons_of_pos h2]; omega
    · have ih := countP_lt l (fun x hx => hpq x (List.mem_cons_of_mem _ hx)) a ha h1 h2
      rw [List.countP_cons, List.countP_cons]
      have : (if p x = true then 1 else 0) ≤ (if q x = true then 1 else 0) := by
        by_cases hp : p x = true
        · simp [hp, hpq x (by simp) hp]
        · simp [hp]
      omega
theorem unmet_snoc (d : List DataM) {t : Int} {l : List Int} (h : ok d t = true) (hn : ¬ t ∈ l) : unmet d (l ++ [t]) < unmet d l := by
  simp [ok] at h
  unfold unmet
  refine countP_lt _ (fun x _ hx => ?_) t.toNat (by rw [List.mem_range]; omega) ?_ ?_
  · simp at hx ⊢; exact hx.1
  · have e : ((t.toNat : Nat) : Int) = t := by omega
    rw [e]
    simp
  · simp only [decide_eq_true_eq]; rw [show ((t.toNat : Nat) : Int) = t by omega]; exact hn
theorem foldl_sub {f : List Int → Int → List Int} (hf : ∀ l x y, y ∈ l → y ∈ f l x) : ∀ (fs : List Int) (l : List Int) y, y ∈ l → y ∈ fs.foldl f l
  | [], l, y, h => h
  | x :: fs, l, y, h => foldl_sub hf fs (f l x) y (hf l x y h)
theorem reach_sub (d : List DataM) : ∀ (k : Nat) (t : Int) (l : List Int) y, y ∈ l → y ∈ reachF d k t l
  | 0, t, l, y, h => h
  | k + 1, t, l, y, h => by
    rw [reachF]
    split
    · exact foldl_sub (fun l x y h => reach_sub d k x l y h) _ _ _ (List.mem_append_left _ h)
    · exact h
theorem reach_unmet (d : List DataM) (k : Nat) (t : Int) (l : List Int) : unmet d (reachF d k t l) ≤ unmet d l := unmet_mono d (fun x hx => reach_sub d k t l x hx)
theorem fold_unmet (d : List DataM) (k : Nat) (fs : List Int) (l : List Int) : unmet d (fs.foldl (fun l f => reachF d k f l) l) ≤ unmet d l :=
  unmet_mono d (fun x hx => foldl_sub (fun l x y h => reach_sub d k x l y h) fs l x hx)
theorem unmet_le (d : List DataM) (l : List Int) : unmet d l ≤ d.length + 1 := by
  unfold unmet
  have := List.countP_le_length (p := fun t : Nat => decide (¬ (t : Int) ∈ l)) (l := List.range (d.length + 1))
  simpa using this

/-- All is good: every type met exists, none is met twice. -/
theorem reach_good (d : List DataM) : ∀ (k : Nat) (t : Int) (l : List Int), (∀ x ∈ l, ok d x = true) → l.Nodup → (∀ x ∈ reachF d k t l, ok d x = true) ∧ (reachF d k t l).Nodup
  | 0, t, l, h1, h2 => ⟨h1, h2⟩
  | k + 1, t, l, h1, h2 => by
    rw [reachF]
    split
    next h =>
      have key : ∀ (fs : List Int) (l : List Int), (∀ x ∈ l, ok d x = true) → l.Nodup → (∀ x ∈ fs.foldl (fun l f => reachF d k f l) l, ok d x = true) ∧ (fs.foldl (fun l f => reachF d k f l) l).Nodup := by
        intro fs
        induction fs with
        | nil => intro l a b; exact ⟨a, b⟩
        | cons f fs ih => intro l a b; exact ih _ (reach_good d k f l a b).1 (reach_good d k f l a b).2
      refine key _ _ ?_ ?_
      · intro x hx
        rcases List.mem_append.1 hx with hx | hx
        · exact h1 x hx
        · rw [List.mem_singleton.1 hx]; exact h.1
      · rw [List.nodup_append]
        exact ⟨h2, by simp, fun a ha b hb => by rw [List.mem_singleton.1 hb]; rintro rfl; exact h.2 ha⟩
    next h => exact ⟨h1, h2⟩
theorem foldl_prefix {f : List Int → Int → List Int} (hf : ∀ l x, l <+: f l x) : ∀ (fs : List Int) (l : List Int), l <+: fs.foldl f l
  | [], l => List.prefix_refl l
  | x :: fs, l => (hf l x).trans (foldl_prefix hf fs (f l x))
theorem reach_prefix (d : List DataM) : ∀ (k : Nat) (t : Int) (l : List Int), l <+: reachF d k t l
  | 0, t, l => List.prefix_refl l
  | k + 1, t, l => by
    rw [reachF]
    split
    · exact (List.prefix_append l [t]).trans (foldl_prefix (fun l x => reach_prefix d k x l) _ _)
    · exact List.prefix_refl l

/-- With calls enough the type is met, and with each type that is new all its fields that exist. -/
theorem reach_closed (d : List DataM) : ∀ (k : Nat) (t : Int) (l : List Int), unmet d l < k → (ok d t = true → t ∈ reachF d k t l) ∧ ∀ x ∈ reachF d k t l, x ∈ l ∨ ∀ f ∈ fieldsOf d x, ok d f = true → f ∈ reachF d k t l
  | 0, t, l, h => absurd h (Nat.not_lt_zero _)
  | k + 1, t, l, h => by
    rw [reachF]
    split
    next hc =>
      have hs := unmet_snoc d hc.1 hc.2
      have key : ∀ (fs : List Int) (l0 : List Int), unmet d l0 < k → (∀ f ∈ fs, ok d f = true → f ∈ fs.foldl (fun l f => reachF d k f l) l0) ∧ ∀ x ∈ fs.foldl (fun l f => reachF d k f l) l0, x ∈ l0 ∨ ∀ f ∈ fieldsOf d x, ok d f = true → f ∈ fs.foldl (fun l f => reachF d k f l) l0 := by
        intro fs
        induction fs with
        | nil => intro l0 _; exact ⟨fun f hf => by simp at hf, fun x hx => .inl hx⟩
        | cons f fs ih =>
          intro l0 hl
          have h1 := reach_closed d k f l0 hl
          have h2 := ih (reachF d k f l0) (Nat.lt_of_le_of_lt (reach_unmet d k f l0) hl)
          have sub : ∀ y, y ∈ reachF d k f l0 → y ∈ fs.foldl (fun l f => reachF d k f l) (reachF d k f l0) := fun y hy => foldl_sub (fun l x y h => reach_sub d k x l y h) fs _ y hy
          refine ⟨fun g hg hok => ?_, fun x hx => ?_⟩
          · rcases List.mem_cons.1 hg with rfl | hg
            · exact sub _ (h1.1 hok)
            · exact h2.1 g hg hok
          · rcases h2.2 x hx with hx2 | hx2
            · rcases h1.2 x hx2 with hx3 | hx3
              · exact .inl hx3
              · exact .inr fun g hg hok => sub _ (hx3 g hg hok)
            · exact .inr hx2
      have hk := key (fieldsOf d t) (l ++ [t]) (by omega)
      refine ⟨fun _ => foldl_sub (fun l x y h => reach_sub d k x l y h) _ _ _ (by simp), fun x hx => ?_⟩
      rcases hk.2 x hx with hx2 | hx2
      · rcases List.mem_append.1 hx2 with hx3 | hx3
        · exact .inl hx3
        · rw [List.mem_singleton.1 hx3]
          exact .inr hk.1
      · exact .inr hx2
    next hc =>
      refine ⟨fun hok => ?_, fun x hx => .inl hx⟩
      exact Classical.byContradiction fun hn => hc ⟨hok, hn⟩

/-- A way from one type to another by fields. -/
inductive Way (d : List DataM) : Int → Int → Prop
  | here (t : Int) (h : ok d t = true) : Way d t t
  | on (t f x : Int) (h : ok d t = true) (hf : f ∈ fieldsOf d t) (hw : Way d f x) : Way d t x
theorem Way.last {d : List DataM} {t x f : Int} (h : Way d t x) (hf : f ∈ fieldsOf d x) (hok : ok d f = true) : Way d t f := by
  induction h with
  | here t h => exact .on t f f h hf (.here f hok)
  | on t g x h hg hw ih => exact .on t g f h hg (ih hf)
/-- What is new has a way. -/
theorem reach_way (d : List DataM) : ∀ (k : Nat) (t : Int) (l : List Int), ∀ x ∈ reachF d k t l, x ∈ l ∨ Way d t x
  | 0, t, l, x, hx => .inl hx
  | k + 1, t, l, x, hx => by
    rw [reachF] at hx
    split at hx
    next hc =>
      have key : ∀ (fs : List Int) (l0 : List Int), (∀ f ∈ fs, f ∈ fieldsOf d t) → ∀ x ∈ fs.foldl (fun l f => reachF d k f l) l0, x ∈ l0 ∨ Way d t x := by
        intro fs
        induction fs with
        | nil => intro l0 _ x hx; exact .inl hx
        | cons f fs ih =>
          intro l0 hs x hx
          rcases ih _ (fun g hg => hs g (by simp [hg])) x hx with h | h
          · rcases reach_way d k f l0 x h with h | h
            · exact .inl h
            · exact .inr (.on t f x hc.1 (hs f (by simp)) h)
          · exact .inr h
      rcases key _ _ (fun f hf => hf) x hx with h | h
      · rcases List.mem_append.1 h with h | h
        · exact .inl h
        · rw [List.mem_singleton.1 h]; exact .inr (.here t hc.1)
      · exact .inr h
    next hc => exact .inl hx
theorem way_reach {d : List DataM} {k : Nat} {t x : Int} (hk : unmet d [] < k) (h : Way d t x) : x ∈ reachF d k t [] := by
  have hc := reach_closed d k t [] hk
  have key : ∀ {a b : Int}, Way d a b → a ∈ reachF d k t [] → b ∈ reachF d k t [] := by
    intro a b hw
    induction hw with
    | here _ _ => exact fun h => h
    | on a f b ha hf hw ih =>
      intro hm
      refine ih ?_
      rcases hc.2 a hm with h0 | h0
      · cases h0
      · refine h0 f hf ?_
        cases hw with
        | here _ h => exact h
        | on _ _ _ h _ _ => exact h
  have h0 : ok d t = true := by
    cases h with
    | here _ h => exact h
    | on _ _ _ h _ _ => exact h
  exact key h (hc.1 h0)
theorem mem_reach {d : List DataM} {k : Nat} {t x : Int} (hk : unmet d [] < k) : x ∈ reachF d k t [] ↔ Way d t x :=
  ⟨fun h => by rcases reach_way d k t [] x h with h | h; (· cases h); exact h, way_reach hk⟩

/-- A type is among the fields of a type that it reaches exactly if one of its fields reaches it. -/
theorem recursive_iff {d : List DataM} {t : Int} : (∃ x, Way d t x ∧ t ∈ fieldsOf d x) ↔ (∃ f ∈ fieldsOf d t, Way d f t) ∧ ok d t = true := by
  constructor
  · rintro ⟨x, hw, hx⟩
    have h0 : ok d t = true := by
      cases hw with
      | here _ h => exact h
      | on _ _ _ h _ _ => exact h
    refine ⟨?_, h0⟩
    cases hw with
    | here _ h => exact ⟨t, hx, .here t h0⟩
    | on _ f _ h hf hw => exact ⟨f, hf, hw.last hx h0⟩
  · rintro ⟨⟨f, hf, hw⟩, h0⟩
    have key : ∀ {a b : Int}, Way d a b → ∃ x, (x = t ∨ Way d t x) ∧ True := fun _ => ⟨t, .inl rfl, trivial⟩
    -- the last step of the way from f to t
    have last : ∀ {a b : Int}, Way d a b → a ∈ fieldsOf d t → b = t → ∃ x, Way d t x ∧ t ∈ fieldsOf d x := by
      intro a b hw
      have gen : ∀ {a b : Int}, Way d a b → ∀ s, Way d t s → a ∈ fieldsOf d s → b = t → ∃ x, Way d t x ∧ t ∈ fieldsOf d x := by
        intro a b hw
        induction hw with
        | here a h => intro s hs ha e; subst e; exact ⟨s, hs, ha⟩
        | on a g b h hg hw ih => intro s hs ha e; exact ih a (hs.last ha h) hg e
      intro ha e
      exact gen hw t (.here t h0) ha e
    exact last hw hf rfl
end Dt

end Go.Proofs.Ytphlokjhfbfogaa
