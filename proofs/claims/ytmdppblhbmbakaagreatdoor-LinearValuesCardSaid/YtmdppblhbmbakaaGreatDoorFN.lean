/- The mathematics of sums, products and replacements of linear forms. -/
import Derived.Test.YtmdppblhbmbakaaGreatDoorF1
import Derived.Test.YtmdppblhbmbakaaGreatDoorF14
set_option linter.unusedVariables false
set_option linter.unusedSimpArgs false
namespace Go.Proofs.YtmdppblhbmbakaaGreatDoor
open Go.RowKit Go.Maps _root_.Go.Proofs.YtmdppblhbmbakaaGreatDoor.Nm

theorem co_formOf {f : Int → Rat} (h : Good f) : co (formOf f) = f := by
  funext c
  by_cases hc : f c = 0
  · rw [hc]
    by_cases h2 : co (formOf f) c = 0
    · exact h2
    · have e := mem_formOf.1 (co_ne _ c h2)
      have e := e.2.2.1
      dsimp only at e
      rw [e, hc]
  · have hg := (h c hc).1
    exact co_mem _ (formOf_sorted f) (c, f c) (mem_formOf.2 ⟨hg.1, hg.2, rfl, hc⟩)
theorem acc_fo {q : List Qm} (h : Fo q) : acc (fun _ => 0) q = some (co q) := by
  rw [acc_some q _ h.2 (fun p hp => by rw [Rat.zero_add]; exact (h.1 p hp).2.1)]
  congr 1; funext c; exact Rat.zero_add _
theorem sumRes_some {p1 p2 : Rat} {q1 q2 : List Qm} {g : Int → Rat} (h1 : Fo q1) (h2 : Fo q2) (h : sumRes p1 p2 q1 q2 = some g) : rshort (p1 + p2) = true ∧ (g = fun c => co q1 c + co q2 c) ∧ Good g := by
  unfold sumRes at h
  split at h
  · next hs =>
    have hg := acc_good _ _ _ good_zero (fun p hp => by rcases List.mem_append.1 hp with hp | hp; exact (h1.1 p hp).1; exact (h2.1 p hp).1) h
    rw [acc_append, acc_fo h1] at h
    have h : acc (co q1) q2 = some g := h
    refine ⟨hs, ?_, hg⟩
    by_cases hb : ∃ p ∈ q2, rshort (co q1 p.1 + p.2) = false
    · rw [acc_bad q2 _ h2.2 hb] at h; cases h
    · rw [acc_some q2 _ h2.2 (fun p hp => by
        cases hx : rshort (co q1 p.1 + p.2) with
        | true => rfl
        | false => exact absurd ⟨p, hp, hx⟩ hb)] at h
      exact (Option.some.inj h).symm
  · cases h
theorem co_scl (r : Rat) : ∀ (q : List Qm) (c : Int), co (scl r q) c = co q c * r
  | [], c => by rw [show scl r [] = [] from rfl, co_nil, Rat.zero_mul]
  | p :: q, c => by
    rw [show scl r (p :: q) = (p.1, p.2 * r) :: scl r q from rfl, co_cons, co_cons, co_scl r q c]
    split <;> rfl
theorem scl_sorted (r : Rat) {q : List Qm} (h : q.Pairwise (fun a b => a.1 < b.1)) : (scl r q).Pairwise (fun a b => a.1 < b.1) := by
  unfold scl
  rw [List.pairwise_map]; exact h
theorem sclRes_some {p r : Rat} {q : List Qm} {g : Int → Rat} (h1 : Fo q) (h : sclRes p r q = some g) : rshort (p * r) = true ∧ (g = fun c => co q c * r) ∧ Good g := by
  unfold sclRes at h
  split at h
  · next hs =>
    have hg := acc_good _ _ _ good_zero (fun x hx => by obtain ⟨y, hy, rfl⟩ := List.mem_map.1 hx; exact (h1.1 y hy).1) h
    unfold scOk at hs
    rw [Bool.and_eq_true, List.all_eq_true] at hs
    rw [acc_some _ _ (scl_sorted r h1.2) (fun x hx => by obtain ⟨y, hy, rfl⟩ := List.mem_map.1 hx; rw [Rat.zero_add]; exact hs.2 y hy)] at h
    refine ⟨hs.1, ?_, hg⟩
    rw [← Option.some.inj h]
    funext c
    rw [Rat.zero_add, co_scl]
  · cases h
theorem putRes_some {p1 p2 : Rat} {q1 q2 : List Qm} {c : Int} {g : Int → Rat} (h1 : Fo q1) (h2 : Fo q2) (h : putRes p1 p2 q1 q2 c = some g) :
    rshort (p1 + p2 * co q1 c) = true ∧ (g = fun x => co (wo q1 c) x + co q2 x * co q1 c) ∧ Good g := by
  unfold putRes at h
  cases ho : sclRes p2 (co q1 c) q2 with
  | none => rw [ho] at h; cases h
  | some f =>
    rw [ho] at h
    obtain ⟨_, e1, hg⟩ := sclRes_some h2 ho
    have h : sumRes p1 (p2 * co q1 c) (wo q1 c) (formOf f) = some g := h
    obtain ⟨e2, e3, e4⟩ := sumRes_some (h1.wo c) (formOf_fo hg) h
    rw [co_formOf hg, e1] at e3
    exact ⟨e2, e3, e4⟩
theorem val_wo {q : List Qm} (h : Fo q) (c : Nat) (hc : c < 2048) (v : Int → Rat) : val q v = val (wo q c) v + co q c * v c := by
  rw [val_fo h, val_fo (h.wo c)]
  generalize 2048 = n at hc ⊢
  rw [sumTo_one n _ c hc, sumTo_congr n (fun x => if x = (c : Int) then 0 else co q x * v x) (fun x => co (wo q c) x * v x) (fun x _ _ => by
    rw [co_wo]
    split
    · rw [Rat.zero_mul]
    · rfl)]
theorem val_wo_congr {q : List Qm} (h : Fo q) (c : Int) (v v' : Int → Rat) (hv : ∀ x, 0 ≤ x → x ≠ c → v x = v' x) : val (wo q c) v = val (wo q c) v' := by
  rw [val_fo (h.wo c), val_fo (h.wo c)]
  exact sumTo_congr _ _ _ (fun x h0 _ => by
    rw [co_wo]
    split
    · rw [Rat.zero_mul, Rat.zero_mul]
    · next hx => rw [hv x h0 hx])
theorem val_put {q1 q2 : List Qm} (h1 : Fo q1) (h2 : Fo q2) (c : Int) (r : Rat) (v : Int → Rat) : val (formOf fun x => co (wo q1 c) x + co q2 x * r) v = val (wo q1 c) v + val q2 v * r := by
  rw [val_formOf, val_fo (h1.wo c), val_fo h2, ← sumTo_mul, ← sumTo_add]
  exact sumTo_congr _ _ _ (fun x _ _ => by grind)
/-- A column of a sum is one of a part. -/
theorem mem_two {q1 q2 : List Qm} {f : Int → Rat} {p : Qm} (hp : p ∈ formOf f) (hf : co q1 p.1 = 0 → co q2 p.1 = 0 → f p.1 = 0) : (∃ x ∈ q1, x.1 = p.1) ∨ ∃ x ∈ q2, x.1 = p.1 := by
  obtain ⟨_, _, h3, h4⟩ := mem_formOf.1 hp
  by_cases e1 : co q1 p.1 = 0
  · by_cases e2 : co q2 p.1 = 0
    · exact absurd (hf e1 e2) (by rw [← h3]; exact h4)
    · exact .inr ⟨_, co_ne _ _ e2, rfl⟩
  · exact .inl ⟨_, co_ne _ _ e1, rfl⟩

end Go.Proofs.YtmdppblhbmbakaaGreatDoor
