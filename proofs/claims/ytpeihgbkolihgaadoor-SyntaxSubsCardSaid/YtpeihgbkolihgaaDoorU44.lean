/- The tree below a leaf is a valid tree. -/
import Derived.Test.YtpeihgbkolihgaaDoorU43
set_option linter.unusedVariables false
set_option linter.unusedSimpArgs false
namespace Go.Proofs.YtpeihgbkolihgaaDoor

namespace Sx
/-- Leaves of two tables that look alike to a parent. -/
def Sim (M L : List LeafM) (p q : Int) : Prop := (leafOf M p).kind = (leafOf L q).kind ∧ (leafOf M p).kids.length = (leafOf L q).kids.length
theorem takeF_sim {M L : List LeafM} (g : Grp) : ∀ (ps qs : List Int) (c : Nat), all2 (Sim M L) ps qs → takeF M g ps c = takeF L g qs c
  | [], [], _, _ => rfl
  | [], u :: q, _, h => h.elim
  | t :: l, [], _, h => h.elim
  | t :: l, u :: q, c, h => by rw [takeF, takeF, h.1.1, takeF_sim g l q (c + 1) h.2]
theorem all2_drop {R : Int → Int → Prop} : ∀ (n : Nat) (ps qs : List Int), all2 R ps qs → all2 R (ps.drop n) (qs.drop n)
  | 0, _, _, h => h
  | _ + 1, [], [], _ => trivial
  | _ + 1, [], u :: q, h => h.elim
  | _ + 1, t :: l, [], h => h.elim
  | n + 1, t :: l, u :: q, h => all2_drop n l q h.2
theorem kidsFit_sim {M L : List LeafM} : ∀ (gs : List Grp) (ps qs : List Int), all2 (Sim M L) ps qs → kidsFit M gs ps = kidsFit L gs qs
  | [], ps, qs, h => by rw [kidsFit, kidsFit, all2_len _ _ h]
  | g :: gs, ps, qs, h => by rw [kidsFit, kidsFit, takeF_sim g ps qs 0 h, kidsFit_sim gs _ _ (all2_drop _ _ _ h)]
theorem cntF_sim {M L : List LeafM} : ∀ (ps qs : List Int) (c : Nat), all2 (Sim M L) ps qs → cntF M ps c = cntF L qs c
  | [], [], _, _ => rfl
  | [], u :: q, _, h => h.elim
  | t :: l, [], _, h => h.elim
  | t :: l, u :: q, c, h => by rw [cntF, cntF, h.1.1, h.1.2, cntF_sim l q (c + 1) h.2, cntF_sim l q c h.2]
/-- A leaf has the form of its kind where its kids look alike. -/
theorem leafOk_sim {M L : List LeafM} {x y : LeafM} (h1 : x.kind = y.kind) (h2 : x.text = y.text) (h3 : x.num = y.num) (h4 : all2 (Sim M L) x.kids y.kids) (hy : leafOk L y = true) (hs : 0 ≤ x.frm ∧ x.frm ≤ x.to ∧ x.to ≤ 65536) : leafOk M x = true := by
  unfold leafOk at hy ⊢
  simp only [Bool.and_eq_true] at hy ⊢
  refine ⟨by rw [h1]; exact hy.1, decide_eq_true hs.1, decide_eq_true hs.2.1, decide_eq_true hs.2.2, by rw [h1, h2]; exact hy.2.2.2.2.1, by rw [h1, kidsFit_sim _ _ _ h4]; exact hy.2.2.2.2.2.1, ?_⟩
  rw [h1]
  have h := hy.2.2.2.2.2.2
  unfold fitsNum fitsCount at h ⊢
  rw [h3, cntF_sim _ _ _ h4]
  exact h
theorem leafOk_span {L : List LeafM} {x : LeafM} (h : leafOk L x = true) : 0 ≤ x.frm ∧ x.frm ≤ x.to ∧ x.to ≤ 65536 := by
  unfold leafOk at h
  simp only [Bool.and_eq_true, decide_eq_true_eq] at h
  exact ⟨h.2.1, h.2.2.1, h.2.2.2.1⟩
theorem all2_mono {R S : Int → Int → Prop} (h : ∀ p q, R p q → S p q) : ∀ (l m : List Int), all2 R l m → all2 S l m
  | [], [], _ => trivial
  | [], u :: q, h => h.elim
  | t :: l, [], h => h.elim
  | t :: l, u :: q, hh => ⟨h t u hh.1, all2_mono h l q hh.2⟩

/-- What a part of a table in preorder is. -/
structure Part (M L : List LeafM) (k : Nat) (b : Nat) (t : Int) : Prop where
  hh : Hh M k (b : Int)
  pre : pre M k (b : Int) = List.range' b (sizeF L k t)
  ht : ht M k (b : Int) = ht L k t
  eqv : Eqv M L k k (b : Int) t
  ok : ∀ j, j < sizeF L k t → (∀ x ∈ L, leafOk L x = true) → ∀ x, M[b + j]? = some x → leafOk M x = true
theorem part_kids {M L : List LeafM} {k : Nat} (ih : ∀ (t : Int) (b : Nat) (P S : List LeafM), Hh L k t → M = P ++ (flat L k t b ++ S) → P.length = b → Part M L k b t) :
    ∀ (l : List Int) (c : Nat) (P S : List LeafM), M = P ++ (flatK (flat L k) (sizeF L k) l c ++ S) → P.length = c → (∀ q ∈ l, Hh L k q) →
      (∀ p ∈ posK (sizeF L k) l c, Hh M k p) ∧ (posK (sizeF L k) l c).flatMap (Sx.pre M k) = List.range' c (szL (sizeF L k) l) ∧ (posK (sizeF L k) l c).map (fun q => Sx.ht M k q + 1) = l.map (fun q => Sx.ht L k q + 1) ∧ all2 (Eqv M L k k) (posK (sizeF L k) l c) l ∧
      ∀ j, j < szL (sizeF L k) l → (∀ x ∈ L, leafOk L x = true) → ∀ x, M[c + j]? = some x → leafOk M x = true
  | [], c, P, S, _, _, _ => ⟨fun p hp => (by cases hp), rfl, rfl, trivial, fun j hj => absurd hj (Nat.not_lt_zero _)⟩
  | q :: l, c, P, S, hM, hP, hl => by
    have hq := ih q c P (flatK (flat L k) (sizeF L k) l (c + sizeF L k q) ++ S) (hl q (by simp)) (by rw [hM, flatK, List.append_assoc]) hP
    have hr := part_kids ih l (c + sizeF L k q) (P ++ flat L k q c) S (by rw [hM, flatK]; simp) (by rw [List.length_append, hP, flat_len]) (fun x hx => hl x (by simp [hx]))
    rw [posK, szL]
    refine ⟨fun p hp => ?_, ?_, ?_, ⟨hq.eqv, hr.2.2.2.1⟩, fun j hj hA x hx => ?_⟩
    · rcases List.mem_cons.1 hp with rfl | hp
      · exact hq.hh
      · exact hr.1 p hp
    · rw [List.flatMap_cons, hq.pre, hr.2.1, List.range'_append_1]
    · rw [List.map_cons, List.map_cons, hr.2.2.1, hq.ht]
    · by_cases h : j < sizeF L k q
      · exact hq.ok j h hA x hx
      · refine hr.2.2.2.2 (j - sizeF L k q) (by omega) hA x ?_
        rw [← hx]
        congr 1
        omega
theorem leafOf_at {M : List LeafM} {b : Nat} {x : LeafM} (h : M[b]? = some x) : leafOf M (b : Int) = x := by
  unfold leafOf
  rw [Int.toNat_natCast, h]
  rfl
theorem isLeaf_at {M : List LeafM} {b : Nat} {x : LeafM} (h : M[b]? = some x) : isLeaf M (b : Int) = true := by
  have := (List.getElem?_eq_some_iff.1 h).1
  exact (isLeaf_iff M b).2 ⟨by omega, by omega⟩
theorem eqv_sim {M L : List LeafM} {k m : Nat} {p q : Int} (h : Eqv M L k m p q) (hp : isLeaf M p = true) (hq : isLeaf L q = true) : Sim M L p q := by
  cases k with
  | zero => cases h
  | succ k =>
    cases m with
    | zero => cases h
    | succ m => exact ⟨h.1.1, by rw [← kidsOf_leaf hp, ← kidsOf_leaf hq]; exact all2_len _ _ h.2⟩
theorem hh_leaf {L : List LeafM} {k : Nat} {t : Int} (h : Hh L k t) : isLeaf L t = true := by
  cases k with
  | zero => exact h.elim
  | succ k => exact h.1
theorem all2_sim {M L : List LeafM} {k m : Nat} : ∀ (l q : List Int), all2 (Eqv M L k m) l q → (∀ p ∈ l, isLeaf M p = true) → (∀ p ∈ q, isLeaf L p = true) → all2 (Sim M L) l q
  | [], [], _, _, _ => trivial
  | [], u :: q, h, _, _ => h.elim
  | t :: l, [], h, _, _ => h.elim
  | t :: l, u :: q, h, h1, h2 => ⟨eqv_sim h.1 (h1 t (by simp)) (h2 u (by simp)), all2_sim l q h.2 (fun p hp => h1 p (by simp [hp])) (fun p hp => h2 p (by simp [hp]))⟩
theorem part {M L : List LeafM} : ∀ (k : Nat) (t : Int) (b : Nat) (P S : List LeafM), Hh L k t → M = P ++ (flat L k t b ++ S) → P.length = b → Part M L k b t
  | 0, _, _, _, _, h, _, _ => h.elim
  | k + 1, t, b, P, S, h, hM, hP => by
    rw [flat, List.cons_append] at hM
    obtain ⟨X, hX⟩ : ∃ X : LeafM, { leafOf L t with kids := posK (sizeF L k) (kidsOf L t) (b + 1) } = X := ⟨_, rfl⟩
    have x1 : X.kind = (leafOf L t).kind := by rw [← hX]
    have x2 : X.text = (leafOf L t).text := by rw [← hX]
    have x3 : X.num = (leafOf L t).num := by rw [← hX]
    have x4 : X.kids = posK (sizeF L k) (kidsOf L t) (b + 1) := by rw [← hX]
    have x5 : X.frm = (leafOf L t).frm := by rw [← hX]
    have x6 : X.to = (leafOf L t).to := by rw [← hX]
    rw [hX] at hM
    clear hX
    have hx : M[b]? = some X := by
      rw [hM, List.getElem?_append_right (by omega), hP, Nat.sub_self]
      rfl
    have hr := part_kids (M := M) (fun t b P S => part k t b P S) (kidsOf L t) (b + 1) (P ++ [X]) S (by rw [hM]; simp) (by rw [List.length_append, hP]; rfl) h.2
    have hkm : kidsOf M (b : Int) = posK (sizeF L k) (kidsOf L t) (b + 1) := by rw [kidsOf_leaf (isLeaf_at hx), leafOf_at hx, x4]
    have hsz : sizeF L (k + 1) t = szL (sizeF L k) (kidsOf L t) + 1 := sizeF_succ L k t
    have hokX : (∀ x ∈ L, leafOk L x = true) → leafOk M X = true := fun hA => by
      have hok := hA _ (leafOf_mem h.1)
      have hsp := leafOk_span hok
      rw [← x5, ← x6] at hsp
      refine leafOk_sim (M := M) (L := L) (x := X) (y := leafOf L t) x1 x2 x3 ?_ hok hsp
      rw [x4, ← kidsOf_leaf h.1]
      exact all2_sim _ _ hr.2.2.2.1 (fun p hp => hh_leaf (hr.1 p hp)) (fun p hp => hh_leaf (h.2 p hp))
    refine ⟨⟨isLeaf_at hx, by rw [hkm]; exact hr.1⟩, ?_, ?_, ⟨?_, by rw [hkm]; exact hr.2.2.2.1⟩, fun j hj hA x hxx => ?_⟩
    · rw [Sx.pre, hkm, hr.2.1, hsz, Int.toNat_natCast, List.range'_succ]
    · rw [Sx.ht, Sx.ht, hkm, hr.2.2.1]
    · rw [leafOf_at hx]
      exact ⟨x1, x2, x3⟩
    · cases j with
      | zero =>
        rw [Nat.add_zero, hx] at hxx
        rw [← Option.some.inj hxx]
        exact hokX hA
      | succ j => exact hr.2.2.2.2 j (by omega) hA x (by rw [← hxx]; congr 1; omega)

theorem pre_ht {L : List LeafM} : ∀ {k : Nat} {t : Int}, Hh L k t → ∀ i ∈ pre L k t, ht L k (i : Int) ≤ ht L k t
  | 0, _, h => h.elim
  | k + 1, t, h => fun i hi => by
    rw [pre, List.mem_cons] at hi
    rcases hi with rfl | hi
    · have h1 := (isLeaf_iff L t).1 h.1
      rw [Int.toNat_of_nonneg h1.1]
      exact Int.le_refl _
    · obtain ⟨q, hq, hi⟩ := List.mem_flatMap.1 hi
      rw [((sub_hh (h.2 q hq) i hi).mono (Nat.le_succ _)).2.2]
      have h1 := pre_ht (h.2 q hq) i hi
      have h2 := maxL_ge (l := (kidsOf L t).map (fun q => ht L k q + 1)) (x := ht L k q + 1) (List.mem_map.2 ⟨q, hq, rfl⟩)
      rw [ht]
      omega
/-- The text of a part is a part of the text. -/
theorem pre_dump {L : List LeafM} : ∀ {k : Nat} {t : Int}, Hh L k t → ∀ i ∈ pre L k t, ∃ a b, dumpF L k t = a ++ (dumpF L k (i : Int) ++ b)
  | 0, _, h => h.elim
  | k + 1, t, h => fun i hi => by
    rw [pre, List.mem_cons] at hi
    rcases hi with rfl | hi
    · have h1 := (isLeaf_iff L t).1 h.1
      rw [Int.toNat_of_nonneg h1.1]
      exact ⟨[], [], by simp⟩
    · obtain ⟨q, hq, hi⟩ := List.mem_flatMap.1 hi
      rw [(sub_hh (h.2 q hq) i hi).dump (Nat.le_succ _)]
      obtain ⟨a, b, e⟩ := pre_dump (h.2 q hq) i hi
      obtain ⟨l1, l2, hl⟩ := List.append_of_mem hq
      rw [dumpF, hl, List.flatMap_append, List.flatMap_cons, e]
      exact ⟨headT (leafOf L t) ++ (l1.flatMap (fun q => 32 :: dumpF L k q) ++ 32 :: a), b ++ (l2.flatMap (fun q => 32 :: dumpF L k q) ++ [41]), by simp⟩

theorem Ok.below {L : List LeafM} {root : Int} (h : Ok L root (L.length + 1)) {t : Int} (ht' : isLeaf L t = true) : Ok (flat L (L.length + 1) t 0) 0 (L.length + 1) ∧ Eqv (flat L (L.length + 1) t 0) L (L.length + 1) (L.length + 1) 0 t ∧ ∃ a b, dumpF L (L.length + 1) root = a ++ (dumpF L (L.length + 1) t ++ b) := by
  obtain ⟨h1, h2⟩ := h.sub ht'
  have hp := part (M := flat L (L.length + 1) t 0) (L := L) (L.length + 1) t 0 [] [] h1 (by simp) rfl
  have hlr := (isLeaf_iff L t).1 ht'
  obtain ⟨i, rfl⟩ := Int.eq_ofNat_of_zero_le hlr.1
  have hm := h.mem i (by omega)
  have hpre : pre (flat L (L.length + 1) (i : Int) 0) (L.length + 1) ((0 : Nat) : Int) = List.range' 0 (sizeF L (L.length + 1) (i : Int)) := hp.pre
  refine ⟨⟨by rw [flat_len]; have := h.many; omega, hp.hh, ?_, ?_, ?_, ?_⟩, hp.eqv, pre_dump h.hh i hm⟩
  · show (pre _ _ ((0 : Nat) : Int)).Nodup
    rw [hpre]
    exact List.nodup_range'
  · show (pre _ _ ((0 : Nat) : Int)).length = _
    rw [hpre, List.length_range', flat_len]
  · unfold Sx.forms
    rw [List.all_eq_true]
    intro x hx
    obtain ⟨j, hj, rfl⟩ := List.getElem_of_mem hx
    exact hp.ok j (by rw [flat_len] at hj; exact hj) (fun x hx => List.all_eq_true.1 h.forms x hx) _ (by rw [Nat.zero_add]; exact List.getElem?_eq_getElem hj)
  · show Sx.ht _ _ ((0 : Nat) : Int) ≤ 64
    rw [hp.ht]
    exact Int.le_trans (pre_ht h.hh i hm) h.deep
/-- .. with the text of the leaf. -/
theorem below_text {L : List LeafM} {root : Int} (hc : check L root = 0) {t : Int} (ht' : isLeaf L t = true) :
    check (flat L (L.length + 1) t 0) 0 = 0 ∧ text (flat L (L.length + 1) t 0) 0 = dumpF L (L.length + 1) t ∧ ∃ a b, text L root = a ++ (dumpF L (L.length + 1) t ++ b) := by
  have h := check_ok hc
  obtain ⟨h1, h2, h3⟩ := h.below ht'
  have hc2 := ok_check h1
  refine ⟨hc2, ?_, h3⟩
  have h4 := (check_ok hc2).hh
  unfold text
  rw [← eqv_dump _ _ _ _ h2]
  have e1 := h4.dump (Nat.le_max_left _ (L.length + 1))
  have e2 := h1.hh.dump (Nat.le_max_right ((flat L (L.length + 1) t 0).length + 1) (L.length + 1))
  rw [← e1, e2]
theorem below_whole {L : List LeafM} {root : Int} (hc : check L root = 0) : sameB (flat L (L.length + 1) root 0) 0 L root = true := by
  have h := check_ok hc
  have hl := hh_leaf h.hh
  obtain ⟨h1, h2, _⟩ := below_text hc hl
  rw [same_iff h1 hc, h2]
  exact decide_eq_true rfl
end Sx

end Go.Proofs.YtpeihgbkolihgaaDoor
