/- Trees that are equal apart from spans; the text of a tree determines it. -/
import Derived.Test.YtpeihgbkolihgaaDoorU38
set_option linter.unusedVariables false
set_option linter.unusedSimpArgs false
namespace Go.Proofs.YtpeihgbkolihgaaDoor

namespace Sx
def all2 (R : Int → Int → Prop) : List Int → List Int → Prop
  | [], [] => True
  | a :: l, b :: m => R a b ∧ all2 R l m
  | _, _ => False
/-- The trees below two leaves are equal, apart from spans and the numbers of the leaves. -/
def Eqv (A B : List LeafM) : Nat → Nat → Int → Int → Prop
  | k + 1, m + 1, t, u => ((leafOf A t).kind = (leafOf B u).kind ∧ (leafOf A t).text = (leafOf B u).text ∧ (leafOf A t).num = (leafOf B u).num) ∧ all2 (Eqv A B k m) (kidsOf A t) (kidsOf B u)
  | _, _, _, _ => False

def stop (c : UInt8) : Bool := c == 32 || c == 41
theorem split_stop : ∀ (a b X Y : List UInt8), (∀ c ∈ a, stop c = false) → (∀ c ∈ b, stop c = false) → (∃ c Z, X = c :: Z ∧ stop c = true) → (∃ c Z, Y = c :: Z ∧ stop c = true) → a ++ X = b ++ Y → a = b ∧ X = Y
  | [], [], X, Y, _, _, _, _, h => ⟨rfl, h⟩
  | [], y :: b, X, Y, _, hb, ⟨c, Z, e, hc⟩, _, h => by
    rw [e] at h
    have h1 : c = y := by simpa using (List.cons.inj h).1
    have h2 := hb y (by simp)
    rw [← h1, hc] at h2
    cases h2
  | x :: a, [], X, Y, ha, _, _, ⟨c, Z, e, hc⟩, h => by
    rw [e] at h
    have h1 : x = c := by simpa using (List.cons.inj h).1
    have h2 := ha x (by simp)
    rw [h1, hc] at h2
    cases h2
  | x :: a, y :: b, X, Y, ha, hb, hX, hY, h => by
    have h0 := List.cons.inj h
    obtain ⟨e1, e2⟩ := split_stop a b X Y (fun c hc => ha c (by simp [hc])) (fun c hc => hb c (by simp [hc])) hX hY h0.2
    exact ⟨by rw [h0.1, e1], e2⟩

theorem stop_small {c : UInt8} (h : c.toNat ≠ 32) (h2 : c.toNat ≠ 41) : stop c = false := by
  unfold stop
  rw [Bool.or_eq_false_iff]
  refine ⟨?_, ?_⟩
  · apply beq_eq_false_iff_ne.2
    intro e; rw [e] at h; exact h rfl
  · apply beq_eq_false_iff_ne.2
    intro e; rw [e] at h2; exact h2 rfl
theorem dec_ne : ∀ (u : Nat), ∀ c ∈ Lib.decDigits u, 48 ≤ c.toNat := by
  intro u
  induction u using Nat.strongRecOn with
  | _ u ih =>
    intro c hc
    rw [Lib.decDigits] at hc
    split at hc
    · rename_i h
      rw [List.mem_singleton] at hc
      subst hc
      rw [UInt8.toNat_ofNat']
      omega
    · rename_i h
      rcases List.mem_append.1 hc with hc | hc
      · exact ih (u / 10) (by omega) c hc
      · rw [List.mem_singleton] at hc
        subst hc
        have : u % 10 < 10 := Nat.mod_lt _ (by decide)
        rw [UInt8.toNat_ofNat']
        omega
theorem itoa_stop (z : Int) : ∀ c ∈ Lib.itoa z, stop c = false := by
  intro c hc
  unfold Lib.itoa at hc
  have hd : ∀ u, ∀ c ∈ Lib.decDigits u, stop c = false := fun u c hc => by
    have := dec_ne u c hc
    exact stop_small (by omega) (by omega)
  split at hc
  · rcases List.mem_cons.1 hc with rfl | hc
    · decide
    · exact hd _ c hc
  · exact hd _ c hc
/-- The value of digits. -/
def decV (l : List UInt8) : Nat := l.foldl (fun a c => a * 10 + (c.toNat - 48)) 0
theorem decV_dec : ∀ u : Nat, decV (Lib.decDigits u) = u := by
  intro u
  induction u using Nat.strongRecOn with
  | _ u ih =>
    rw [Lib.decDigits]
    split
    · rename_i h
      unfold decV
      rw [List.foldl_cons, List.foldl_nil, UInt8.toNat_ofNat']
      omega
    · rename_i h
      have h1 := ih (u / 10) (by omega)
      unfold decV at h1 ⊢
      have : u % 10 < 10 := Nat.mod_lt _ (by decide)
      rw [List.foldl_append, h1, List.foldl_cons, List.foldl_nil, UInt8.toNat_ofNat']
      omega
theorem dec_inj {u v : Nat} (h : Lib.decDigits u = Lib.decDigits v) : u = v := by
  rw [← decV_dec u, h, decV_dec]
theorem itoa_inj {a b : Int} (h : Lib.itoa a = Lib.itoa b) : a = b := by
  unfold Lib.itoa at h
  have hne : ∀ (u : Nat) (l : List UInt8), Lib.decDigits u ≠ 45 :: l := fun u l e => by
    have := dec_ne u 45 (by rw [e]; simp)
    revert this
    decide
  split at h <;> split at h
  · have := dec_inj (List.cons.inj h).2
    omega
  · exact absurd h.symm (hne _ _)
  · exact absurd h (hne _ _)
  · have := dec_inj h
    omega

/-- The names of the kinds. -/
theorem kind_stop : ∀ k, k < 23 → ∀ c ∈ (form k).kind.data.toList, stop c = false := by decide +kernel
theorem kind_inj : ∀ k, k < 23 → ∀ m, m < 23 → (form k).kind.data.toList = (form m).kind.data.toList → k = m := by decide +kernel
theorem form_text : ∀ k, k < 23 → (form k).text = 0 ∨ (form k).text = 1 ∨ (form k).text = 2 := by decide +kernel
theorem form_num : ∀ k, k < 23 → (form k).num = 0 ∨ (form k).num = 1 ∨ (form k).num = 2 ∨ (form k).num = 3 ∨ (form k).num = 4 := by decide +kernel
theorem word_stop {s : ByteArray} (h : Dt.wordL s = true) : s.size ≠ 0 ∧ ∀ c ∈ s.data.toList, stop c = false := by
  unfold Dt.wordL at h
  rw [Bool.and_eq_true, decide_eq_true_eq, Bool.not_eq_true'] at h
  refine ⟨by omega, fun c hc => ?_⟩
  have h1 := List.any_eq_false.1 h.2 c hc
  refine stop_small (fun e => h1 ?_) (fun e => h1 ?_)
  · rw [e]; decide
  · rw [e]; decide
theorem fitsText_stop {k : Int} {s : ByteArray} (hk : k = 0 ∨ k = 1 ∨ k = 2) (h : fitsText k s = true) : (k = 0 → s.size = 0) ∧ (k ≠ 0 → s.size ≠ 0 ∧ ∀ c ∈ s.data.toList, stop c = false) := by
  unfold fitsText at h
  rcases hk with rfl | rfl | rfl
  · rw [if_neg (by decide), if_neg (by decide)] at h
    exact ⟨fun _ => by simpa using h, fun e => absurd rfl e⟩
  · rw [if_pos rfl] at h
    unfold name Dt.low at h
    simp only [Bool.and_eq_true] at h
    exact ⟨fun e => (by cases e), fun _ => word_stop h.1.2.1⟩
  · rw [if_neg (by decide), if_pos rfl, Dt.upper_long] at h
    unfold Dt.longUp at h
    simp only [Bool.and_eq_true] at h
    exact ⟨fun e => (by cases e), fun _ => word_stop h.2.1⟩
theorem fitsNum_zero {L : List LeafM} {x : LeafM} (h : fitsNum 0 L x = true) : x.num = 0 := by
  unfold fitsNum at h
  rw [if_neg (by decide), if_neg (by decide), if_neg (by decide), if_neg (by decide)] at h
  simpa using h
theorem leafOk_parts {L : List LeafM} {x : LeafM} (h : leafOk L x = true) : (0 ≤ x.kind ∧ x.kind < 23) ∧ fitsText (form x.kind.toNat).text x.text = true ∧ fitsNum (form x.kind.toNat).num L x = true := by
  unfold leafOk at h
  simp only [Bool.and_eq_true] at h
  exact ⟨inSet_all _ h.1, h.2.2.2.2.1, h.2.2.2.2.2.2⟩

theorem text_inj {a b : ByteArray} {X Y : List UInt8} {k : Int} (hk : k = 0 ∨ k = 1 ∨ k = 2) (ha : fitsText k a = true) (hb : fitsText k b = true) (hX : ∃ c Z, X = c :: Z ∧ stop c = true) (hY : ∃ c Z, Y = c :: Z ∧ stop c = true) (h : textT a ++ X = textT b ++ Y) : a = b ∧ X = Y := by
  have h1 := fitsText_stop hk ha
  have h2 := fitsText_stop hk hb
  by_cases h0 : k = 0
  · have e1 := h1.1 h0
    have e2 := h2.1 h0
    unfold textT at h
    rw [if_pos e1, if_pos e2] at h
    have z : ∀ s : ByteArray, s.size = 0 → s = ⟨#[]⟩ := fun s hs => of_list (List.eq_nil_of_length_eq_zero (by rw [← Lib.size_eq]; exact hs))
    exact ⟨by rw [z a e1, z b e2], h⟩
  · have e1 := h1.2 h0
    have e2 := h2.2 h0
    unfold textT at h
    rw [if_neg e1.1, if_neg e2.1] at h
    obtain ⟨e3, e4⟩ := split_stop _ _ X Y e1.2 e2.2 hX hY (List.cons.inj h).2
    exact ⟨by rw [of_list e3, ← of_list (s := b) rfl], e4⟩
theorem num_inj {A B : List LeafM} {x y : LeafM} {w : Int} {X Y : List UInt8} (ha : fitsNum w A x = true) (hb : fitsNum w B y = true) (hX : ∃ c Z, X = c :: Z ∧ stop c = true) (hY : ∃ c Z, Y = c :: Z ∧ stop c = true) (h : numT w x.num ++ X = numT w y.num ++ Y) : x.num = y.num ∧ X = Y := by
  unfold numT at h
  by_cases h0 : w = 0
  · subst h0
    rw [if_pos rfl, if_pos rfl] at h
    exact ⟨by rw [fitsNum_zero ha, fitsNum_zero hb], h⟩
  · rw [if_neg h0, if_neg h0] at h
    obtain ⟨e3, e4⟩ := split_stop _ _ X Y (itoa_stop _) (itoa_stop _) hX hY (List.cons.inj h).2
    exact ⟨itoa_inj e3, e4⟩
theorem head_stop (a : List UInt8) (X : List UInt8) (hX : ∃ c Z, X = c :: Z ∧ stop c = true) (ha : a = [] ∨ ∃ l, a = 32 :: l) : ∃ c Z, a ++ X = c :: Z ∧ stop c = true := by
  rcases ha with rfl | ⟨l, rfl⟩
  · exact hX
  · exact ⟨32, l ++ X, rfl, rfl⟩
theorem textT_head (s : ByteArray) : textT s = [] ∨ ∃ l, textT s = 32 :: l := by
  unfold textT; split
  · exact .inl rfl
  · exact .inr ⟨_, rfl⟩
theorem numT_head (w z : Int) : numT w z = [] ∨ ∃ l, numT w z = 32 :: l := by
  unfold numT; split
  · exact .inl rfl
  · exact .inr ⟨_, rfl⟩
/-- The head of a text determines kind, text and number. -/
theorem head_inj {A B : List LeafM} {x y : LeafM} {X Y : List UInt8} (ha : leafOk A x = true) (hb : leafOk B y = true) (hX : ∃ c Z, X = c :: Z ∧ stop c = true) (hY : ∃ c Z, Y = c :: Z ∧ stop c = true) (h : headT x ++ X = headT y ++ Y) :
    (x.kind = y.kind ∧ x.text = y.text ∧ x.num = y.num) ∧ X = Y := by
  obtain ⟨⟨k0, k1⟩, a1, a2⟩ := leafOk_parts ha
  obtain ⟨⟨m0, m1⟩, b1, b2⟩ := leafOk_parts hb
  unfold headT at h
  simp only [List.cons_append, List.append_assoc] at h
  have h1 := (List.cons.inj h).2
  obtain ⟨e1, e2⟩ := split_stop _ _ _ _ (kind_stop _ (by omega)) (kind_stop _ (by omega)) (head_stop _ _ (head_stop _ _ hX (numT_head _ _)) (textT_head _)) (head_stop _ _ (head_stop _ _ hY (numT_head _ _)) (textT_head _)) h1
  have e3 := kind_inj _ (by omega) _ (by omega) e1
  rw [← e3] at e2 b1 b2
  obtain ⟨e4, e5⟩ := text_inj (form_text _ (by omega)) a1 b1 (head_stop _ _ hX (numT_head _ _)) (head_stop _ _ hY (numT_head _ _)) e2
  obtain ⟨e6, e7⟩ := num_inj a2 b2 hX hY e5
  exact ⟨⟨by omega, e4, e6⟩, e7⟩

theorem kids_inj {A B : List LeafM} {k m : Nat} (ih : ∀ t u r s, Hh A k t → Hh B m u → dumpF A k t ++ r = dumpF B m u ++ s → Eqv A B k m t u ∧ r = s) :
    ∀ (l q : List Int) (r s : List UInt8), (∀ t ∈ l, Hh A k t) → (∀ t ∈ q, Hh B m t) → l.flatMap (fun q => 32 :: dumpF A k q) ++ 41 :: r = q.flatMap (fun q => 32 :: dumpF B m q) ++ 41 :: s → all2 (Eqv A B k m) l q ∧ r = s
  | [], [], r, s, _, _, h => ⟨trivial, (List.cons.inj h).2⟩
  | [], u :: q, r, s, _, _, h => by
    rw [List.flatMap_cons] at h
    exact absurd (List.cons.inj h).1 (by decide)
  | t :: l, [], r, s, _, _, h => by
    rw [List.flatMap_cons] at h
    exact absurd (List.cons.inj h).1 (by decide)
  | t :: l, u :: q, r, s, h1, h2, h => by
    rw [List.flatMap_cons, List.flatMap_cons] at h
    simp only [List.cons_append, List.append_assoc] at h
    obtain ⟨e1, e2⟩ := ih t u _ _ (h1 t (by simp)) (h2 u (by simp)) (List.cons.inj h).2
    obtain ⟨e3, e4⟩ := kids_inj ih l q r s (fun x hx => h1 x (by simp [hx])) (fun x hx => h2 x (by simp [hx])) e2
    exact ⟨⟨e1, e3⟩, e4⟩
theorem kids_stop (g : Int → List UInt8) (l : List Int) (r : List UInt8) : ∃ c Z, l.flatMap (fun q => 32 :: g q) ++ 41 :: r = c :: Z ∧ stop c = true := by
  cases l with
  | nil => exact ⟨41, r, rfl, rfl⟩
  | cons a l => exact ⟨32, _, rfl, rfl⟩
theorem dump_inj {A B : List LeafM} (hA : forms A = true) (hB : forms B = true) : ∀ (k m : Nat) (t u : Int) (r s : List UInt8), Hh A k t → Hh B m u → dumpF A k t ++ r = dumpF B m u ++ s → Eqv A B k m t u ∧ r = s
  | 0, _, _, _, _, _, h, _, _ => h.elim
  | _ + 1, 0, _, _, _, _, _, h, _ => h.elim
  | k + 1, m + 1, t, u, r, s, h1, h2, h => by
    rw [dumpF, dumpF] at h
    simp only [List.append_assoc, List.singleton_append] at h
    obtain ⟨e1, e2⟩ := head_inj (List.all_eq_true.1 hA _ (leafOf_mem h1.1)) (List.all_eq_true.1 hB _ (leafOf_mem h2.1)) (kids_stop _ _ _) (kids_stop _ _ _) h
    obtain ⟨e3, e4⟩ := kids_inj (fun t u r s => dump_inj hA hB k m t u r s) _ _ r s h1.2 h2.2 e2
    exact ⟨⟨e1, e3⟩, e4⟩
theorem all2_flat {R : Int → Int → Prop} {f g : Int → List UInt8} (h : ∀ t u, R t u → f t = g u) : ∀ (l q : List Int), all2 R l q → l.flatMap f = q.flatMap g
  | [], [], _ => rfl
  | [], u :: q, h => h.elim
  | t :: l, [], h => h.elim
  | t :: l, u :: q, hh => by rw [List.flatMap_cons, List.flatMap_cons, h t u hh.1, all2_flat h l q hh.2]
theorem eqv_dump {A B : List LeafM} : ∀ (k m : Nat) (t u : Int), Eqv A B k m t u → dumpF A k t = dumpF B m u
  | 0, _, _, _, h => by cases h
  | _ + 1, 0, _, _, h => by cases h
  | k + 1, m + 1, t, u, h => by
    obtain ⟨⟨e1, e2, e3⟩, e4⟩ := h
    rw [dumpF, dumpF]
    unfold headT
    rw [e1, e2, e3, all2_flat (f := fun q => 32 :: dumpF A k q) (g := fun q => 32 :: dumpF B m q) (fun t u h => by rw [eqv_dump k m t u h]) _ _ e4]

-- the leaves in preorder
theorem all2_len {R : Int → Int → Prop} : ∀ (l q : List Int), all2 R l q → l.length = q.length
  | [], [], _ => rfl
  | [], u :: q, h => h.elim
  | t :: l, [], h => h.elim
  | t :: l, u :: q, h => by rw [List.length_cons, List.length_cons, all2_len l q h.2]
theorem all2_pos {R : Int → Int → Prop} {f g : Int → Nat} (h : ∀ t u, R t u → f t = g u) : ∀ (l q : List Int) (b : Nat), all2 R l q → posK f l b = posK g q b ∧ szL f l = szL g q
  | [], [], _, _ => ⟨rfl, rfl⟩
  | [], u :: q, _, h => h.elim
  | t :: l, [], _, h => h.elim
  | t :: l, u :: q, b, hh => by
    obtain ⟨e1, e2⟩ := all2_pos h l q (b + f t) hh.2
    rw [posK, posK, szL, szL, ← h t u hh.1, e1, e2]
    exact ⟨rfl, rfl⟩
theorem eqv_size {A B : List LeafM} : ∀ (k m : Nat) (t u : Int), Eqv A B k m t u → sizeF A k t = sizeF B m u
  | 0, _, _, _, h => by cases h
  | _ + 1, 0, _, _, h => by cases h
  | k + 1, m + 1, t, u, h => by
    rw [sizeF_succ, sizeF_succ, (all2_pos (fun t u h => eqv_size k m t u h) _ _ 0 h.2).2]
theorem all2_leaves {A B : List LeafM} {R : Int → Int → Prop} {f g : Int → Nat} {F G : Int → Nat → List LeafM} (hs : ∀ t u, R t u → f t = g u) (h : ∀ t u b, R t u → leavesEq (F t b) (G u b) = true) : ∀ (l q : List Int) (b : Nat), all2 R l q → leavesEq (flatK F f l b) (flatK G g q b) = true
  | [], [], _, _ => rfl
  | [], u :: q, _, h => h.elim
  | t :: l, [], _, h => h.elim
  | t :: l, u :: q, b, hh => by
    rw [flatK, flatK, leavesEq_app _ _ _ _ (leavesEq_len _ _ (h t u b hh.1)), h t u b hh.1, ← hs t u hh.1, all2_leaves (A := A) (B := B) hs h l q _ hh.2]
    rfl
theorem eqv_leaves {A B : List LeafM} : ∀ (k m : Nat) (t u : Int) (b : Nat), Eqv A B k m t u → leavesEq (flat A k t b) (flat B m u b) = true
  | 0, _, _, _, _, h => by cases h
  | _ + 1, 0, _, _, _, h => by cases h
  | k + 1, m + 1, t, u, b, h => by
    obtain ⟨⟨e1, e2, e3⟩, e4⟩ := h
    rw [flat, flat, leavesEq, Bool.and_eq_true]
    refine ⟨?_, all2_leaves (A := A) (B := B) (fun t u h => eqv_size k m t u h) (fun t u b h => eqv_leaves k m t u b h) _ _ _ e4⟩
    unfold leafEq
    rw [decide_eq_true e1, decide_eq_true e2, decide_eq_true e3, decide_eq_true (all2_pos (fun t u h => eqv_size k m t u h) _ _ _ e4).1]
    rfl
theorem leaves_kids {A B : List LeafM} {k m : Nat} (ih : ∀ t u b R S, Hh A k t → Hh B m u → leavesEq (flat A k t b ++ R) (flat B m u b ++ S) = true → Eqv A B k m t u ∧ leavesEq R S = true) :
    ∀ (l q : List Int) (b : Nat) (R S : List LeafM), (∀ t ∈ l, Hh A k t) → (∀ t ∈ q, Hh B m t) → l.length = q.length → leavesEq (flatK (flat A k) (sizeF A k) l b ++ R) (flatK (flat B m) (sizeF B m) q b ++ S) = true → all2 (Eqv A B k m) l q ∧ leavesEq R S = true
  | [], [], _, R, S, _, _, _, h => ⟨trivial, h⟩
  | [], u :: q, _, _, _, _, _, h, _ => by cases h
  | t :: l, [], _, _, _, _, _, h, _ => by cases h
  | t :: l, u :: q, b, R, S, h1, h2, hl, h => by
    rw [flatK, flatK, List.append_assoc, List.append_assoc] at h
    obtain ⟨e1, e2⟩ := ih t u b _ _ (h1 t (by simp)) (h2 u (by simp)) h
    rw [← eqv_size k m t u e1] at e2
    obtain ⟨e3, e4⟩ := leaves_kids ih l q _ R S (fun x hx => h1 x (by simp [hx])) (fun x hx => h2 x (by simp [hx])) (by simpa using hl) e2
    exact ⟨⟨e1, e3⟩, e4⟩
theorem leaves_eqv {A B : List LeafM} : ∀ (k m : Nat) (t u : Int) (b : Nat) (R S : List LeafM), Hh A k t → Hh B m u → leavesEq (flat A k t b ++ R) (flat B m u b ++ S) = true → Eqv A B k m t u ∧ leavesEq R S = true
  | 0, _, _, _, _, _, _, h, _, _ => h.elim
  | _ + 1, 0, _, _, _, _, _, _, h, _ => h.elim
  | k + 1, m + 1, t, u, b, R, S, h1, h2, h => by
    rw [flat, flat, List.cons_append, List.cons_append, leavesEq, Bool.and_eq_true] at h
    have hq := h.1
    unfold leafEq at hq
    simp only [Bool.and_eq_true, decide_eq_true_eq] at hq
    have hl : (kidsOf A t).length = (kidsOf B u).length := by
      have := congrArg List.length hq.2.2.2
      rwa [posK_len, posK_len] at this
    obtain ⟨e3, e4⟩ := leaves_kids (fun t u b R S => leaves_eqv k m t u b R S) _ _ _ R S h1.2 h2.2 hl h.2
    exact ⟨⟨⟨hq.1, hq.2.1, hq.2.2.1⟩, e3⟩, e4⟩

/-- Two valid trees are the same exactly if their texts are equal. -/
theorem same_iff {A B : List LeafM} {ra rb : Int} (ha : check A ra = 0) (hb : check B rb = 0) : sameB A ra B rb = decide (text A ra = text B rb) := by
  have oa := check_ok ha
  have ob := check_ok hb
  unfold sameB
  rw [decide_eq_true ha, decide_eq_true hb, Bool.true_and, Bool.true_and]
  by_cases h : text A ra = text B rb
  · rw [decide_eq_true h]
    have h2 := dump_inj oa.forms ob.forms (A.length + 1) (B.length + 1) ra rb [] [] oa.hh ob.hh (by rw [List.append_nil, List.append_nil]; exact h)
    exact eqv_leaves _ _ _ _ 0 h2.1
  · rw [decide_eq_false h]
    cases hq : leavesEq (whole A ra) (whole B rb) with
    | false => rfl
    | true =>
      have h2 := leaves_eqv (A.length + 1) (B.length + 1) ra rb 0 [] [] oa.hh ob.hh (by rw [List.append_nil, List.append_nil]; exact hq)
      exact absurd (eqv_dump _ _ _ _ h2.1) h
end Sx

end Go.Proofs.YtpeihgbkolihgaaDoor
