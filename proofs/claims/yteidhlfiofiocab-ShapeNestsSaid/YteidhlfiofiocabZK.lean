/- The function literal of Reach at a type that is new. -/
import Derived.Test.YteidhlfiofiocabZJ
set_option linter.unusedVariables false
set_option linter.unusedSimpArgs false
namespace Go.Proofs.Yteidhlfiofiocab
open Go.RowKit Go.Shelf Go.Maps
attribute [local go_sem] Oper.semAt_some

set_option maxRecDepth 100000 in
set_option maxHeartbeats 1600000 in
theorem constructors_at (v : Value) (d : List DataM) (t : Int) (w0 w : World) (hv : DsAt w0 v d) (hbw : Below w0.heap.size w0 w) (hd : d.length ≤ 100) :
    Calls Try.prog 44 #[v, .int .i64 t] w fun e w' => ∃ u, e = .returned u ∧ CsAt w0 u (Dt.consOf d t) ∧ w' = w := by
  obtain ⟨ad, cap, rfl⟩ := hv.slice
  obtain ⟨n, hln⟩ : ∃ n, d.length = n := ⟨_, rfl⟩
  obtain ⟨r, hr⟩ : ∃ r, Dt.ok d t = r := ⟨_, rfl⟩
  rw [hln] at hv ⊢
  have HL := Lib.hid hln
  have HR := Lib.hid hr
  have HV := Lib.hid hv
  by_cases h0 : t = 0
  · subst h0
    have hc : Dt.consOf d 0 = [] := by simp [Dt.consOf]
    rw [hc]
    clear hv hr hln hbw
    go_enter Try.func44, Try.ntmps44
    go_wp2
    go_ret
    exact ⟨_, rfl, CsAt.nil _, rfl⟩
  · cases r with
    | false =>
      have hc : Dt.consOf d t = [] := by simp [Dt.consOf, hr]
      rw [hc]
      have ht0 : (t == 0) = false := by simp [h0]
      clear hv hr hln hc hbw
      go_enter Try.func44, Try.ntmps44
      go_wp2_with fail
      refine (exists_any ad n cap t d false w HL HR).mono ?_
      rintro e w' ⟨rfl, rfl⟩
      go_wp2
      go_ret
      exact ⟨_, rfl, CsAt.nil _, rfl⟩
    | true =>
      obtain ⟨h1, h2⟩ := (ok_iff d t).1 hr
      obtain ⟨k, hk⟩ : ∃ k : Nat, t = k + 1 := ⟨(t - 1).toNat, by omega⟩
      have hkd : k < d.length := by omega
      have hc : Dt.consOf d t = d[k].cons := by
        have e1 : (t - 1).toNat = k := by omega
        simp [Dt.consOf, h0, hr, e1, List.getElem?_eq_getElem hkd]
      rw [hc]
      subst hk
      obtain ⟨b, off, fa, fc, rfl, hb, c0, c1, hcs⟩ := hv.at k hkd
      obtain ⟨fl, hfl⟩ : ∃ fl, d[k].cons.length = fl := ⟨_, rfl⟩
      rw [hfl] at c1 hcs
      have HC := Lib.hid hcs
      have c1 := (hbw.cell (p := ⟨b, off + k * 2 + 1, none⟩) hb).trans c1
      have hb := Nat.lt_of_lt_of_le hb hbw.size
      have ht0 : ((k : Int) + 1 == 0) = false := by simp; omega
      have hs1 : IntKind.i64.wrap ((k : Int) + 1 - 1) = k := by rw [show (k : Int) + 1 - 1 = k by omega]; exact IntWalk.i64_in _ (by omega)
      have hkn : (k : Int) < n := by omega
      clear hfl hv hr hln hc hcs h0 h1 h2 c0 hbw
      go_enter Try.func44, Try.ntmps44
      go_wp2_with fail
      refine (exists_any _ n cap ((k : Int) + 1) d true w HL HR).mono ?_
      rintro e w' ⟨rfl, rfl⟩
      go_wp2
      go_ret
      exact ⟨_, rfl, HC.out, rfl⟩




theorem LfR.join {A : Ad} {W0 W1 W : World} {vl v : Value} {l1 : List Int} (h2 : v.ownBlock = vl.ownBlock ∨ ∃ g, v.ownBlock = some g ∧ W0.heap.size ≤ g) (h3 : KeepsBut W0.heap.size A.bl vl.ownBlock W0 W1) (h4 : Below A.base W0 W1) (h : LfR A W1 v W l1) : LfR A W0 vl W l1 ∧ KeepsBut W0.heap.size A.bl vl.ownBlock W1 W := by
  obtain ⟨v', r1, r2, r3, r4⟩ := h
  have hk : KeepsBut W0.heap.size A.bl vl.ownBlock W1 W := ⟨r3.1, fun k a b c => r3.2 k (Nat.lt_of_lt_of_le a h3.1) b (fun e => by
    rcases h2 with e2 | ⟨g, e2, hg⟩
    · exact c (e.trans e2)
    · rw [e2] at e; cases e; omega)⟩
  refine ⟨⟨v', r1, ?_, h3.trans hk, h4.trans r4⟩, hk⟩
  rcases r2 with r2 | ⟨g, r2, hg⟩
  · rcases h2 with e2 | ⟨g, e2, hg⟩
    · exact .inl (r2.trans e2)
    · exact .inr ⟨g, r2.trans e2, hg⟩
  · exact .inr ⟨g, r2, Nat.le_trans h3.1 hg⟩

theorem KeepsFrom.weaken {B B' : Nat} {X Y : World} (h : KeepsFrom B X Y) (hB : B ≤ B') : KeepsFrom B' X Y := ⟨h.size, fun k o hk h0 ho => h.same k o (Nat.le_trans hB hk) h0 ho⟩

/-- The fields of constructors in the order in which a loop from the end comes to them. -/
def fieldsB {w0 : World} (pre : List (AC w0)) : List Int := pre.flatMap (fun x => x.1.2.1.fields.reverse)
theorem fieldsB_snoc {w0 : World} (pre : List (AC w0)) (x : AC w0) : fieldsB (pre ++ [x]) = fieldsB pre ++ x.1.2.1.fields.reverse := by simp [fieldsB]
theorem fieldsB_all {w0 : World} {pre : List (AC w0)} {d : List DataM} {t : Int} (h : pre.map (fun x => x.1.2.1) = (Dt.consOf d t).reverse) : fieldsB pre = (Dt.fieldsOf d t).reverse := by
  have e : fieldsB pre = (pre.map (fun x => x.1.2.1)).flatMap (fun c => c.fields.reverse) := by
    unfold fieldsB
    rw [List.flatMap_map]
  rw [e, h, Dt.fieldsOf]
  generalize Dt.consOf d t = cs
  induction cs with
  | nil => rfl
  | cons c cs ih => simp [List.flatMap_append, ih]
theorem fieldsB_length {w0 : World} (pre : List (AC w0)) : (fieldsB pre).length ≤ 100 * pre.length := by
  induction pre with
  | nil => simp [fieldsB]
  | cons x pre ih =>
    have h1 := x.2.2.2.1
    unfold fieldsB at ih ⊢
    rw [List.flatMap_cons, List.length_append, List.length_reverse, List.length_cons]
    omega

/-- The law of a loop over an iterator whose variable lies in a box of its own each round. -/
theorem rangeH {α : Type} {F : Fence} {n : Nat} {P : Program} {g : Operand} {ps : Array Tmp} {assign body : Code} {Q : Exit → Act → World → Prop} {a : Act} {w : World}
    (hro : F.round = none) (h1 : 1 ≤ n) {gf : Nat} {lb : Array Value} (hg : a.eval g = .func (.func gf) #[] lb) (hFg : F.fn gf) (eg : ∀ args w, (callFunc gf args).run P w = .ok (.enter gf args) w)
    {encs : α → Array Value} {Kp : World → World → Prop} {S Sp : List α → Prop} {N : Nat} (hseq : SeqStopsK F (n - 1) P gf lb encs Kp S Sp N w)
    (hKt : ∀ {A B C : World}, Kp A B → Kp B C → Kp A C) (hKb : ∀ (W : World) (l : Nat) (o o' : Obj), w.heap.size ≤ l → W.heap[l]? = some o → o.isCells = false → o.isWalk = false → Kp W (W.putObj l o')) (hps : ∀ x, (encs x).size = ps.size)
    (I : List α → World → Prop) (hI : OwnFrom w.heap.size I) (h0 : I [] w) (R : α → Nat → World → Prop) (hR : ∀ x b, OwnFrom w.heap.size (fun (_ : Unit) W => R x b W)) (a₁ : α → Nat → Act)
    (hassign : ∀ (l : Nat) (pre : List α) (x : α) (W : World) (K : Act → World → Prop), I pre W → (∀ b W', KeepsFrom w.heap.size W W' → Kp W W' → I pre W' → R x b W' → K (a₁ x b) W') →
      assign.wpIn (F.inRound l) (n - 1 - 1) P (Exit.then K (fun _ _ _ => False)) { tmps := (ps.zip (encs x)).foldl (fun t (p, v) => t.setIfInBounds p v) a.tmps, defers := [] } W)
    (hbody : ∀ (l : Nat) (pre : List α) (x : α) (b : Nat) (W : World), w.heap.size ≤ l → (∃ r, W.heap[l]? = some (.loop r)) → I pre W → R x b W → pre.length < N → body.wpIn (F.inRound l) (n - 1 - 1) P (ownPostG w.heap.size Kp I (fun _ _ _ => False) (pre ++ [x]) W) (a₁ x b) W)
    (hdone : ∀ (D : Nat) (xs : List α) (W : World), w.heap.size ≤ D → S xs → I xs W → W.heap[D]? = some (.deferred (some [])) → Q .normal { a with defers := { target := .collected D, args := #[] } :: a.defers } W) :
    (Code.rangeFunc g ps assign body).wpIn F n P Q a w :=
  wpIn_rangeFunc_ownH hro h1 hg hFg eg hseq (fun h k => hKt h k) hKb (Below.refl _ _) hps I (fun _ _ _ => False) hI (fun _ _ _ _ _ hs _ _ => hs) h0 (fun x a' W => ∃ b, R x b W ∧ a' = a₁ x b)
    (fun x a' s X Y row hs hg hr => by obtain ⟨b, h1, h2⟩ := hs; exact ⟨b, hR x b () X Y row h1 hg hr, h2⟩)
    (fun l pre x W K hi hK => hassign l pre x W K hi (fun b W' k1 k2 k3 k4 => hK _ _ k1 k2 k3 ⟨b, k4, rfl⟩))
    (fun l pre x a' W hl hr hi ha hlen => by obtain ⟨b, h1, rfl⟩ := ha; exact hbody l pre x b W hl hr hi h1 hlen)
    hdone (fun D c pre W _ _ h _ => h.elim)

/-- The law of a loop over an iterator within a round, whose variable lies in a slot. -/
theorem rangeN {α : Type} {F : Fence} {n : Nat} {P : Program} {g : Operand} {ps : Array Tmp} {assign body : Code} {Q : Exit → Act → World → Prop} {a : Act} {w : World} {l₀ : Nat} {r₀ : Loop}
    (hro : F.round = some l₀) (hl₀ : w.heap[l₀]? = some (.loop r₀)) (h1 : 1 ≤ n) {gf : Nat} {lb : Array Value} (hg : a.eval g = .func (.func gf) #[] lb) (hFg : F.fn gf) (eg : ∀ args w, (callFunc gf args).run P w = .ok (.enter gf args) w)
    {encs : α → Array Value} {Kp : World → World → Prop} {S Sp : List α → Prop} {N : Nat} (hseq : SeqStopsK F (n - 1) P gf lb encs Kp S Sp N w)
    (hKt : ∀ {A B C : World}, Kp A B → Kp B C → Kp A C) (hKb : ∀ (W : World) (l : Nat) (o o' : Obj), w.heap.size ≤ l → W.heap[l]? = some o → o.isCells = false → o.isWalk = false → Kp W (W.putObj l o')) (hps : ∀ x, (encs x).size = ps.size) (hKr : ∀ W, Kp W W)
    (I : List α → World → Prop) (hI : OwnFrom w.heap.size I) (h0 : I [] w) (a₂ : α → Act)
    (hassign : ∀ (l : Nat) (x : α) (W : World) (K : Act → World → Prop), K (a₂ x) W →
      assign.wpIn (F.inRound l) (n - 1 - 1) P (Exit.then K (fun _ _ _ => False)) { tmps := (ps.zip (encs x)).foldl (fun t (p, v) => t.setIfInBounds p v) a.tmps, defers := [] } W)
    (hbody : ∀ (l : Nat) (pre : List α) (x : α) (W : World), I pre W → pre.length < N → body.wpIn (F.inRound l) (n - 1 - 1) P (ownPostG w.heap.size Kp I (fun _ _ _ => False) (pre ++ [x]) W) (a₂ x) W)
    (hdone : ∀ (xs : List α) (W : World), S xs → I xs W → Q .normal a W) :
    (Code.rangeFunc g ps assign body).wpIn F n P Q a w :=
  wpIn_rangeFunc_ownN hro hl₀ h1 hg hFg eg hseq (fun h k => hKt h k) hKb (Below.refl _ _) hps I (fun _ _ _ => False) hI (fun _ _ _ _ _ hs _ _ => hs) h0 (fun x a' _ => a' = a₂ x) (fun _ _ _ _ _ _ hs _ _ => hs)
    (fun l pre x W K hi hK => hassign l x W K (hK _ _ (KeepsFrom.refl _ _) (hKr W) hi rfl))
    (fun l pre x a' W _ _ hi ha hlen => by subst ha; exact hbody l pre x W hi hlen)
    hdone (fun c pre W _ h => h.elim)


/-- How many fields are left. -/
def leftLen (A : Ad) (W : World) : Nat := match W.cell? ⟨A.bl, 0, none⟩ with
  | some (.slice _ n _) => n
  | _ => 0
theorem leftLen_of {A : Ad} {W : World} {v : Value} {l : List Int} (h : RowIn A W A.bl v l) : leftLen A W = l.length := by
  obtain ⟨ad, cap, rfl⟩ := h.slice
  unfold leftLen
  rw [h.1.cell]



end Go.Proofs.Yteidhlfiofiocab
