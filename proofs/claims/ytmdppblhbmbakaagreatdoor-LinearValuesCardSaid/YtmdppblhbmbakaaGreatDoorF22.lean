/- A region that draws its order, in the frame of a round: out of its walk under a condition on the world. What a round of read does. -/
import Derived.Test.YtmdppblhbmbakaaGreatDoorF20
import Derived.OrdersIn
import Derived.Deep.RegionHeld
import Derived.Laws.EntriesVeiled
import Derived.Deep.AppendLies
set_option linter.unusedVariables false
set_option linter.unusedSimpArgs false
namespace Go.Proofs.YtmdppblhbmbakaaGreatDoor
open Go.RowKit

theorem op_round {P : Program} {l n : Nat} {o : Oper} {a : Act} {w : World} {K K' : Act → World → Prop} {Q : Exit → Act → World → Prop} (hd : ∀ c, o.op ≠ .defer c) (hK : ∀ a w, K a w → K' a w) (h : o.wp P a w K Q) :
    o.wpIn (Fence.wide.inRound l) n P a w K' Q := by
  refine ⟨fun _ _ => trivial, ?_⟩
  rw [show (Fence.wide.inRound l).round = some l from rfl, Oper.semAt_some l _ _ hd]
  unfold Oper.wp at h
  generalize (execOp a.eval o).run P w = r at h ⊢
  cases r with
  | ok nx w' =>
    cases nx <;> simp only [Oper.upon, Oper.uponIn] at h ⊢
    case value v => exact hK _ _ h
    case skip => exact hK _ _ h
    case defer d => exact hK _ _ h
    case enter f args =>
      refine ⟨fun e => absurd (show false = true from e) (by decide), (CallsIn.inRound l (callsIn_wide.2 h)).mono fun e w'' he => ?_⟩
      cases e with
      | returned v => exact hK _ _ he
      | panicked c => exact he
      | outgrown => exact he
    case row row args =>
      refine ⟨fun e => absurd (show false = true from e) (by decide), fun c cs _ => ?_⟩
      obtain ⟨v, w1, r, s⟩ := h c cs
      exact ⟨v, w1, hK _ _ r, stepsIn_wide.2 s⟩
  | halt x w' =>
    cases x <;> simp only [Oper.upon, Oper.uponIn] at h ⊢
    case panic v => exact h

def noDefer (o : Oper) : Bool := match o.op with
  | .defer _ => false
  | _ => true
theorem noDefer_of {o : Oper} (h : noDefer o = true) : ∀ c, o.op ≠ .defer c := by
  intro c e
  unfold noDefer at h
  rw [e] at h
  cases h

theorem any_round {P : Program} {l n : Nat} {md : Region.Mode} {ops : Array Oper} {Q : Exit → Act → World → Prop} (hd : ∀ (i : Nat) (o : Oper), ops[i]? = some o → noDefer o = true) (hQ : ¬ LetsOut Q) :
    ∀ (fuel : Nat) (listed : Array Bool) (a : Act) (w : World), wpAny P md ops Q fuel listed a w → wpAnyIn (Fence.wide.inRound l) n P md ops Q fuel listed a w
  | 0, _, _, _, h => h
  | fuel + 1, listed, a, w, h => by
    refine ⟨h.1, fun i hi => ?_⟩
    have h2 := h.2 i hi
    unfold wpOp at h2
    unfold wpOpIn
    cases ho : ops[i]? with
    | none => rw [ho] at h2; exact any_round hd hQ fuel _ _ _ h2
    | some o =>
      rw [ho] at h2
      dsimp only at h2 ⊢
      split
      · next hw =>
        rw [if_pos hw] at h2
        rcases h2 with h2 | ⟨_, h2⟩
        · exact op_round (noDefer_of (hd i o ho)) (fun a w hk => any_round hd hQ fuel _ _ _ hk) h2
        · exact absurd h2 hQ
      · next hw =>
        rw [if_neg hw] at h2
        exact ⟨fun _ _ => trivial, any_round hd hQ fuel _ _ _ h2⟩

theorem region_round {P : Program} {l n id : Nat} {ops : Array Oper} {Q : Exit → Act → World → Prop} {S : World → Prop} {a : Act} {w : World} (hm : P.follows .mixedOrders = true) (hd : ops.all noDefer = true) (hQ : ¬ LetsOut Q) (hS : S w.drew)
    (h : S w.drew → wpAnyH P .any ops Q S ops.size (Array.replicate ops.size false) a w.drew) : (Code.region id ops true).wpIn (Fence.wide.inRound l) n P Q a w := by
  refine wpIn_region_any hm (any_round (fun i o ho => ?_) hQ _ _ _ _ (wpAny_of_held _ _ _ _ (h hS)))
  rw [Array.all_eq_true_iff_forall_mem] at hd
  exact hd o (Array.mem_of_getElem? ho)

/-- Whatever order is picked, and S holds behind every operation but number m. -/
def wpAnyX (P : Program) (md : Region.Mode) (ops : Array Oper) (Q : Exit → Act → World → Prop) (S : World → Prop) (m : Nat) : Nat → Array Bool → Act → World → Prop
  | 0, listed, a, w => Region.ready md ops listed = [] ∧ Q .normal a w
  | fuel + 1, listed, a, w => (Region.ready md ops listed = [] → Q .normal a w) ∧ ∀ i ∈ Region.ready md ops listed, wpOp P ops Q i (fun a' w' => (i ≠ m → S w') ∧ wpAnyX P md ops Q S m fuel (listed.setIfInBounds i true) a' w') a w
section
variable {P : Program} {ops : Array Oper} {Q : Exit → Act → World → Prop} {md : Region.Mode} {S : World → Prop} {m : Nat}
theorem any_of_x : ∀ (fuel : Nat) (listed : Array Bool) (a : Act) (w : World), wpAnyX P md ops Q S m fuel listed a w → wpAny P md ops Q fuel listed a w
  | 0, _, _, _, h => h
  | fuel + 1, _, _, _, h => ⟨h.1, fun i hi => wpOp_mono (fun a' w' h' => any_of_x fuel _ a' w' h'.2) (h.2 i hi)⟩
theorem x_first {i : Nat} {oi om : Oper} {v : Value} (hi : ops[i]? = some oi) (hm : ops[m]? = some om) (hw : om.after.any (fun e => Region.binds md e && e.on == i) = true) (hsel : ∀ (j : Nat) (o : Oper) cs b, ops[j]? = some o → o.op ≠ .select cs b)
    (hQ : ∀ c a w, Q (.panic c) (a.put oi.dst v) w → Q (.panic c) a w) :
    ∀ (fuel : Nat) (listed : Array Bool) (a : Act) (w : World),
      (∀ j oj, ops[j]? = some oj → j ≠ i → listed.getD j true = false → (∀ e ∈ oj.after, Region.binds md e = true → e.on ≠ i) → oi.apart ops oj = true) →
      i ∈ Region.ready md ops listed → YieldsIf P ops S oi v a → S w →
      wpAnyX P md ops Q S m fuel (listed.setIfInBounds i true) (a.put oi.dst v) w → wpAnyX P md ops Q S m (fuel + 1) listed a w := by
  intro fuel
  induction fuel with
  | zero =>
    intro listed a w _ hr hy hS H
    refine ⟨fun h => (by rw [h] at hr; cases hr), fun j hj => ?_⟩
    by_cases hji : j = i
    · subst hji; exact hy.wpOp hi hS ⟨fun _ => hS, H⟩
    · have h0 := ready_mono hj hji
      rw [H.1] at h0
      cases h0
  | succ fuel ih =>
    intro listed a w hfree hr hy hS H
    refine ⟨fun h => (by rw [h] at hr; cases hr), fun j hj => ?_⟩
    by_cases hji : j = i
    · subst hji; exact hy.wpOp hi hS ⟨fun _ => hS, H⟩
    · have h1 := H.2 j (ready_mono hj hji)
      obtain ⟨hjun, oj, hoj, hall⟩ := mem_ready.1 hj
      have hnot : ∀ e ∈ oj.after, Region.binds md e = true → e.on ≠ i := fun e he hb heq => by
        have g1 := hall e he hb
        have g0 := (mem_ready.1 hr).1
        rw [heq] at g1
        rcases Nat.lt_or_ge i listed.size with h' | h'
        · simp [h'] at g0 g1; rw [g0] at g1; cases g1
        · simp [Array.getElem?_eq_none h'] at g1
      have hjm : j ≠ m := fun e => by
        subst e
        rw [hm] at hoj
        obtain rfl := Option.some.inj hoj
        rw [Array.any_eq_true'] at hw
        obtain ⟨x, hx, hb⟩ := hw
        rw [Bool.and_eq_true, beq_iff_eq] at hb
        exact hnot x hx hb.1 hb.2
      have h2 := wpOp_putIf hoj (hfree j oj hoj hji hjun hnot) (fun cs b => hsel i oi cs b hi) (fun cs b => hsel j oj cs b hoj) hQ hy h1
      have hfree' : ∀ k ok, ops[k]? = some ok → k ≠ i → (listed.setIfInBounds j true).getD k true = false →
          (∀ e ∈ ok.after, Region.binds md e = true → e.on ≠ i) → oi.apart ops ok = true := fun k ok hk hki hun hno => by
        refine hfree k ok hk hki ?_ hno
        by_cases hjk : j = k
        · subst hjk; exact hjun
        · rw [getD_set_ne true hjk] at hun; exact hun
      refine wpOp_mono (fun a' w' h3 => ⟨h3.2.1, ih (listed.setIfInBounds j true) a' w' hfree' (ready_mono hr (Ne.symm hji)) h3.1 (h3.2.1 hjm) ?_⟩) h2
      rw [Array.setIfInBounds_comm _ _ hji]
      exact h3.2.2
/-- Number i may be taken first, and m waits for it. -/
theorem x_take {i : Nat} {oi om : Oper} {v : Value} {fuel : Nat} {listed : Array Bool} {a : Act} {w : World} (hi : ops[i]? = some oi) (hm : ops[m]? = some om) (hw : om.after.any (fun e => Region.binds md e && e.on == i) = true)
    (hs : Region.noSelect ops = true) (hf : Region.free md ops listed i = true) (hr : (Region.ready md ops listed).contains i = true)
    (hQ : ∀ c a w, Q (.panic c) (a.put oi.dst v) w → Q (.panic c) a w) (hy : YieldsIf P ops S oi v a) (hS : S w)
    (h : wpAnyX P md ops Q S m fuel (listed.setIfInBounds i true) (a.put oi.dst v) w) : wpAnyX P md ops Q S m (fuel + 1) listed a w :=
  x_first hi hm hw (Region.noSelect_spec hs) hQ fuel listed a w (Region.free_spec hi hf) (by simpa using hr) hy hS h
/-- One alone may come up. -/
theorem x_one {i : Nat} {o : Oper} {fuel : Nat} {listed : Array Bool} {a : Act} {w : World} (hr : Region.ready md ops listed = [i]) (ho : ops[i]? = some o)
    (h : ∀ K' : Act → World → Prop, Shut (∀ a w, (i ≠ m → S w) → wpAnyX P md ops Q S m fuel (listed.setIfInBounds i true) a w → K' a w) → if Region.wanted o (yielded ops a.tmps) = true then Oper.wp P o a w K' Q else K' (a.put o.dst undef) w) :
    wpAnyX P md ops Q S m (fuel + 1) listed a w := by
  refine ⟨fun h0 => (by rw [h0] at hr; cases hr), fun j hj => ?_⟩
  rw [hr] at hj
  obtain rfl : j = i := by simpa using hj
  exact wpOp_step ho (fun K' hK => h K' (fun a w hS hW => hK a w ⟨hS, hW⟩))
theorem x_done {listed : Array Bool} {a : Act} {w : World} (hr : Region.ready md ops listed = []) (h : Q .normal a w) : ∀ fuel, wpAnyX P md ops Q S m fuel listed a w
  | 0 => ⟨hr, h⟩
  | _ + 1 => ⟨fun _ => h, by rw [hr]; simp⟩
end
theorem region_roundX {P : Program} {l n id m : Nat} {ops : Array Oper} {Q : Exit → Act → World → Prop} {S : World → Prop} {a : Act} {w : World} (hm : P.follows .mixedOrders = true) (hd : ops.all noDefer = true) (hQ : ¬ LetsOut Q)
    (h : wpAnyX P .any ops Q S m ops.size (Array.replicate ops.size false) a w.drew) : (Code.region id ops true).wpIn (Fence.wide.inRound l) n P Q a w := by
  refine wpIn_region_any hm (any_round (fun i o ho => ?_) hQ _ _ _ _ (any_of_x _ _ _ _ h))
  rw [Array.all_eq_true_iff_forall_mem] at hd
  exact hd o (Array.mem_of_getElem? ho)

end Go.Proofs.YtmdppblhbmbakaaGreatDoor
set_option linter.unusedVariables false
set_option linter.unusedSimpArgs false
namespace Go.Proofs.YtmdppblhbmbakaaGreatDoor
open Go.RowKit Go.Maps Go.Shelf _root_.Go.Proofs.YtmdppblhbmbakaaGreatDoor.Nm
attribute [local go_sem] Oper.semAt_some

theorem splitW_mem : ∀ (l x : List UInt8), x ∈ splitW l → x.length ≤ l.length
  | [], x, h => by
    have : x = [] := by simpa [splitW] using h
    subst this; exact Nat.le_refl _
  | c :: l, x, h => by
    have ih := splitW_mem l
    unfold splitW at h
    split at h
    · rcases List.mem_cons.1 h with e | h
      · rw [e]; exact Nat.zero_le _
      · have := ih x h
        rw [List.length_cons]; omega
    · split at h
      · next h0 => exact absurd h0 (splitW_ne l)
      · next a t e =>
        rcases List.mem_cons.1 h with e2 | h
        · have := ih a (by rw [e]; exact List.mem_cons_self ..)
          rw [e2, List.length_cons, List.length_cons]; omega
        · have := ih x (by rw [e]; exact List.mem_cons_of_mem _ h)
          rw [List.length_cons]; omega
theorem rd_terms : ∀ (l : List (List UInt8)) (st : RdSt), (rdAll st l).terms.length ≤ st.terms.length + l.length
  | [], st => Nat.le_refl _
  | x :: l, st => by
    have ih := rd_terms l (rdStep st x)
    have : (rdStep st x).terms.length ≤ st.terms.length + 1 := by
      unfold rdStep
      split
      · exact Nat.le_succ _
      · split
        · simp
        · exact Nat.le_succ _
    show (rdAll (rdStep st x) l).terms.length ≤ _
    rw [List.length_cons]; omega
theorem rd_size (N : Nat) : ∀ (l : List (List UInt8)) (st : RdSt), st.size.size ≤ N → (∀ x ∈ l, x.length ≤ N) → (rdAll st l).size.size ≤ N
  | [], st, h, _ => h
  | x :: l, st, h, hl => by
    refine rd_size N l (rdStep st x) ?_ (fun y hy => hl y (by simp [hy]))
    unfold rdStep
    split
    · exact h
    · split
      · exact Nat.zero_le _
      · show (⟨x.toArray⟩ : ByteArray).size ≤ N
        rw [Lib.size_eq]
        exact hl x (by simp)

/-- What stands of read's boxes when one of them is written. -/
theorem Rdm.setNeg {w W : World} {st : RdSt} {v : Value} (h : Rdm w W st v) (b : Bool) : Rdm w (W.setCell ⟨w.heap.size + 2, 0, none⟩ (.bool b)) ⟨b, st.size, st.terms⟩ v := by
  have hg := grownBy_setCell' W (w.heap.size + 2) (.bool b)
  refine ⟨h.b0.grown hg (by simp), h.b1.grown hg (by simp), h.b2.set (.bool b), h.b3.grown hg (by simp), h.b4.grown hg (by simp), h.row.kept hg ?_, h.below.setCell (by dsimp only; omega) _⟩
  cases hv : v.ownBlock with
  | none => exact .inl rfl
  | some k => have := (h.row.lt k hv).1; exact .inr (by simp; omega)
theorem Rdm.setSize {w W : World} {st : RdSt} {v : Value} (h : Rdm w W st v) (s : ByteArray) : Rdm w (W.setCell ⟨w.heap.size + 3, 0, none⟩ (.string s)) ⟨st.neg, s, st.terms⟩ v := by
  have hg := grownBy_setCell' W (w.heap.size + 3) (.string s)
  refine ⟨h.b0.grown hg (by simp), h.b1.grown hg (by simp), h.b2.grown hg (by simp), h.b3.set (.string s), h.b4.grown hg (by simp), h.row.kept hg ?_, h.below.setCell (by dsimp only; omega) _⟩
  cases hv : v.ownBlock with
  | none => exact .inl rfl
  | some k => have := (h.row.lt k hv).1; exact .inr (by simp; omega)
theorem keeps_set (W : World) (b g i : Nat) (v : Value) (h : g < b) : KeepsLoop b W (W.setCell ⟨g, i, none⟩ v) := fun k h1 _ => Below.heap_setCell W _ v k (by dsimp only; omega)
theorem keeps_below {b : Nat} {W W' : World} (h : Below W.heap.size W W') (hb : b + 5 ≤ W.heap.size) : KeepsLoop b W W' := fun k _ h2 => h.block k (by omega)
theorem KeepsLoop.trans {b : Nat} {W W' W'' : World} (h : KeepsLoop b W W') (h' : KeepsLoop b W' W'') : KeepsLoop b W W'' := fun k h1 h2 => (h' k h1 h2).trans (h k h1 h2)

theorem prefix_one (x : ByteArray) (h : 0 < x.size) : ((x.extract 0 1).toList == [120]) = Lib.hasPrefix x.data.toList [120] := by
  rw [Lib.toList_data, ByteArray.data_extract, Array.toList_extract]
  rw [Lib.size_eq] at h
  cases hl : x.data.toList with
  | nil => rw [hl] at h; exact absurd h (by simp)
  | cons c l =>
    unfold Lib.hasPrefix
    simp only [List.isPrefixOf, Bool.and_true]
    by_cases hc : c = 120
    · subst hc; rfl
    · have h1 : ((120 : UInt8) == c) = false := by simpa using fun e => hc e.symm
      have h2 : ((c :: l).extract 0 1 == [(120 : UInt8)]) = false := by
        show ([c] == [(120 : UInt8)]) = false
        simpa using hc
      rw [h1, h2]

set_option maxRecDepth 100000 in
set_option maxHeartbeats 1600000 in
theorem hasX_any (x : ByteArray) (b : Bool) (w : World) (hb : Hid (Lib.hasPrefix x.data.toList [120] = b)) (hs : x.size ≤ 100000) :
    Calls Tryz.prog 104 #[.string x, .string ⟨#[120]⟩] w fun e w' => e = .returned (.bool b) ∧ w' = w := by
  have h1 : Calls Tryz.prog 138 #[.string x, .string ⟨#[120]⟩] w fun e w' => e = .returned (.bool b) ∧ w' = w := by
    by_cases h0 : x.size = 0
    · have hg : ¬ (1 : Int) ≤ x.size := by omega
      obtain rfl : b = false := by
        rw [← hb.out, show x.data.toList = [] from List.eq_nil_of_length_eq_zero (by rw [← Lib.size_eq]; exact h0)]
        rfl
      clear hb h0
      go_enter Tryz.func138, Tryz.ntmps138
      go_wp2
      go_ret
      exact ⟨rfl, rfl⟩
    · have hg : (1 : Int) ≤ x.size := by omega
      have ht := (prefix_one x (by omega)).trans hb.out
      clear hb h0
      go_enter Tryz.func138, Tryz.ntmps138
      go_wp2
      go_ret
      exact ⟨rfl, rfl⟩
  clear hb
  go_enter Tryz.func104, Tryz.ntmps104
  go_wp2_with (first | (go_at_call 138; refine h1.mono ?_; rintro e w' ⟨rfl, rfl⟩))
  go_ret
  exact ⟨rfl, rfl⟩

theorem grown_set (W : World) (b i : Nat) (v : Value) : W.grownBy (W.setCell ⟨b, i, none⟩ v) (some b) :=
  ⟨rfl, rfl, rfl, (KeepsWalks.setCell W _ v).size, fun k _ hk => Below.heap_setCell _ _ _ k (fun e => hk (by rw [e]))⟩
/-- The row of a form's terms that read has made, and the memory below. -/
structure Rout (w W : World) (v : Value) (l : List Tm) : Prop where
  row : W.ownsRow (w.heap.size + 10) 68 2 v l.length (flatB l)
  below : Below w.heap.size w W
theorem Rout.step {w W W' : World} {v : Value} {l : List Tm} {k : Nat} (h : Rout w W v l) (hg : W.grownBy W' (some k)) (h1 : w.heap.size ≤ k) (h2 : k < w.heap.size + 10) : Rout w W' v l := by
  refine ⟨h.row.kept hg ?_, h.below.grown hg h.below.size (fun j e => by cases e; exact h1)⟩
  cases hv : v.ownBlock with
  | none => exact .inl rfl
  | some j => have := (h.row.lt j hv).1; exact .inr (by simp; omega)
theorem Rout.form {w W : World} {v : Value} {l : List Tm} (h : Rout w W v l) : ∃ ad cap, v = .slice ad l.length cap ∧ TsAt W (.slice ad l.length cap) l ∧ (ad = none → cap = 0) ∧ ∀ a, ad = some a → w.heap.size ≤ a.block := by
  have h0 := h.row
  rcases h.row.2 with ⟨rfl, e0⟩ | ⟨g, cap, cur, rfl, _⟩
  · have hl : l = [] := List.eq_nil_of_length_eq_zero e0
    subst hl
    exact ⟨none, 0, rfl, TsAt.nil W none 0, fun _ => rfl, fun a e => by cases e⟩
  · refine ⟨_, cap, rfl, terms_of_flat h0 rfl, (fun e => by cases e), fun a e => ?_⟩
    cases e
    have := (h0.lt g rfl).1
    dsimp only; omega
/-- What read's round adds to the row. -/
theorem Rdm.add {w W W' : World} {st : RdSt} {v v' : Value} {t : Tm} (h : Rdm w W st v) (hg : W.grownBy W' v.ownBlock) (hown : W'.ownsRow (w.heap.size + 10) 68 2 v' (st.terms.length + 1) (flatB st.terms ++ [.int .i64 t.1, .string t.2])) (hv : v'.ownBlock ≠ some (w.heap.size + 1)) :
    Rdm w (W'.setCell ⟨w.heap.size + 1, 0, none⟩ v') ⟨st.neg, st.size, st.terms ++ [t]⟩ v' := by
  have hb : ∀ k, v.ownBlock = some k → w.heap.size + 10 ≤ k := fun k e => (h.row.lt k e).1
  have h1 : ∀ k, k < w.heap.size + 10 → v.ownBlock ≠ some k := fun k hk e => by have := hb k e; omega
  have hs := grown_set W' (w.heap.size + 1) 0 v'
  refine ⟨(h.b0.grown hg (h1 _ (by omega))).grown hs (by simp), ?_, (h.b2.grown hg (h1 _ (by omega))).grown hs (by simp), (h.b3.grown hg (h1 _ (by omega))).grown hs (by simp), (h.b4.grown hg (h1 _ (by omega))).grown hs (by simp), ?_, ?_⟩
  · exact Bx.set0 (h.b1.grown hg (h1 _ (by omega))) v'
  · rw [flatB_snoc, List.length_append]
    refine World.ownsRow.kept hown hs ?_
    cases e : v'.ownBlock with
    | none => exact .inl rfl
    | some k => exact .inr (by rw [← e]; exact hv)
  · exact (h.below.grown hg h.below.size (fun k e => by have := hb k e; omega)).setCell (by dsimp only; omega) _

theorem heap_alloc_at (W : World) (o : Obj) (k : Nat) : (W.alloc o).heap[k]? = if k = W.heap.size then some o else W.heap[k]? := by
  show (W.heap.push o)[k]? = _
  rw [Array.getElem?_push]
set_option maxRecDepth 100000 in
theorem read_start (w : World) (M : ByteArray) (b : Bool) (c : Value) (hc : c = .func (.func 102) #[] #[.pointer (some ⟨w.heap.size + 1 + 1, 0, none⟩)]) :
    let W := (((((((w.alloc (.cells #[.slice none 0 0, .string ⟨#[]⟩] 24)).alloc (.cells #[.slice none 0 0, .string ⟨#[48]⟩] 24)).alloc (.cells #[.bool b] 4)).alloc (.cells #[.string ⟨#[]⟩] 9)).alloc (.cells #[c] 143)).alloc (.cells #[.string M] 9)).alloc (.cells #[.string ⟨#[32]⟩] 9)).alloc (.cells #[.int .i64 0] 3)
    Rdm w W ⟨b, ⟨#[]⟩, []⟩ (.slice none 0 0) ∧ Bo W (w.heap.size + 5) (.string M) ∧ Bo W (w.heap.size + 5 + 1) (.string ⟨#[32]⟩) ∧ Bo W (w.heap.size + 5 + 1 + 1) (.int .i64 0) := by
  subst hc
  intro W
  refine ⟨⟨⟨24, ?_⟩, ⟨24, ?_⟩, ⟨4, ?_⟩, ⟨9, ?_⟩, ⟨143, ?_⟩, ?_, ?_⟩, ⟨9, ?_⟩, ⟨9, ?_⟩, ⟨3, ?_⟩⟩ <;> subst W
  · simp only [heap_alloc_at, World.size_alloc]; (repeat (first | refine (if_pos (by omega)).trans ?_ | refine (if_neg (by omega)).trans ?_)); rfl
  · simp only [heap_alloc_at, World.size_alloc]; (repeat (first | refine (if_pos (by omega)).trans ?_ | refine (if_neg (by omega)).trans ?_)); rfl
  · simp only [heap_alloc_at, World.size_alloc]; (repeat (first | refine (if_pos (by omega)).trans ?_ | refine (if_neg (by omega)).trans ?_)); rfl
  · simp only [heap_alloc_at, World.size_alloc]; (repeat (first | refine (if_pos (by omega)).trans ?_ | refine (if_neg (by omega)).trans ?_)); rfl
  · simp only [heap_alloc_at, World.size_alloc]; (repeat (first | refine (if_pos (by omega)).trans ?_ | refine (if_neg (by omega)).trans ?_)); rfl
  · exact ⟨by simp [flatB], .inl ⟨rfl, rfl⟩⟩
  · repeat (refine Below.alloc ?_ (by simp <;> omega) _)
    exact Below.refl _ _
  · simp only [heap_alloc_at, World.size_alloc]; (repeat (first | refine (if_pos (by omega)).trans ?_ | refine (if_neg (by omega)).trans ?_)); rfl
  · simp only [heap_alloc_at, World.size_alloc]; (repeat (first | refine (if_pos (by omega)).trans ?_ | refine (if_neg (by omega)).trans ?_)); rfl
  · simp only [heap_alloc_at, World.size_alloc]; (repeat (first | refine (if_pos (by omega)).trans ?_ | refine (if_neg (by omega)).trans ?_)); rfl

theorem Rdm.three {w W : World} {st : RdSt} {v : Value} (h : Rdm w W st v) {sz : ByteArray} (hs : st.size = sz) {clo : Value} (hc : clo = .func (.func 102) #[] #[.pointer (some ⟨w.heap.size + 1 + 1, 0, none⟩)]) :
    W.cell? ⟨w.heap.size + 1, 0, none⟩ = some v ∧ W.cell? ⟨w.heap.size + 1 + 1 + 1, 0, none⟩ = some (.string sz) ∧ W.cell? ⟨w.heap.size + 1 + 1 + 1 + 1, 0, none⟩ = some clo :=
  ⟨h.b1.cell.1, by rw [← hs]; exact h.b3.cell.1, by rw [hc]; exact h.b4.cell.1⟩
theorem orT_size {a b : ByteArray} {n : Nat} (ha : a.size ≤ n) (hb : b.size ≤ n) : (orT a b).size ≤ n := by
  unfold orT
  split
  · exact hb
  · exact ha

theorem Rdm.three_grown {w W W' : World} {st : RdSt} {v : Value} (h : Rdm w W st v) (hg : W.grownBy W' v.ownBlock) {sz : ByteArray} (hs : st.size = sz) {clo : Value} (hc : clo = .func (.func 102) #[] #[.pointer (some ⟨w.heap.size + 1 + 1, 0, none⟩)]) :
    (W'.cell? ⟨w.heap.size + 1, 0, none⟩ = some v ∧ W'.cell? ⟨w.heap.size + 1 + 1 + 1, 0, none⟩ = some (.string sz) ∧ W'.cell? ⟨w.heap.size + 1 + 1 + 1 + 1, 0, none⟩ = some clo) ∧ W'.frozen? ⟨w.heap.size + 1, 0, none⟩ = false := by
  have h1 : ∀ k, k < w.heap.size + 10 → v.ownBlock ≠ some k := fun k hk e => by have := (h.row.lt k e).1; omega
  have hb := h.b1.grown hg (h1 _ (by omega))
  exact ⟨⟨hb.cell.1, by rw [← hs]; exact (h.b3.grown hg (h1 _ (by omega))).cell.1, by rw [hc]; exact (h.b4.grown hg (h1 _ (by omega))).cell.1⟩, hb.cell.2.2.1⟩
theorem Rdm.keeps {w W W' : World} {st : RdSt} {v : Value} (h : Rdm w W st v) (hg : W.grownBy W' v.ownBlock) (hW : w.heap.size + 5 + 5 ≤ W.heap.size) : KeepsLoop (w.heap.size + 5) W W' := fun k h1 h2 =>
  hg.block k (by omega) (fun e => by have := (h.row.lt k e.symm).1; omega)

end Go.Proofs.YtmdppblhbmbakaaGreatDoor
