/- The function literal of Reach at a type that is new. -/
import Derived.Test.YtphlokjhfbfogaaZJ
set_option linter.unusedVariables false
set_option linter.unusedSimpArgs false
namespace Go.Proofs.Ytphlokjhfbfogaa
open Go.RowKit Go.Shelf Go.Maps
attribute [local go_sem] Oper.semAt_some

set_option maxRecDepth 100000 in
set_option maxHeartbeats 1600000 in
theorem constructors_at (v : Value) (d : List DataM) (t : Int) (w0 w : World) (hv : DsAt w0 v d) (hbw : Below w0.heap.size w0 w) (hd : d.length ≤ 100) :
    Calls Try.prog 26 #[v, .int .i64 t] w fun e w' => ∃ u, e = .returned u ∧ CsAt w0 u (Dt.consOf d t) ∧ w' = w := by
  obtain ⟨ad, cap, rfl⟩ := hv.slice
  obtain ⟨n, hln⟩ : ∃ n, d.length = n := ⟨_, rfl⟩
  obtain ⟨r, hr⟩ : ∃ r, Dt.ok d t = r := ⟨_, rfl⟩
  rw [hln] at hv ⊢
  have HL := Lib.hid hln
  have HR := Lib.hid hr
  have HV := Lib.hid hv
  by_cases h0 : t = 0
  · subst h0
    have hc : Dt.consOf d 0 = [] := by simp [Dt.consOf]
    rw [hc]
    clear hv hr hln hbw
    go_enter Try.func26, Try.ntmps26
    go_wp2
    go_ret
    exact ⟨_, rfl, CsAt.nil _, rfl⟩
  · cases r with
    | false =>
      have hc : Dt.consOf d t = [] := by simp [Dt.consOf, hr]
      rw [hc]
      have ht0 : (t == 0) = false := by simp [h0]
      clear hv hr hln hc hbw
      go_enter Try.func26, Try.ntmps26
      go_wp2_with fail
      refine (exists_any ad n cap t d false w HL HR).mono ?_
      rintro e w' ⟨rfl, rfl⟩
      go_wp2
      go_ret
      exact ⟨_, rfl, CsAt.nil _, rfl⟩
    | true =>
      obtain ⟨h1, h2⟩ := (ok_iff d t).1 hr
      obtain ⟨k, hk⟩ : ∃ k : Nat, t = k + 1 := ⟨(t - 1).toNat, by omega⟩
      have hkd : k < d.length := by omega
      have hc : Dt.consOf d t = d[k].cons := by
        have e1 : (t - 1).toNat = k := by omega
        simp [Dt.consOf, h0, hr, e1, List.getElem?_eq_getElem hkd]
      rw [hc]
      subst hk
      obtain ⟨b, off, fa, fc, rfl, hb, c0, c1, hcs⟩ := hv.at k hkd
      obtain ⟨fl, hfl⟩ : ∃ fl, d[k].cons.length = fl := ⟨_, rfl⟩
      rw [hfl] at c1 hcs
      have HC := Lib.hid hcs
      have c1 := (hbw.cell (p := ⟨b, off + k * 2 + 1, none⟩) hb).trans c1
      have hb := Nat.lt_of_lt_of_le hb hbw.size
      have ht0 : ((k : Int) + 1 == 0) = false := by simp; omega
      have hs1 : IntKind.i64.wrap ((k : Int) + 1 - 1) = k := by rw [show (k : Int) + 1 - 1 = k by omega]; exact IntWalk.i64_in _ (by omega)
      have hkn : (k : Int) < n := by omega
      clear hfl hv hr hln hc hcs h0 h1 h2 c0 hbw
      go_enter Try.func26, Try.ntmps26
      go_wp2_with fail
      refine (exists_any _ n cap ((k : Int) + 1) d true w HL HR).mono ?_
      rintro e w' ⟨rfl, rfl⟩
      go_wp2
      go_ret
      exact ⟨_, rfl, HC.out, rfl⟩


theorem backC_stops (nF Bn : Nat) (hn : 1 ≤ nF) (w0 w : World) (cs : List ConM) (hsm : ∀ c ∈ cs, SmC c) (ad : Option Addr) (n cap : Nat) (hcs : CsAt w0 (.slice ad n cap) cs) (hln : cs.length = n) (hbig : n ≤ 100000)
    (Kp : World → World → Prop) (hKp : ∀ A B k, Kp A B → (k < w0.heap.size ∨ k = Bn) → A.heap[k]? = B.heap[k]?) (hw : ∀ k, k < w0.heap.size → w.heap[k]? = w0.heap[k]?) (hle : w0.heap.size ≤ w.heap.size) (hBn : Bn < w.heap.size) (hc : w.cell? ⟨Bn, 0, none⟩ = some (.slice ad n cap)) :
    SeqStopsK Fence.wide nF Try.prog 47 #[.pointer (some ⟨Bn, 0, none⟩)] (encC w0) Kp (fun ys => ys.map (fun x => x.1.2.1) = cs.reverse) (fun _ => True) n w :=
  fun l J Jx W hW _ _ hY h0 => backC_in nF l Bn hn w0 cs hsm ad n cap hcs hln hbig Kp hKp J Jx hY W (fun k hk => (hW.block k (Nat.lt_of_lt_of_le hk hle)).trans (hw k hk)) ((hW.cell (p := ⟨Bn, 0, none⟩) hBn).trans hc) h0
theorem backF_stops (nF Bn : Nat) (hn : 1 ≤ nF) (w0 w : World) (cs : List Int) (hsm : ∀ c ∈ cs, In64 c) (ad : Option Addr) (n cap : Nat) (hcs : FsAt w0 (.slice ad n cap) cs) (hln : cs.length = n) (hbig : n ≤ 100000)
    (Kp : World → World → Prop) (hKp : ∀ A B k, Kp A B → (k < w0.heap.size ∨ k = Bn) → A.heap[k]? = B.heap[k]?) (hw : ∀ k, k < w0.heap.size → w.heap[k]? = w0.heap[k]?) (hle : w0.heap.size ≤ w.heap.size) (hBn : Bn < w.heap.size) (hc : w.cell? ⟨Bn, 0, none⟩ = some (.slice ad n cap)) :
    SeqStopsK Fence.wide nF Try.prog 48 #[.pointer (some ⟨Bn, 0, none⟩)] encF Kp (fun ys => ys.map (fun x => x.1.2) = cs.reverse) (fun _ => True) n w :=
  fun l J Jx W hW _ _ hY h0 => backF_in nF l Bn hn w0 cs hsm ad n cap hcs hln hbig Kp hKp J Jx hY W (fun k hk => (hW.block k (Nat.lt_of_lt_of_le hk hle)).trans (hw k hk)) ((hW.cell (p := ⟨Bn, 0, none⟩) hBn).trans hc) h0

theorem LfR.join {A : Ad} {W0 W1 W : World} {vl v : Value} {l1 : List Int} (h2 : v.ownBlock = vl.ownBlock ∨ ∃ g, v.ownBlock = some g ∧ W0.heap.size ≤ g) (h3 : KeepsBut W0.heap.size A.bl vl.ownBlock W0 W1) (h4 : Below A.base W0 W1) (h : LfR A W1 v W l1) : LfR A W0 vl W l1 ∧ KeepsBut W0.heap.size A.bl vl.ownBlock W1 W := by
  obtain ⟨v', r1, r2, r3, r4⟩ := h
  have hk : KeepsBut W0.heap.size A.bl vl.ownBlock W1 W := ⟨r3.1, fun k a b c => r3.2 k (Nat.lt_of_lt_of_le a h3.1) b (fun e => by
    rcases h2 with e2 | ⟨g, e2, hg⟩
    · exact c (e.trans e2)
    · rw [e2] at e; cases e; omega)⟩
  refine ⟨⟨v', r1, ?_, h3.trans hk, h4.trans r4⟩, hk⟩
  rcases r2 with r2 | ⟨g, r2, hg⟩
  · rcases h2 with e2 | ⟨g, e2, hg⟩
    · exact .inl (r2.trans e2)
    · exact .inr ⟨g, r2.trans e2, hg⟩
  · exact .inr ⟨g, r2, Nat.le_trans h3.1 hg⟩

theorem KeepsFrom.weaken {B B' : Nat} {X Y : World} (h : KeepsFrom B X Y) (hB : B ≤ B') : KeepsFrom B' X Y := ⟨h.size, fun k o hk h0 ho => h.same k o (Nat.le_trans hB hk) h0 ho⟩

/-- The fields of constructors in the order in which a loop from the end comes to them. -/
def fieldsB {w0 : World} (pre : List (AC w0)) : List Int := pre.flatMap (fun x => x.1.2.1.fields.reverse)
theorem fieldsB_snoc {w0 : World} (pre : List (AC w0)) (x : AC w0) : fieldsB (pre ++ [x]) = fieldsB pre ++ x.1.2.1.fields.reverse := by simp [fieldsB]
theorem fieldsB_all {w0 : World} {pre : List (AC w0)} {d : List DataM} {t : Int} (h : pre.map (fun x => x.1.2.1) = (Dt.consOf d t).reverse) : fieldsB pre = (Dt.fieldsOf d t).reverse := by
  have e : fieldsB pre = (pre.map (fun x => x.1.2.1)).flatMap (fun c => c.fields.reverse) := by
    unfold fieldsB
    rw [List.flatMap_map]
  rw [e, h, Dt.fieldsOf]
  generalize Dt.consOf d t = cs
  induction cs with
  | nil => rfl
  | cons c cs ih => simp [List.flatMap_append, ih]
theorem fieldsB_length {w0 : World} (pre : List (AC w0)) : (fieldsB pre).length ≤ 100 * pre.length := by
  induction pre with
  | nil => simp [fieldsB]
  | cons x pre ih =>
    have h1 := x.2.2.2.1
    unfold fieldsB at ih ⊢
    rw [List.flatMap_cons, List.length_append, List.length_reverse, List.length_cons]
    omega

/-- The law of a loop over an iterator whose variable lies in a box of its own each round. -/
theorem rangeH {α : Type} {F : Fence} {n : Nat} {P : Program} {g : Operand} {ps : Array Tmp} {assign body : Code} {Q : Exit → Act → World → Prop} {a : Act} {w : World}
    (hro : F.round = none) (h1 : 1 ≤ n) {gf : Nat} {lb : Array Value} (hg : a.eval g = .func (.func gf) #[] lb) (hFg : F.fn gf) (eg : ∀ args w, (callFunc gf args).run P w = .ok (.enter gf args) w)
    {encs : α → Array Value} {Kp : World → World → Prop} {S Sp : List α → Prop} {N : Nat} (hseq : SeqStopsK F (n - 1) P gf lb encs Kp S Sp N w)
    (hKt : ∀ {A B C : World}, Kp A B → Kp B C → Kp A C) (hKb : ∀ (W : World) (l : Nat) (o o' : Obj), w.heap.size ≤ l → W.heap[l]? = some o → o.isCells = false → o.isWalk = false → Kp W (W.putObj l o')) (hps : ∀ x, (encs x).size = ps.size)
    (I : List α → World → Prop) (hI : OwnFrom w.heap.size I) (h0 : I [] w) (R : α → Nat → World → Prop) (hR : ∀ x b, OwnFrom w.heap.size (fun (_ : Unit) W => R x b W)) (a₁ : α → Nat → Act)
    (hassign : ∀ (l : Nat) (pre : List α) (x : α) (W : World) (K : Act → World → Prop), I pre W → (∀ b W', KeepsFrom w.heap.size W W' → Kp W W' → I pre W' → R x b W' → K (a₁ x b) W') →
      assign.wpIn (F.inRound l) (n - 1 - 1) P (Exit.then K (fun _ _ _ => False)) { tmps := (ps.zip (encs x)).foldl (fun t (p, v) => t.setIfInBounds p v) a.tmps, defers := [] } W)
    (hbody : ∀ (l : Nat) (pre : List α) (x : α) (b : Nat) (W : World), w.heap.size ≤ l → (∃ r, W.heap[l]? = some (.loop r)) → I pre W → R x b W → pre.length < N → body.wpIn (F.inRound l) (n - 1 - 1) P (ownPostG w.heap.size Kp I (fun _ _ _ => False) (pre ++ [x]) W) (a₁ x b) W)
    (hdone : ∀ (D : Nat) (xs : List α) (W : World), w.heap.size ≤ D → S xs → I xs W → W.heap[D]? = some (.deferred (some [])) → Q .normal { a with defers := { target := .collected D, args := #[] } :: a.defers } W) :
    (Code.rangeFunc g ps assign body).wpIn F n P Q a w :=
  wpIn_rangeFunc_ownH hro h1 hg hFg eg hseq (fun h k => hKt h k) hKb (Below.refl _ _) hps I (fun _ _ _ => False) hI (fun _ _ _ _ _ hs _ _ => hs) h0 (fun x a' W => ∃ b, R x b W ∧ a' = a₁ x b)
    (fun x a' s X Y row hs hg hr => by obtain ⟨b, h1, h2⟩ := hs; exact ⟨b, hR x b () X Y row h1 hg hr, h2⟩)
    (fun l pre x W K hi hK => hassign l pre x W K hi (fun b W' k1 k2 k3 k4 => hK _ _ k1 k2 k3 ⟨b, k4, rfl⟩))
    (fun l pre x a' W hl hr hi ha hlen => by obtain ⟨b, h1, rfl⟩ := ha; exact hbody l pre x b W hl hr hi h1 hlen)
    hdone (fun D c pre W _ _ h _ => h.elim)

/-- The law of a loop over an iterator within a round, whose variable lies in a slot. -/
theorem rangeN {α : Type} {F : Fence} {n : Nat} {P : Program} {g : Operand} {ps : Array Tmp} {assign body : Code} {Q : Exit → Act → World → Prop} {a : Act} {w : World} {l₀ : Nat} {r₀ : Loop}
    (hro : F.round = some l₀) (hl₀ : w.heap[l₀]? = some (.loop r₀)) (h1 : 1 ≤ n) {gf : Nat} {lb : Array Value} (hg : a.eval g = .func (.func gf) #[] lb) (hFg : F.fn gf) (eg : ∀ args w, (callFunc gf args).run P w = .ok (.enter gf args) w)
    {encs : α → Array Value} {Kp : World → World → Prop} {S Sp : List α → Prop} {N : Nat} (hseq : SeqStopsK F (n - 1) P gf lb encs Kp S Sp N w)
    (hKt : ∀ {A B C : World}, Kp A B → Kp B C → Kp A C) (hKb : ∀ (W : World) (l : Nat) (o o' : Obj), w.heap.size ≤ l → W.heap[l]? = some o → o.isCells = false → o.isWalk = false → Kp W (W.putObj l o')) (hps : ∀ x, (encs x).size = ps.size) (hKr : ∀ W, Kp W W)
    (I : List α → World → Prop) (hI : OwnFrom w.heap.size I) (h0 : I [] w) (a₂ : α → Act)
    (hassign : ∀ (l : Nat) (x : α) (W : World) (K : Act → World → Prop), K (a₂ x) W →
      assign.wpIn (F.inRound l) (n - 1 - 1) P (Exit.then K (fun _ _ _ => False)) { tmps := (ps.zip (encs x)).foldl (fun t (p, v) => t.setIfInBounds p v) a.tmps, defers := [] } W)
    (hbody : ∀ (l : Nat) (pre : List α) (x : α) (W : World), I pre W → pre.length < N → body.wpIn (F.inRound l) (n - 1 - 1) P (ownPostG w.heap.size Kp I (fun _ _ _ => False) (pre ++ [x]) W) (a₂ x) W)
    (hdone : ∀ (xs : List α) (W : World), S xs → I xs W → Q .normal a W) :
    (Code.rangeFunc g ps assign body).wpIn F n P Q a w :=
  wpIn_rangeFunc_ownN hro hl₀ h1 hg hFg eg hseq (fun h k => hKt h k) hKb (Below.refl _ _) hps I (fun _ _ _ => False) hI (fun _ _ _ _ _ hs _ _ => hs) h0 (fun x a' _ => a' = a₂ x) (fun _ _ _ _ _ _ hs _ _ => hs)
    (fun l pre x W K hi hK => hassign l x W K (hK _ _ (KeepsFrom.refl _ _) (hKr W) hi rfl))
    (fun l pre x a' W _ _ hi ha hlen => by subst ha; exact hbody l pre x W hi hlen)
    hdone (fun c pre W _ h => h.elim)

/-- The last field is taken off. -/
theorem Sv.cut {A : Ad} (hA : A.Good) {w : World} {dv : Value} {W : World} {o l : List Int} {f : Int} {vo : Value} {av : Option Addr} {n cap : Nat} (hn : l.length = n) (h : Sv A w dv W o (l ++ [f]) vo (.slice av (n + 1) cap)) :
    ∃ g, av = some ⟨g, 0, none⟩ ∧ n + 1 ≤ cap ∧ W.cell? ⟨g, n, none⟩ = some (.int .i64 f) ∧ Sv A w dv (W.setCell ⟨A.bl, 0, none⟩ (.slice av n cap)) o l vo (.slice av n cap) := by
  have g3 := hA.h3; have g4 := hA.h4; have g5 := hA.h5; have g6 := hA.h6; have g1 := hA.h1; have g2 := hA.h2
  obtain ⟨hb, hl, hr⟩ := h.left
  rcases hr with ⟨hv, _⟩ | ⟨g, cap', cur, hv, hg, hgb, hnc, hcm, hcs, htk⟩
  · cases hv
  · rw [List.length_append, List.length_singleton, hn] at hv hnc htk
    cases hv
    have hlt := (Array.getElem?_eq_some_iff.1 hgb).1
    have hcur : cur.toList.take (n * 1) = ints l := by
      have := congrArg (List.take (n * 1)) htk
      rw [List.take_take, Nat.min_eq_left (by omega), ints_snoc, List.take_left' (by simp [ints, hn])] at this
      exact this
    have hcell : cur[n]? = some (.int .i64 f) := by
      have h1 := congrArg (fun l => l[n]?) htk
      simp only [ints_snoc] at h1
      rw [List.getElem?_take_of_lt (by omega), List.getElem?_append_right (by simp [ints, hn])] at h1
      simpa [ints, hn] using h1
    have far : ∀ k, k ≠ A.bl → (W.setCell ⟨A.bl, 0, none⟩ (.slice (some ⟨g, 0, none⟩) n cap)).heap[k]? = W.heap[k]? := fun k hk => Below.heap_setCell _ _ _ k hk
    refine ⟨g, rfl, hnc, by simp [World.cell?, hgb, hcell], ⟨h.below.trans ((Below.refl _ W).setCell (p := ⟨A.bl, 0, none⟩) (by show A.base ≤ A.bl; omega) _), (far _ (by omega)).trans h.bd, (far _ (by omega)).trans h.bm, (far _ (by omega)).trans h.bc, h.map.keep (far _ (by omega)), h.out.keep (far _ (by omega)) (fun g' hg' => far _ (by have := (h.out.block hg').1; omega)), ⟨hb.set _, by simp [ints], .inr ⟨g, cap, cur, by rw [hn], hg, (far g (by omega)).trans hgb, by omega, hcm, hcs, by rw [hn]; exact hcur⟩⟩, fun g' hg' e => h.apart g' hg' e⟩⟩

/-- How many fields are left. -/
def leftLen (A : Ad) (W : World) : Nat := match W.cell? ⟨A.bl, 0, none⟩ with
  | some (.slice _ n _) => n
  | _ => 0
theorem leftLen_of {A : Ad} {W : World} {v : Value} {l : List Int} (h : RowIn A W A.bl v l) : leftLen A W = l.length := by
  obtain ⟨ad, cap, rfl⟩ := h.slice
  unfold leftLen
  rw [h.1.cell]

/-- What is asked of the function literal at so many calls. -/
def ColOk (A : Ad) (w : World) (d : List DataM) (dv : Value) (k : Nat) : Prop :=
  ∀ (t depth : Int) (W : World) (o l : List Int), In64 t → 0 ≤ depth → depth + k ≤ 900 → St A w dv W o l → Dt.unmet d o < k → o.length + Dt.unmet d o ≤ 200 → l.length + 10000 * k ≤ 2000000 →
    Calls Try.prog 23 (colArgs A t depth) W fun e W' => (∃ v, e = .returned v) ∧ St A w dv W' (Dt.reachF d k t o) l ∧ KeepsFrom (A.bc + 1) W W'

set_option maxRecDepth 100000 in
set_option maxHeartbeats 12800000 in
theorem collect_new (A : Ad) (hA : A.Good) (w : World) (hbase : A.base = w.heap.size) (d : List DataM) (hd : Sm d) (dv : Value) (hdv : DsAt w dv d) (k : Nat) (ih : ColOk A w d dv k) (t depth : Int) (W : World) (o l : List Int)
    (ht : In64 t) (hd0 : 0 ≤ depth) (hdep : depth + (k + 1) ≤ 900) (hS : St A w dv W o l) (hun : Dt.unmet d o < k + 1) (hol : o.length + Dt.unmet d o ≤ 200) (hll : l.length + 10000 * (k + 1) ≤ 2000000) (hto : ¬ t ∈ o) (hok : Dt.ok d t = true) :
    Calls Try.prog 23 (colArgs A t depth) W fun e W' => (∃ v, e = .returned v) ∧ St A w dv W' ((Dt.fieldsOf d t).foldl (fun l f => Dt.reachF d k f l) (o ++ [t])) l ∧ KeepsFrom (A.bc + 1) W W' := by
  obtain ⟨vo, vl, hs⟩ := hS
  obtain ⟨ao, co, rfl⟩ := hs.out.slice
  obtain ⟨al, cl, rfl⟩ := hs.left.slice
  obtain ⟨ad, cap, hdvE⟩ := hdv.slice
  have g3 := hA.h3; have g4 := hA.h4; have g5 := hA.h5; have g6 := hA.h6; have g1 := hA.h1; have g2 := hA.h2
  have hcm := hs.bm.cell
  have hcd := hs.bd.cell
  have HA := Lib.hid hA
  have HS := Lib.hid hs
  have hWs := hs.below.size
  have hbW : A.base ≤ W.heap.size := by rw [hbase]; exact hWs
  have HDW : Hid (DsAt W dv d) := Lib.hid (hdv.keep hs.below (by rw [hbase]; exact Nat.le_refl _))
  have HK := Lib.hid (keyOf_int_mk Try.underlying27 (wf64 ht))
  have HR : Hid (Dt.keyI o (.int .i64 t) = false) := Lib.hid (by rw [Dt.keyI_in]; exact decide_eq_false hto)
  have HE := Lib.hid (exists_any ad d.length cap t d true W (Lib.hid rfl) (Lib.hid hok))
  have HM := Lib.hid hs.map
  obtain ⟨no, hno⟩ : ∃ no, o.length = no := ⟨_, rfl⟩
  obtain ⟨nl, hnl⟩ : ∃ nl, l.length = nl := ⟨_, rfl⟩
  obtain ⟨nd, hnd⟩ : ∃ nd, d.length = nd := ⟨_, rfl⟩
  rw [hno] at HS hol HM
  rw [hnl] at HS hll
  rw [hnd] at HE hdvE
  rw [hdvE] at hcd HDW
  have HDE := Lib.hid hdvE
  have HNO := Lib.hid hno
  have HNL := Lib.hid hnl
  have HND := Lib.hid hnd
  have HUN := Lib.hid hun
  have HOL := Lib.hid hol
  have HLL := Lib.hid hll
  have HD := Lib.hid hd
  have HBA := Lib.hid hbase
  have HOK := Lib.hid hok
  have HTO := Lib.hid hto
  have HDV := Lib.hid hdv
  have hno2 : no ≤ 200 := by omega
  have hnl2 : nl ≤ 2000000 := by omega
  obtain ⟨i0, hi, hz0, hz1, hz2⟩ := info_parts infoType
  have HI := Lib.hid hi
  have HZ0 := Lib.hid hz0
  have HZ1 := Lib.hid hz1
  have HZ2 := Lib.hid hz2
  have HT := Lib.hid ht
  have HDP := Lib.hid (And.intro hd0 hdep)
  clear hdvE hs hno hnl hnd hun hol hll hd hbase hok hto hdv hi hz0 hz1 hz2 hA ht hd0 hdep
  unfold colArgs
  refine (callsIn_wide (n := 8)).1 ?_
  refine callsIn_of_wp_marks Try.func23 rfl trivial ?_ rfl
  simp only [Try.ntmps23, List.size_toArray, List.length_cons, List.length_nil, Nat.reduceAdd, Nat.reduceSub, Array.replicate_succ, Array.replicate_zero, List.push_toArray, List.append_toArray, List.nil_append, List.cons_append]
  gi_wp2_with (first | (gi_at_lookup; refine wpListIn_set_look _ rfl _ _ 46 rfl 27 lawTyp Try.underlying46 A.mb _ _ rfl HM.out _ _ rfl HK.out false HR.out ?_) | (refine ⟨trivial, ?_⟩; gi_at_call 24; refine (callsIn_wide.2 HE.out).mono ?_; rintro e w' ⟨rfl, h⟩; rw [h]; clear h w') | (gi_at_mapUpdate; refine wpListIn_set_store _ rfl _ _ _ 46 rfl 27 lawTyp Try.underlying46 A.mb _ _ rfl HM.out (by unfold maxLen; omega) _ _ rfl rfl HK.out trivial ?_; intro w1 hs1 hg1; refine hold ?_))
  have hs1' : MapSet w1 27 A.mb (o.length + 1) (Dt.keyI (o ++ [t])) := by rw [HNO.out]; exact hs1.to (Dt.keyI_snoc o t)
  obtain ⟨hbo1, hro1, hsz1⟩ := (HS.out.met HA.out (w2 := w1) (vo' := .bool false) (tmp := .cells #[] 0) hbW hs1' hg1).1
  rw [HNO.out] at hro1
  have HS1 := Lib.hid hs1'
  have HG1 := Lib.hid hg1
  have HRO := Lib.hid hro1
  have hco := hbo1.cell
  clear hs1 hs1' hg1 hro1 hcm hcd HM HE
  refine go_on ?_
  gi_wp2_with (first | (gi_at_builtin; refine wpListIn_append_own_at _ rfl _ _ 32 rfl (A.bc + 1) 27 i0 (.int .i64 0) 1 8 Try.underlying32 HI.out HZ0.out HZ1.out HZ2.out rfl (by decide) _ _ _ rfl (HRO.out.alloc _) ⟨w1.heap.size, 0, none⟩ 1 1 [.int .i64 t] rfl rfl (cell_one_new _ _ _) (by intro u hu; simp at hu; subst hu; rfl) (by unfold maxLen; omega) (by omega) (by simp; omega) ?_; intro vo' w2 hown2 hgrow2 hnil2 hloc2; refine hold ?_))
  have hg2 : (w1.alloc (.cells #[.int .i64 t] 27)).grownBy w2 (Value.slice ao no co).ownBlock := hgrow2
  have hl2 : vo'.ownBlock = (Value.slice ao no co).ownBlock ∨ vo'.ownBlock = some (w1.alloc (.cells #[.int .i64 t] 27)).heap.size := hloc2
  obtain ⟨hbx2, hsv2, hkf2⟩ := (HS.out.met HA.out (w2 := w2) (vo' := vo') (tmp := .cells #[.int .i64 t] 27) hbW HS1.out HG1.out).2 (by rw [HNO.out]; exact hown2) hg2 hl2
  obtain ⟨go, co', rfl⟩ := ownsRow_succ hown2
  have hc2 := hbx2.cell
  have hf2 := hbx2.frozen
  have hcl2 := hsv2.left.1.cell
  have hcd2 := hsv2.bd.cell
  rw [HDE.out] at hcd2
  have HSV := Lib.hid hsv2
  have HKF := Lib.hid hkf2
  have HBW2 : Hid (Below w.heap.size w (w2.setCell ⟨A.bo, 0, none⟩ (.slice (some ⟨go, 0, none⟩) (no + 1) co'))) := Lib.hid (by rw [← HBA.out]; exact hsv2.below)
  have HCC := Lib.hid (constructors_at (.slice ad nd cap) d t w _ (by have h := HDV.out; rw [HDE.out] at h; exact h) HBW2.out HD.out.1)
  clear hg2 hl2 hbx2 hsv2 hkf2 hown2 hgrow2 hnil2 hloc2 hco hbo1 HRO HG1 HS1 HI HZ0 HZ1 HZ2 HK HR hWs hbW HDW
  refine go_on ?_
  gi_wp2_with (first | (refine ⟨trivial, ?_⟩; gi_at_call 26; refine (callsIn_wide.2 HCC.out).mono ?_; rintro e w' ⟨u, rfl, hu, h⟩; rw [h]; clear h w'; refine hold ?_))
  obtain ⟨au, cu, rfl⟩ := hu.slice
  have HU := Lib.hid hu
  have HUL := Lib.hid (consOf_length HD.out t)
  obtain ⟨nu, hnu⟩ : ∃ nu, (Dt.consOf d t).length = nu := ⟨_, rfl⟩
  rw [hnu] at HU HUL ⊢
  have HNU := Lib.hid hnu
  clear hu hnu hc2 hf2 hcl2 hcd2 HCC
  generalize w2.setCell ⟨A.bo, 0, none⟩ (.slice (some ⟨go, 0, none⟩) (no + 1) co') = W2 at HSV HKF HBW2 ⊢
  generalize w1.heap.size = s1
  clear hno2 HS
  refine go_on ?_
  gi_wp2_with (first | (refine ⟨trivial, ?_⟩; gi_at_call 25; refine (backC_make _ _ _ au nu cu rfl).mono ?_; rintro e w' ⟨rfl, h⟩; rw [h]; clear h w'))
  have hbl2 := HSV.out.left.1.lt
  have hbs2 : A.base ≤ W2.heap.size := by rw [HBA.out]; exact HBW2.out.size
  have HR3 : Hid (RowIn A (W2.alloc (.cells #[.slice au nu cu] 35)) A.bl (.slice al nl cl) l) := Lib.hid (HSV.out.left.keep (Below.heap_alloc _ _ _ hbl2) (fun g hg => Below.heap_alloc _ _ _ (HSV.out.left.block hg).2))
  have HSV3 := Lib.hid (HSV.out.turn (W' := W2.alloc (.cells #[.slice au nu cu] 35)) ((Below.refl _ W2).alloc hbs2 _) (fun k hk _ => Below.heap_alloc _ _ _ hk))
  have HKF3 := Lib.hid (HKF.out.trans ((KeepsOthers.alloc W2 (.cells #[.slice au nu cu] 35)).from _))
  have HB3 : Hid (Boxed (W2.alloc (.cells #[.slice au nu cu] 35)) W2.heap.size 35 (.slice au nu cu)) := Lib.hid (Boxed.new W2 _ _)
  have HBW3 := Lib.hid (HBW2.out.alloc HBW2.out.size (.cells #[.slice au nu cu] 35))
  have HSZ3 : Hid ((W2.alloc (.cells #[.slice au nu cu] 35)).heap.size = W2.heap.size + 1) := Lib.hid (by simp)
  obtain ⟨Bn, hBn⟩ : ∃ Bn, W2.heap.size = Bn := ⟨_, rfl⟩
  rw [hBn] at HB3 HSZ3 hbl2 hbs2 ⊢
  have HVB : Hid (∀ g, (Value.slice al nl cl).ownBlock = some g → A.bc + 1 ≤ g ∧ g < Bn) := Lib.hid (fun g hg => by rw [← hBn]; exact HSV.out.left.block hg)
  clear hBn HSV HKF HBW2
  generalize W2.alloc (.cells #[.slice au nu cu] 35) = W3 at HR3 HSV3 HKF3 HB3 HBW3 HSZ3 ⊢
  clear W2
  have hsz3 := HSZ3.out
  have hbl3 : A.bl < W3.heap.size := by omega
  have hbs3 : A.base ≤ W3.heap.size := by omega
  have hkp : ∀ X Y k, KeepsBut W3.heap.size A.bl (Value.slice al nl cl).ownBlock X Y → (k < w.heap.size ∨ k = Bn) → X.heap[k]? = Y.heap[k]? := fun X Y k h hk => by
    have h0 := HBA.out
    refine (h.2 k ?_ ?_ ?_).symm
    · have := HBW3.out.size; omega
    · rcases hk with hk | hk <;> omega
    · intro e
      have := HVB.out k e.symm
      rcases hk with hk | hk <;> omega
  have hstop := backC_stops 7 Bn (by omega) w W3 (Dt.consOf d t) (fun c hc => by obtain ⟨x, hx, hcx⟩ := consOf_mem hc; exact (HD.out.2 x hx).2.2 c hcx) au nu cu HU.out HNU.out (by have := HUL.out; omega) (KeepsBut W3.heap.size A.bl (Value.slice al nl cl).ownBlock) hkp (fun k hk => HBW3.out.block k hk) HBW3.out.size (by omega) HB3.out.cell
  have HSTOP := Lib.hid hstop
  clear hstop hkp
  refine' rangeH rfl (by omega) (gf := 47) (lb := #[.pointer (some ⟨Bn, 0, none⟩)]) rfl trivial (enters_of Try.func47 (by kernel_rfl) rfl) HSTOP.out
    (fun h k => h.trans k) (fun W l o o' hl _ _ _ => KeepsBut.putObj W l o' hl) (fun _ => rfl)
    (fun pre W => LfR A W3 (.slice al nl cl) W (l ++ fieldsB pre) ∧ KeepsFrom (A.bc + 1) W3 W) (OwnFrom.and (LfR.own HA.out (fun pre => l ++ fieldsB pre) hbl3 hbs3) (ownFrom_keepsFrom (Nat.le_refl _)))
    ⟨by simpa [fieldsB] using LfR.start HR3.out, KeepsFrom.refl _ _⟩
    (fun x b W => W3.heap.size ≤ b ∧ W.heap[b]? = some (.cells #[.string x.1.2.1.name, .slice x.1.2.2.1 x.1.2.1.fields.length x.1.2.2.2] 34 (0, 0))) ?hR _ ?assign ?body ?done
  case hR =>
    intro x b s X Y row hs hg hr
    exact ⟨hs.1, (hg.block b (Array.getElem?_eq_some_iff.1 hs.2).1 (fun e => by
      obtain ⟨ob, ho, hc⟩ := (hr b e.symm).2
      rw [hs.2] at ho
      cases ho
      cases hc)).trans hs.2⟩
  case assign =>
    intro lp pre x W K hi hK
    have HI := Lib.hid hi
    have HKK := Lib.hid hK
    clear hi hK
    unfold encC
    gi_wp2
    have key : ∀ B, W.heap.size = B → K (_) (W.alloc (.cells #[.string x.1.2.1.name, .slice x.1.2.2.1 x.1.2.1.fields.length x.1.2.2.2] 34)) := fun B e => HKK.out B _ ((KeepsOthers.alloc _ _).from _) ⟨by simp, fun k hk _ _ => Below.heap_alloc _ _ _ (by
        obtain ⟨⟨v, r1, r2, r3, r4⟩, _⟩ := HI.out
        exact Nat.lt_of_lt_of_le hk r3.1)⟩ ⟨(LfR.own HA.out (fun pre => l ++ fieldsB pre) hbl3 hbs3).alloc _ HI.out.1, HI.out.2.trans ((KeepsOthers.alloc _ _).from _)⟩ ⟨by
        obtain ⟨⟨v, r1, r2, r3, r4⟩, _⟩ := HI.out
        rw [← e]
        exact r3.1, by rw [← e]; exact World.alloc_heap_new W _⟩
    obtain ⟨B, hB⟩ : ∃ B, W.heap.size = B := ⟨_, rfl⟩
    rw [hB]
    exact key B hB
  case body =>
    rintro lp pre x b W hlp ⟨rr, hrr⟩ hi ⟨hb, hbox⟩ hlen
    have hfs := x.2.1
    have HSC := Lib.hid x.2.2
    have c1 : W.cell? ⟨b, 1, none⟩ = some (.slice x.1.2.2.1 x.1.2.1.fields.length x.1.2.2.2) := by simp [World.cell?, hbox]
    obtain ⟨fl, hfl⟩ : ∃ fl, x.1.2.1.fields.length = fl := ⟨_, rfl⟩
    obtain ⟨fa, hfa⟩ : ∃ fa, x.1.2.2.1 = fa := ⟨_, rfl⟩
    obtain ⟨fc, hfc⟩ : ∃ fc, x.1.2.2.2 = fc := ⟨_, rfl⟩
    obtain ⟨nm, hnm⟩ : ∃ nm, x.1.2.1.name = nm := ⟨_, rfl⟩
    obtain ⟨ix, hix⟩ : ∃ ix, x.1.1 = ix := ⟨_, rfl⟩
    rw [hfl, hfa, hfc] at c1 hfs
    rw [hfl, hfa, hfc, hnm, hix]
    have HFS := Lib.hid hfs
    have HI := Lib.hid hi
    have HRR := Lib.hid hrr
    have HLEN := Lib.hid hlen
    have HFL := Lib.hid hfl
    clear hfs hi hrr hlen hbox hfl hfa hfc hnm hix
    gi_wp2_with (first | (refine ⟨trivial, ?_⟩; gi_at_call 27; refine (CallsIn.inRound lp (backF_make _ _ _ fa fl fc rfl)).mono ?_; rintro e w' ⟨rfl, h⟩; rw [h]; clear h w'))
    obtain ⟨⟨v, r1, r2, r3, r4⟩, hkfi⟩ := HI.out
    have HKFI := Lib.hid hkfi
    obtain ⟨av, cv, rfl⟩ := r1.slice
    obtain ⟨lc, hlc⟩ : ∃ lc, l ++ fieldsB pre = lc := ⟨_, rfl⟩
    rw [hlc] at r1 r2
    have hnlc : lc.length ≤ 2010000 := by
      have h1 := fieldsB_length pre
      have h2 := HNL.out
      have h3 := HLEN.out
      have h4 := HUL.out
      rw [← hlc, List.length_append]
      omega
    obtain ⟨nlc, hnl2'⟩ : ∃ nlc, lc.length = nlc := ⟨_, rfl⟩
    rw [hnl2'] at r1 r2 hnlc
    have hblW := r1.1.lt
    have hszW := r3.1
    have hvb : ∀ g, (Value.slice av nlc cv).ownBlock = some g → A.bc + 1 ≤ g ∧ g < W.heap.size := fun g hg => r1.block hg
    have rI : RowIn A (W.alloc (.cells #[.slice fa fl fc] 32)) A.bl (.slice av nlc cv) lc := r1.keep (Below.heap_alloc _ _ _ hblW) (fun g hg => Below.heap_alloc _ _ _ (r1.block hg).2)
    have rK : KeepsBut W3.heap.size A.bl (Value.slice al nl cl).ownBlock W3 (W.alloc (.cells #[.slice fa fl fc] 32)) := r3.trans ⟨by simp, fun k hk _ _ => Below.heap_alloc _ _ _ (by omega)⟩
    have rKW : KeepsBut W3.heap.size A.bl (Value.slice al nl cl).ownBlock W (W.alloc (.cells #[.slice fa fl fc] 32)) := ⟨by simp, fun k hk _ _ => Below.heap_alloc _ _ _ (by omega)⟩
    have rB : Below A.base W3 (W.alloc (.cells #[.slice fa fl fc] 32)) := r4.alloc (by omega) _
    have hrr2 : (W.alloc (.cells #[.slice fa fl fc] 32)).heap[lp]? = some (.loop rr) := (Below.heap_alloc W _ lp (Array.getElem?_eq_some_iff.1 HRR.out).1).trans HRR.out
    have hbox2 : Boxed (W.alloc (.cells #[.slice fa fl fc] 32)) W.heap.size 32 (.slice fa fl fc) := Boxed.new W _ _
    have hszi : (W.alloc (.cells #[.slice fa fl fc] 32)).heap.size = W.heap.size + 1 := by simp
    have hkf0 : KeepsFrom (A.bc + 1) W (W.alloc (.cells #[.slice fa fl fc] 32)) := (KeepsOthers.alloc _ _).from _
    have hbw : ∀ k, k < w.heap.size → (W.alloc (.cells #[.slice fa fl fc] 32)).heap[k]? = w.heap[k]? := fun k hk => by
      have h0 := HBA.out
      have h1 := HBW3.out.size
      rw [Below.heap_alloc _ _ _ (by omega), r4.block k (by omega)]
      exact HBW3.out.block k hk
    have HJ : Hid (∀ (W' : World) (l1 : List Int), LfR A (W.alloc (.cells #[.slice fa fl fc] 32)) (.slice av nlc cv) W' l1 → LfR A W3 (.slice al nl cl) W' l1 ∧ KeepsBut W3.heap.size A.bl (Value.slice al nl cl).ownBlock W W') := Lib.hid (fun W' l1 h => by
      obtain ⟨h1, h2⟩ := LfR.join r2 rK rB h
      exact ⟨h1, rKW.trans h2⟩)
    have HRI := Lib.hid rI
    have HVB2 := Lib.hid hvb
    have HLC := Lib.hid hlc
    have HNLC := Lib.hid hnl2'
    have HSZI := Lib.hid hszi
    have HKF0 := Lib.hid hkf0
    have HBX2 := Lib.hid hbox2
    have HBWI := Lib.hid hbw
    have HRR2 := Lib.hid hrr2
    obtain ⟨Bi, hBi⟩ : ∃ Bi, W.heap.size = Bi := ⟨_, rfl⟩
    rw [hBi] at HSZI HBX2 hblW hszW ⊢
    have HVB3 : Hid (∀ g, (Value.slice av nlc cv).ownBlock = some g → A.bc + 1 ≤ g ∧ g < Bi) := Lib.hid (by rw [← hBi]; exact hvb)
    clear r1 r2 r3 r4 rI rK rKW rB hrr2 hbox2 hszi hkf0 hbw hvb hlc hnl2' hkfi HI HVB2 c1 HRR
    have HBI := Lib.hid hBi
    clear hBi
    obtain ⟨Wi, hWi⟩ : ∃ Wi, W.alloc (.cells #[.slice fa fl fc] 32) = Wi := ⟨_, rfl⟩
    rw [hWi] at HSZI HRI HKF0 HBX2 HBWI HRR2 HJ ⊢
    clear hWi
    have hszi := HSZI.out
    have hbli : A.bl < Wi.heap.size := by omega
    have hbsi : A.base ≤ Wi.heap.size := by omega
    have hstop2 := backF_stops 5 Bi (by omega) w Wi x.1.2.1.fields HSC.out.2.2 fa fl fc HFS.out HFL.out (by have h1 := HSC.out.2.1; have h2 := HFL.out; omega) (KeepsBut Wi.heap.size A.bl (Value.slice av nlc cv).ownBlock) (fun X Y k h hk => by
      have h0 := HBA.out
      have h1 := HBW3.out.size
      refine (h.2 k ?_ ?_ ?_).symm
      · rcases hk with hk | hk <;> omega
      · rcases hk with hk | hk <;> omega
      · intro e
        have := HVB3.out k e.symm
        rcases hk with hk | hk <;> omega) HBWI.out (by have h1 := HBW3.out.size; omega) (by omega) HBX2.out.cell
    have HSTOP2 := Lib.hid (hstop2.inRound lp)
    clear hstop2
    refine' rangeN (l₀ := lp) (r₀ := rr) rfl HRR2.out (by omega) (gf := 48) (lb := #[.pointer (some ⟨Bi, 0, none⟩)]) rfl trivial (enters_of Try.func48 (by kernel_rfl) rfl) HSTOP2.out
      (fun h k => h.trans k) (fun W l o o' hl _ _ _ => KeepsBut.putObj W l o' hl) (fun _ => rfl) (fun W => KeepsBut.refl _ _ _ W)
      (fun pre' W' => LfR A Wi (.slice av nlc cv) W' (lc ++ pre'.map (fun y => y.1.2)) ∧ KeepsFrom (A.bc + 1) W W') (OwnFrom.and (LfR.own HA.out (fun pre' : List AF => lc ++ pre'.map (fun y => y.1.2)) hbli hbsi) (ownFrom_keepsFrom (by have := HBI.out; omega)))
      ⟨by simpa using LfR.start HRI.out, HKF0.out⟩ _ ?assign2 ?body2 ?done2
    case assign2 =>
      intro l2 y W' K hK
      have HKK := Lib.hid hK
      clear hK
      unfold encF
      gi_wp2
      exact HKK.out
    case body2 =>
      rintro l2 pre' y W' ⟨hL, hKF⟩ hlen2
      obtain ⟨v', q1, q2, q3, q4⟩ := hL
      obtain ⟨av', cv', rfl⟩ := q1.slice
      have HY := Lib.hid y.2
      obtain ⟨fy, hfy⟩ : ∃ fy, y.1.2 = fy := ⟨_, rfl⟩
      obtain ⟨iy, hiy⟩ : ∃ iy, y.1.1 = iy := ⟨_, rfl⟩
      have hmap : lc ++ (pre' ++ [y]).map (fun y => y.1.2) = (lc ++ pre'.map (fun y => y.1.2)) ++ [fy] := by
        rw [List.map_append, ← List.append_assoc, ← hfy]; rfl
      have hq1 : (lc ++ pre'.map (fun y => y.1.2)).length ≤ 2020000 := by
        rw [List.length_append, List.length_map, HNLC.out]
        have h1 := HSC.out.2.1
        have h2 := HFL.out
        omega
      have HMAP := Lib.hid hmap
      clear hmap
      generalize lc ++ pre'.map (fun y => y.1.2) = lq at q1 q2 hq1 HMAP
      obtain ⟨nq, hnq⟩ : ∃ nq, lq.length = nq := ⟨_, rfl⟩
      rw [hnq] at q1 q2 hq1
      have hcb := q1.1.cell
      have hfb := q1.1.frozen
      have hsq := q1.2
      rw [hnq] at hsq
      have HQR := Lib.hid hsq
      have hbcW : A.bc + 1 ≤ W'.heap.size := by have h1 := q3.1; have h2 := HSZI.out; have h3 := HSZ3.out; have h4 := HB3.out.lt; have h5 := HSV3.out.bc.lt; omega
      have HQ1 := Lib.hid q1
      have HQ2 := Lib.hid q2
      have HQ3 := Lib.hid q3
      have HQ4 := Lib.hid q4
      have HNQ := Lib.hid hnq
      have HKF := Lib.hid hKF
      obtain ⟨i0, hi, hz0, hz1, hz2⟩ := info_parts infoType
      have HI := Lib.hid hi
      have HZ0 := Lib.hid hz0
      have HZ1 := Lib.hid hz1
      have HZ2 := Lib.hid hz2
      rw [hfy, hiy]
      clear q1 q2 q3 q4 hnq hKF hsq hfy hiy hi hz0 hz1 hz2 hlen2
      gi_wp2_with (first | (gi_at_builtin; refine wpListIn_append_own_at _ rfl _ _ 32 rfl (A.bc + 1) 27 i0 (.int .i64 0) 1 8 Try.underlying32 HI.out HZ0.out HZ1.out HZ2.out rfl (by decide) _ _ _ rfl (HQR.out.alloc _) ⟨W'.heap.size, 0, none⟩ 1 1 [.int .i64 fy] rfl rfl (cell_one_new _ _ _) (by intro u hu; simp at hu; subst hu; rfl) (by unfold maxLen; omega) (by omega) (by simp; omega) ?_; intro vo' w2 hown2 hgrow2 hnil2 hloc2; refine hold ?_))
      have hg2 : (W'.alloc (.cells #[.int .i64 fy] 27)).grownBy w2 (Value.slice av' nq cv').ownBlock := hgrow2
      have hl2 : vo'.ownBlock = (Value.slice av' nq cv').ownBlock ∨ vo'.ownBlock = some (W'.alloc (.cells #[.int .i64 fy] 27)).heap.size := hloc2
      have ho2 : w2.ownsRow (A.bc + 1) 27 1 vo' (lq.length + 1) (ints lq ++ [.int .i64 fy]) := by rw [HNQ.out]; exact hown2
      obtain ⟨hb1, hl1, hko, hkb⟩ := LfR.step HA.out hbsi HQ1.out HQ2.out HQ3.out HQ4.out ho2 hg2 hl2
      obtain ⟨gq, cq, rfl⟩ := ownsRow_succ hown2
      have hc2 := hb1.cell
      have hf2 := hb1.frozen
      have HL1 := Lib.hid hl1
      have HKO := Lib.hid hko
      have HKB := Lib.hid hkb
      clear hg2 hl2 ho2 hb1 hl1 hko hkb hown2 hgrow2 hnil2 hloc2 hcb hfb
      refine go_on ?_
      gi_wp2
      refine ⟨HKO.out.from _, ⟨HKB.out.1, fun k a b c => HKB.out.2 k (Nat.lt_of_lt_of_le a HQ3.out.1) b (fun e => ?_)⟩, ⟨by rw [HMAP.out]; exact HL1.out, HKF.out.trans (HKO.out.from _)⟩⟩
      rcases HQ2.out with e2 | ⟨g, e2, hg⟩
      · exact c (e.trans e2)
      · rw [e2] at e; cases e; omega
    case done2 =>
      rintro ys W' hys ⟨hL, hKF⟩
      obtain ⟨h1, h2⟩ := HJ.out W' _ hL
      have e : lc ++ ys.map (fun y => y.1.2) = l ++ fieldsB (pre ++ [x]) := by
        rw [hys, fieldsB_snoc, ← HLC.out, List.append_assoc]
      rw [e] at h1
      have H1 := Lib.hid h1
      have H2 := Lib.hid h2
      have H3 := Lib.hid hKF
      clear h1 h2 hKF hL
      gi_wp2
      exact ⟨KeepsFrom.weaken H3.out (by have h4 := HB3.out.lt; have h5 := HSV3.out.bc.lt; omega), H2.out, H1.out, HKFI.out.trans H3.out⟩
  case done =>
    rintro D ys W1 hD hys ⟨hL, hkf⟩ hK
    have hfb := fieldsB_all hys
    rw [hfb] at hL
    obtain ⟨vo, vl, hs⟩ := HSV3.out.after HA.out hL
    have hbc3 := HSV3.out.bc.lt
    have HST : Hid (St A w dv W1 (((([] : List Int))).foldl (fun l f => Dt.reachF d k f l) (o ++ [t])) (l ++ (Dt.fieldsOf d t).reverse)) := Lib.hid ⟨vo, vl, hs⟩
    have HKW := Lib.hid (HKF3.out.trans hkf)
    have HKD := Lib.hid hK
    have HD1 : Hid (A.bc + 1 ≤ D ∧ W.heap.size ≤ D) := Lib.hid ⟨by omega, by have h1 := HKF3.out.size; omega⟩
    clear hfb hL hs hys hkf hK
    gi_wp2
    gi_loopw [] (fun wr => ∃ done rest : List Int, Hid (Dt.fieldsOf d t = done ++ rest) ∧ Hid (St A w dv wr (done.foldl (fun l f => Dt.reachF d k f l) (o ++ [t])) (l ++ rest.reverse)) ∧ Hid (wr.heap[D]? = some (.deferred (some []))) ∧ Hid (KeepsFrom (A.bc + 1) W wr)) (fun wr => leftLen A wr)
    case atStart => exact ⟨[], Dt.fieldsOf d t, Lib.hid rfl, HST, HKD, HKW⟩
    case round =>
      obtain ⟨done, rest, HF, HST', HKD', HKW'⟩ := hrel
      have hdp := HDP.out
      have hd1 : depth < 1000 := by omega
      obtain ⟨vo, vl, hs⟩ := HST'.out
      obtain ⟨av, cv, rfl⟩ := hs.left.slice
      cases rest with
      | nil =>
        have hcb := hs.left.1.cell
        rw [List.reverse_nil, List.append_nil, HNL.out] at hcb
        have HF2 : Hid (Dt.fieldsOf d t = done) := Lib.hid (by rw [HF.out, List.append_nil])
        clear hs hdp
        gi_wp2
        refine ⟨by simp, .inl ⟨_, _, rfl, run_takeDeferred HKD'.out, ?_⟩⟩
        obtain ⟨vo, vl, hs⟩ := HST'.out
        rw [List.reverse_nil, List.append_nil] at hs
        have hD1 := HD1.out
        have hs2 : Sv A w dv (wr.putObj D (.deferred none)) _ l vo vl := hs.turn ((Below.refl A.base wr).grown (grownBy_putObj' wr D _) (by have := hs.below.size; rw [HBA.out]; exact this) (fun k e => by cases e; omega)) (fun k hk hc => World.putObj_heap_other (fun e => by
          subst e
          rcases hc _ HKD'.out with h | h
          · cases h
          · omega))
        refine ⟨_, results_none rfl _ _ _, ⟨_, rfl⟩, ⟨vo, vl, by rw [HF2.out]; exact hs2⟩, ⟨by have := HKW'.out.size; simp; omega, fun k ob hk h0 hc => ?_⟩⟩
        have hkW := (Array.getElem?_eq_some_iff.1 h0).1
        rw [World.putObj_heap_other (by omega)]
        exact HKW'.out.same k ob hk h0 hc
      | cons f rest =>
        have e1 : l ++ (f :: rest).reverse = (l ++ rest.reverse) ++ [f] := by rw [List.reverse_cons, List.append_assoc]
        rw [e1] at hs
        obtain ⟨nq, hnq⟩ : ∃ nq, (l ++ rest.reverse).length = nq := ⟨_, rfl⟩
        rw [List.length_append, List.length_singleton, hnq] at hs
        have hcb := hs.left.1.cell
        have hfb := hs.left.1.frozen
        have hlen1 := leftLen_of hs.left
        obtain ⟨g, rfl, hcv, hcg, hcut⟩ := hs.cut HA.out hnq
        have HCV := Lib.hid hcv
        clear hcv
        have hnql : (nq : Int) = nl + rest.length := by
          have := HNL.out
          rw [← hnq, List.length_append, List.length_reverse]
          omega
        obtain ⟨nr, hnr⟩ : ∃ nr, nq + 1 = nr := ⟨_, rfl⟩
        have hgt : (nl : Int) < (nr : Int) := by omega
        rw [hnr] at hcb
        have hcbc := hcut.bc.cell
        have HFI : Hid (In64 f) := Lib.hid (Dt.fieldsOf_in HD.out t f (by rw [HF.out]; simp))
        have hfl := Dt.fieldsOf_length HD.out t
        have hnqb : nq ≤ nl + 10000 := by
          have h1 := congrArg List.length HF.out
          rw [List.length_append, List.length_cons] at h1
          omega
        have hum : Dt.unmet d (done.foldl (fun l f => Dt.reachF d k f l) (o ++ [t])) < k := by
          have h1 := Dt.fold_unmet d k done (o ++ [t])
          have h2 := Dt.unmet_snoc d HOK.out HTO.out
          have h3 := HUN.out
          omega
        have hbd : (done.foldl (fun l f => Dt.reachF d k f l) (o ++ [t])).length + Dt.unmet d (done.foldl (fun l f => Dt.reachF d k f l) (o ++ [t])) ≤ 200 := by
          have h1 := Dt.fold_bound (Dt.reach_bound d k) done (o ++ [t])
          have h2 := Dt.unmet_snoc d HOK.out HTO.out
          have h3 := HOL.out
          have h4 := HNO.out
          rw [List.length_append, List.length_singleton] at h1
          omega
        have HCALL := Lib.hid (ih f (depth + 1) _ _ _ HFI.out (by omega) (by omega) ⟨vo, _, hcut⟩ hum hbd (by rw [hnq]; have := HLL.out; omega))
        have HKC : Hid ((wr.setCell ⟨A.bl, 0, none⟩ (.slice (some ⟨g, 0, none⟩) nq cv)).heap[D]? = some (.deferred (some []))) := Lib.hid ((Below.heap_setCell _ _ _ _ (by intro e; have e2 : D = A.bl := e; have := HD1.out.1; omega)).trans HKD'.out)
        have HLEN1 := Lib.hid hlen1
        have HNQ := Lib.hid hnq
        have hnqB : nq ≤ 3000000 := by omega
        clear hs e1 hnq hlen1 hcut hfl hnql hum hbd hnqb
        unfold colArgs at HCALL
        unfold Ad.caps at hcbc
        have hw1 : wrap64 ((nr : Int) - 1) = nq := by rw [show (nr : Int) - 1 = nq by omega]; exact IntWalk.wrap64_in _ (by omega)
        have hw2 : IntKind.i64.wrap ((nr : Int) - 1) = nq := by rw [show (nr : Int) - 1 = nq by omega]; exact IntWalk.i64_in _ (by omega)
        have hw5 : wrap64 (depth + 1) = depth + 1 := IntWalk.wrap64_in _ (by omega)
        have hw6 : IntKind.i64.wrap (depth + 1) = depth + 1 := IntWalk.i64_in _ (by omega)
        have hq1 : (nq : Int) < (nr : Int) := by omega
        have hq2 : nq ≤ nr := by omega
        have hq3 : (nq : Int) ≤ (cv : Int) := by have := HCV.out; omega
        have HNR := Lib.hid hnr
        clear hdp hnr
        gi_wp2_with (first | (refine ⟨trivial, ?_⟩; gi_at_call 23; refine (callsIn_wide.2 HCALL.out).mono ?_; rintro e w' ⟨⟨vv, rfl⟩, hst4, hkf4⟩; have HST4 := Lib.hid hst4; have HKF4 := Lib.hid hkf4; clear hst4 hkf4))
        have HF2 : Hid (Dt.fieldsOf d t = (done ++ [f]) ++ rest) := Lib.hid (by rw [HF.out, List.append_assoc]; rfl)
        go_roundw
        case rel =>
          refine ⟨done ++ [f], rest, HF2, Lib.hid (by rw [List.foldl_append]; exact HST4.out), Lib.hid (HKF4.out.same D _ HD1.out.1 HKC.out rfl), Lib.hid ((HKW'.out.trans ((KeepsOthers.setCell _ _ _).from _)).trans HKF4.out)⟩
        case measure =>
          obtain ⟨vo4, vl4, hs4⟩ := HST4.out
          have h2 := HLEN1.out
          rw [leftLen_of hs4.left, h2]
          simp only [List.length_append, List.length_singleton]
          omega

end Go.Proofs.Ytphlokjhfbfogaa
