/- What Sum does. -/
import Derived.Test.YtpnofebhpeiepaaGreatDoorQ15
import Derived.Deep.DeepCutAuto
import Derived.LoopTactic
set_option linter.unusedVariables false
set_option linter.unusedSimpArgs false
namespace Go.Proofs.YtpnofebhpeiepaaGreatDoor
open Go.RowKit _root_.Go.Proofs.YtpnofebhpeiepaaGreatDoor.Nm

theorem infoFr : (Tryz.prog.info? 63).map (fun i => (i.zero, i.size, i.bytes)) = some (some (.agg #[.int .i64 0, .pointer none, .int .i64 0, .pointer none]), 4, 32) := by kernel_rfl

/-- The numbers of some texts, if all are canonical. -/
def allR : List ByteArray → Option (List Rat)
  | [] => some []
  | s :: r => match rval s.data.toList, allR r with
    | some q, some qs => some (q :: qs)
    | _, _ => none
/-- The sum from left to right, if no partial sum is too long. -/
def accR : Rat → List Rat → Option Rat
  | t, [] => some t
  | t, q :: r => if rshort (t + q) = true then accR (t + q) r else none
/-- What Sum returns. -/
def SumRes (l : List ByteArray) (s : ByteArray) (e : Int) : Prop :=
  match allR l with
  | none => s = ⟨#[]⟩ ∧ e = 3
  | some qs => match accR 0 qs with
    | none => s = ⟨#[]⟩ ∧ e = 5
    | some t => s = ⟨(rt t).toArray⟩ ∧ e = 0

theorem SumRes.of {l : List ByteArray} {s : ByteArray} {e : Int} {qs : List Rat} (h : SumRes l s e) (ha : allR l = some qs) : (accR 0 qs = none → s = ⟨#[]⟩ ∧ e = 5) ∧ ∀ t, accR 0 qs = some t → s = ⟨(rt t).toArray⟩ ∧ e = 0 := by
  unfold SumRes at h
  rw [ha] at h
  refine ⟨fun hn => ?_, fun t ht => ?_⟩
  · simp only [hn] at h; exact h
  · simp only [ht] at h; exact h

theorem allR_some : ∀ (l : List ByteArray) (qs : List Rat), allR l = some qs → l.length = qs.length ∧ ∀ (i : Nat) (h : i < l.length), rval l[i].data.toList = qs[i]?
  | [], qs, h => by cases h; exact ⟨rfl, fun i h => by cases h⟩
  | s :: r, qs, h => by
    unfold allR at h
    cases hs : rval s.data.toList with
    | none => rw [hs] at h; cases h
    | some q =>
      cases hr : allR r with
      | none => rw [hs, hr] at h; cases h
      | some qr =>
        rw [hs, hr] at h
        obtain rfl := Option.some.inj h
        obtain ⟨h1, h2⟩ := allR_some r qr hr
        refine ⟨by simp [h1], fun i hi => ?_⟩
        cases i with
        | zero => exact hs
        | succ j => exact h2 j (by simpa using hi)
theorem allR_none : ∀ (l : List ByteArray), allR l = none → ∃ (i : Nat) (h : i < l.length), rval l[i].data.toList = none
  | [], h => by cases h
  | s :: r, h => by
    cases hs : rval s.data.toList with
    | none => exact ⟨0, by simp, hs⟩
    | some q =>
      unfold allR at h
      cases hr : allR r with
      | none =>
        obtain ⟨i, hi, h2⟩ := allR_none r hr
        exact ⟨i + 1, by simpa using hi, h2⟩
      | some qr => rw [hs, hr] at h; cases h
theorem allR_bad (l : List ByteArray) (i : Nat) (h : i < l.length) (hr : rval l[i].data.toList = none) : allR l = none := by
  cases ha : allR l with
  | none => rfl
  | some qs =>
    obtain ⟨h1, h2⟩ := allR_some l qs ha
    have h3 := h2 i h
    rw [hr, List.getElem?_eq_getElem (by omega)] at h3
    cases h3

/-- A block of n fractions, the first of which are the numbers qs. -/
def Frs (P : Nat → Prop) (W : World) (G n : Nat) (qs : List Rat) : Prop :=
  ∃ cs : List Value, W.heap[G]? = some (.cells cs.toArray 63 (0, 0)) ∧ cs.length = n * 4 ∧
    ∀ (i : Nat) (q : Rat), qs[i]? = some q → ∃ s1 p1 s2 p2, cs[i * 4]? = some (.int .i64 s1) ∧ cs[i * 4 + 1]? = some (.pointer p1) ∧ cs[i * 4 + 2]? = some (.int .i64 s2) ∧ cs[i * 4 + 3]? = some (.pointer p2) ∧ IsFr P W (.agg #[.int .i64 s1, .pointer p1, .int .i64 s2, .pointer p2]) q

theorem Frs.keep {P : Nat → Prop} {W W' : World} {G n B : Nat} {qs : List Rat} (h : Frs P W G n qs) (hb : Below B W W') (hB : W.heap.size ≤ B) : Frs P W' G n qs := by
  obtain ⟨cs, h1, h2, h3⟩ := h
  have hlt : G < W.heap.size := by
    rcases Nat.lt_or_ge G W.heap.size with h' | h'
    · exact h'
    · rw [Array.getElem?_eq_none h'] at h1; cases h1
  refine ⟨cs, by rw [hb.block G (by omega)]; exact h1, h2, fun i q hq => ?_⟩
  obtain ⟨s1, p1, s2, p2, e1, e2, e3, e4, e5⟩ := h3 i q hq
  exact ⟨s1, p1, s2, p2, e1, e2, e3, e4, e5.kept (.all (hb.mono hB))⟩
theorem Frs.lt {P : Nat → Prop} {W : World} {G n : Nat} {qs : List Rat} (h : Frs P W G n qs) : G < W.heap.size := by
  obtain ⟨cs, h1, _⟩ := h
  rcases Nat.lt_or_ge G W.heap.size with h' | h'
  · exact h'
  · rw [Array.getElem?_eq_none h'] at h1; cases h1
theorem Frs.other {P : Nat → Prop} {W W' : World} {G n g : Nat} {qs : List Rat} (h : Frs P W G n qs) (ho : Only g W W') (hg : G ≠ g) (hP : ¬ P g) : Frs P W' G n qs := by
  obtain ⟨cs, h1, h2, h3⟩ := h
  refine ⟨cs, by rw [ho.block G hg]; exact h1, h2, fun i q hq => ?_⟩
  obtain ⟨s1, p1, s2, p2, e1, e2, e3, e4, e5⟩ := h3 i q hq
  exact ⟨s1, p1, s2, p2, e1, e2, e3, e4, e5.kept (.only ho hP)⟩

theorem cells_set (W : World) (G o : Nat) (cs : List Value) (T : TypeId) (v : Value) (h : W.heap[G]? = some (.cells cs.toArray T (0, 0))) : (W.setCell ⟨G, o, none⟩ v).heap[G]? = some (.cells (cs.set o v).toArray T (0, 0)) := by
  have hlt : G < W.heap.size := by
    rcases Nat.lt_or_ge G W.heap.size with h' | h'
    · exact h'
    · rw [Array.getElem?_eq_none h'] at h; cases h
  rw [Array.getElem?_eq_getElem hlt] at h
  have h := Option.some.inj h
  show (W.heap.modify G _)[G]? = _
  rw [Array.getElem?_eq_getElem (by simpa using hlt), Array.getElem_modify_self, h]
  simp

theorem Frs.mono {P Q : Nat → Prop} {W : World} {G n : Nat} {qs : List Rat} (h : Frs P W G n qs) (hq : ∀ k, k < W.heap.size → P k → Q k) : Frs Q W G n qs := by
  obtain ⟨cs, h1, h2, h3⟩ := h
  refine ⟨cs, h1, h2, fun i q hiq => ?_⟩
  obtain ⟨s1, p1, s2, p2, e1, e2, e3, e4, e5⟩ := h3 i q hiq
  exact ⟨s1, p1, s2, p2, e1, e2, e3, e4, e5.mono hq⟩

/-- One more number is stored. -/
theorem Frs.put {P : Nat → Prop} {W : World} {G n k : Nat} {qs : List Rat} {q : Rat} {s1 s2 : Int} {p1 p2 : Option Addr} (h : Frs P W G n qs) (hk : qs.length = k) (hkn : k < n) (hP : ¬ P G) (hq : IsFr P W (.agg #[.int .i64 s1, .pointer p1, .int .i64 s2, .pointer p2]) q) :
    Frs P ((((W.setCell ⟨G, k * 4, none⟩ (.int .i64 s1)).setCell ⟨G, k * 4 + 1, none⟩ (.pointer p1)).setCell ⟨G, k * 4 + 2, none⟩ (.int .i64 s2)).setCell ⟨G, k * 4 + 3, none⟩ (.pointer p2)) G n (qs ++ [q]) := by
  obtain ⟨cs, h1, h2, h3⟩ := h
  have ho : Only G W ((((W.setCell ⟨G, k * 4, none⟩ (.int .i64 s1)).setCell ⟨G, k * 4 + 1, none⟩ (.pointer p1)).setCell ⟨G, k * 4 + 2, none⟩ (.int .i64 s2)).setCell ⟨G, k * 4 + 3, none⟩ (.pointer p2)) := ((((Only.refl G W).set _ _).set _ _).set _ _).set _ _
  refine ⟨_, cells_set _ _ _ _ _ _ (cells_set _ _ _ _ _ _ (cells_set _ _ _ _ _ _ (cells_set _ _ _ _ _ _ h1))), by simp [h2], fun i p hp => ?_⟩
  rcases Nat.lt_or_ge i k with hi | hi
  · rw [List.getElem?_append_left (by omega)] at hp
    obtain ⟨t1, r1, t2, r2, e1, e2, e3, e4, e5⟩ := h3 i p hp
    refine ⟨t1, r1, t2, r2, ?_, ?_, ?_, ?_, e5.kept (.only ho hP)⟩
    all_goals
      rw [List.getElem?_set_ne (by omega), List.getElem?_set_ne (by omega), List.getElem?_set_ne (by omega), List.getElem?_set_ne (by omega)]
      assumption
  · have hik : i = k := by
      rcases Nat.lt_or_ge k i with h' | h'
      · rw [List.getElem?_eq_none (by simp; omega)] at hp; cases hp
      · omega
    subst hik
    rw [List.getElem?_append_right (by omega), hk, Nat.sub_self] at hp
    obtain rfl := Option.some.inj hp
    refine ⟨s1, p1, s2, p2, ?_, ?_, ?_, ?_, hq.kept (.only ho hP)⟩
    · rw [List.getElem?_set_ne (by omega), List.getElem?_set_ne (by omega), List.getElem?_set_ne (by omega), List.getElem?_set_self (by omega)]
    · rw [List.getElem?_set_ne (by omega), List.getElem?_set_ne (by omega), List.getElem?_set_self (by simp; omega)]
    · rw [List.getElem?_set_ne (by omega), List.getElem?_set_self (by simp; omega)]
    · rw [List.getElem?_set_self (by simp; omega)]

/-- A cell of the block, whatever it holds. -/
theorem Frs.cell {P : Nat → Prop} {W : World} {G n : Nat} {qs : List Rat} (h : Frs P W G n qs) (o : Nat) (ho : o < n * 4) : (∃ v, W.cell? ⟨G, o, none⟩ = some v) ∧ W.frozen? ⟨G, o, none⟩ = false := by
  obtain ⟨cs, h1, h2, _⟩ := h
  refine ⟨⟨cs[o]'(by omega), ?_⟩, ?_⟩
  · simp [World.cell?, h1, List.getElem?_eq_getElem (show o < cs.length by omega)]
  · simp [World.frozen?, h1]
/-- A number of the block. -/
theorem Frs.get {P : Nat → Prop} {W : World} {G n i : Nat} {qs : List Rat} {q : Rat} (h : Frs P W G n qs) (hq : qs[i]? = some q) :
    ∃ s1 p1 s2 p2, W.cell? ⟨G, i * 4, none⟩ = some (.int .i64 s1) ∧ W.cell? ⟨G, i * 4 + 1, none⟩ = some (.pointer p1) ∧ W.cell? ⟨G, i * 4 + 2, none⟩ = some (.int .i64 s2) ∧ W.cell? ⟨G, i * 4 + 3, none⟩ = some (.pointer p2) ∧ IsFr P W (.agg #[.int .i64 s1, .pointer p1, .int .i64 s2, .pointer p2]) q := by
  obtain ⟨cs, h1, h2, h3⟩ := h
  obtain ⟨s1, p1, s2, p2, e1, e2, e3, e4, e5⟩ := h3 i q hq
  refine ⟨s1, p1, s2, p2, ?_, ?_, ?_, ?_, e5⟩
  · simp [World.cell?, h1, e1]
  · simp [World.cell?, h1, e2]
  · simp [World.cell?, h1, e3]
  · simp [World.cell?, h1, e4]

/-- A new block of n zeros. -/
theorem Frs.start {P : Nat → Prop} {W : World} {B G n : Nat} (h : W.ownsRow B 63 4 (.slice (some ⟨G, 0, none⟩) n n) n (madeCells (Value.agg #[.int .i64 0, .pointer none, .int .i64 0, .pointer none]).cells (n * 4)).toList) : Frs P W G n [] := by
  rcases h.2 with ⟨hv, _⟩ | ⟨g, cap, cur, hv, hB, hg, h1, h2, h3, h4⟩
  · simp at hv
  · simp only [Value.slice.injEq, Option.some.injEq, Addr.mk.injEq] at hv
    obtain ⟨⟨rfl, _⟩, _, rfl⟩ := hv
    refine ⟨cur.toList, by simpa using hg, by simpa using h3, fun i q hq => by simp at hq⟩

/-- The first k texts are those of the numbers qs. -/
def OkUp (l : List ByteArray) (qs : List Rat) (k : Nat) : Prop := qs.length = k ∧ ∀ (i : Nat) (h : i < l.length), i < k → rval l[i].data.toList = qs[i]?
theorem OkUp.snoc {l : List ByteArray} {qs : List Rat} {k : Nat} {q : Rat} (h : OkUp l qs k) (hk : k < l.length) (hq : rval l[k].data.toList = some q) : OkUp l (qs ++ [q]) (k + 1) := by
  refine ⟨by rw [List.length_append, h.1]; rfl, fun i hi hik => ?_⟩
  rcases Nat.lt_or_ge i k with h' | h'
  · rw [List.getElem?_append_left (by rw [h.1]; exact h')]; exact h.2 i hi h'
  · obtain rfl : i = k := by omega
    rw [List.getElem?_append_right (by rw [h.1]; exact Nat.le_refl _), h.1, Nat.sub_self, hq]; rfl
theorem OkUp.all {l : List ByteArray} {qs : List Rat} (h : OkUp l qs l.length) : allR l = some qs := by
  cases ha : allR l with
  | none =>
    obtain ⟨i, hi, h2⟩ := allR_none l ha
    have h3 := h.2 i hi hi
    rw [h2, List.getElem?_eq_getElem (by rw [h.1]; exact hi)] at h3
    cases h3
  | some qs' =>
    obtain ⟨h1, h2⟩ := allR_some l qs' ha
    congr 1
    apply List.ext_getElem?
    intro i
    rcases Nat.lt_or_ge i l.length with hi | hi
    · rw [← h2 i hi, h.2 i hi hi]
    · rw [List.getElem?_eq_none (by omega), List.getElem?_eq_none (by rw [h.1]; exact hi)]

set_option maxRecDepth 100000 in
set_option maxHeartbeats 6400000 in
theorem qSum_any (ad : Option Addr) (g off c : Nat) (l : List ByteArray) (n : Nat) (s : ByteArray) (ec : Int) (hl : l.length = n) (hn : n ≤ 8) (w : World) (had : Hid (n = 0 ∨ ad = some ⟨g, off, none⟩ ∧ g < w.heap.size)) (hc : Hid (∀ (i : Nat) (h : i < l.length), w.cell? ⟨g, off + i, none⟩ = some (.string l[i]))) (hz : Hid (∀ x ∈ l, x.size ≤ 100000)) (hr : Hid (SumRes l s ec)) (htab : Tab w) :
    Calls Tryz.prog 39 #[.slice ad n c] w fun e w' => e = .returned (.tuple #[.string s, .int .i64 ec]) ∧ Below w.heap.size w w' := by
  obtain ⟨i0, hi, hz0, hz1, hz2⟩ := info_parts infoFr
  have HI := Lib.hid hi
  have HZ0 := Lib.hid hz0
  have HZ1 := Lib.hid hz1
  have HZ2 := Lib.hid hz2
  have HT := Lib.hid htab
  clear hi hz0 hz1 hz2 htab
  have HL := Lib.hid (And.intro trivial hl)
  clear hl
  go_enter Tryz.func39, Tryz.ntmps39
  go_wp2_with (refine wpList_make_full _ rfl (.tmp 15) (.tmp 15) 91 rfl w.heap.size 63 i0 (.agg #[.int .i64 0, .pointer none, .int .i64 0, .pointer none]) 4 Tryz.underlying91 HI.out HZ0.out HZ1.out .i64 .i64 _ _ n rfl rfl (by simp) (by simp) (by rw [HZ2.out]; omega) (by unfold maxLen; omega) (Nat.le_refl _) ?_; intro w1 hown hgrow; refine hold ?_)
  have HB1 := Lib.hid ((Below.refl _ _).grown hgrow (Nat.le_refl _) (fun k hk => by simp at hk))
  have HF1 : Hid (Frs (Bar 1 Ev w) w1 w.heap.size n []) := Lib.hid (.start hown)
  clear hown hgrow
  refine go_on ?_
  go_wp2
  go_loopw [19] (fun i wr => ∃ (k : Nat) (qs : List Rat), k ≤ n ∧ i = .int .i64 k ∧ Hid (OkUp l qs k) ∧ Hid (Frs (Bar 1 Ev w) wr w.heap.size n qs) ∧ Hid (Below w.heap.size w wr)) (fun i _ => n - (intOf i).toNat)
  case atStart => exact ⟨0, [], Nat.zero_le _, rfl, Lib.hid ⟨rfl, fun i _ h => absurd h (Nat.not_lt_zero i)⟩, HF1, HB1⟩
  case round =>
    obtain ⟨k, qs, hk, rfl, HOK, HF, HB⟩ := hrel
    by_cases hlt : k < n
    · have hkl : k < l.length := by rw [HL.out.2]; exact hlt
      obtain ⟨rfl, hg⟩ : ad = some ⟨g, off, none⟩ ∧ g < w.heap.size := by rcases had.out with h | h; (omega); exact h
      have hcell := (HB.out.cell (p := ⟨g, off + k, none⟩) hg).trans (hc.out k hkl)
      have hsz := hz.out _ (List.getElem_mem hkl)
      have h1 : (0 : Int) ≤ k := by omega
      have h2 : (k : Int) < n := by omega
      have HLT : Hid (w.heap.size + 1 ≤ wr.heap.size) := Lib.hid HF.out.lt
      cases ho : rval l[k].data.toList with
      | none =>
        have hbad := allR_bad l k hkl ho
        have hse := hr.out
        unfold SumRes at hse
        rw [hbad] at hse
        obtain ⟨rfl, rfl⟩ := hse
        obtain ⟨x, hx⟩ : ∃ x, l[k] = x := ⟨_, rfl⟩
        rw [hx] at hcell hsz ho
        have HO := Lib.hid ho
        clear hx hkl ho hbad
        go_wp2_with fail
        refine (read_any (Bar 1 Ev w) x none _ (fun j hj => Bar.new (m := 1) (P := Ev) Ev.all j (Nat.le_trans HLT.out hj)) HO hsz).mono ?_
        rintro e w2 ⟨s1, p1, s2, p2, rfl, hv, hb⟩
        rw [show (none : Option Rat).isSome = false from rfl]
        have HW2 := Lib.hid (HB.out.trans (hb.mono HB.out.size))
        clear hv hb hcell
        go_wp2
        go_ret2
        exact ⟨rfl, HW2.out.alloc HW2.out.size _⟩
      | some q =>
        have HOK2 := Lib.hid (HOK.out.snoc hkl ho)
        obtain ⟨x, hx⟩ : ∃ x, l[k] = x := ⟨_, rfl⟩
        rw [hx] at hcell hsz ho
        have HO := Lib.hid ho
        clear hx hkl ho
        go_wp2_with fail
        refine (read_any (Bar 1 Ev w) x (some q) _ (fun j hj => Bar.new (m := 1) (P := Ev) Ev.all j (Nat.le_trans HLT.out hj)) HO hsz).mono ?_
        rintro e w2 ⟨s1, p1, s2, p2, rfl, hv, hb⟩
        rw [show (some q : Option Rat).isSome = true from rfl]
        have hA := (Below.refl w2.heap.size w2).alloc (Nat.le_refl _) (.cells #[.int .i64 s1, .pointer p1, .int .i64 s2, .pointer p2] 63)
        have hF3 := (HF.out.keep hb (Nat.le_refl _)).keep hA (Nat.le_refl _)
        have HV3 := Lib.hid ((hv q rfl).kept (.all hA))
        have HW3 := Lib.hid ((HB.out.trans (hb.mono HB.out.size)).trans (hA.mono (Nat.le_trans HB.out.size hb.size)))
        have hne : w.heap.size ≠ w2.heap.size := by have := HLT.out; have := hb.size; omega
        have hne2 : w2.heap.size ≠ w.heap.size := fun e => hne e.symm
        obtain ⟨⟨y0, c0⟩, f0⟩ := hF3.cell (k * 4) (by omega)
        obtain ⟨⟨y1, c1⟩, f1⟩ := hF3.cell (k * 4 + 1) (by omega)
        obtain ⟨⟨y2, c2⟩, f2⟩ := hF3.cell (k * 4 + 2) (by omega)
        obtain ⟨⟨y3, c3⟩, f3⟩ := hF3.cell (k * 4 + 3) (by omega)
        have HF4 := Lib.hid (hF3.put HOK.out.1 hlt (fun h => by have := h.2; omega) HV3.out)
        have ho := ((((Only.refl w.heap.size (w2.alloc (.cells #[.int .i64 s1, .pointer p1, .int .i64 s2, .pointer p2] 63))).set (k * 4) (.int .i64 s1)).set (k * 4 + 1) (.pointer p1)).set (k * 4 + 2) (.int .i64 s2)).set (k * 4 + 3) (.pointer p2)
        have HW4 := Lib.hid (HW3.out.trans (ho.below (Nat.le_refl _)))
        clear hv hb hA hF3 hcell ho
        go_wp2
        go_roundw
        case rel => exact ⟨k + 1, qs ++ [q], by omega, by go_num, HOK2, HF4, HW4⟩
        case measure => simp [intOf]; omega
    · obtain rfl : k = n := by omega
      have hall : allR l = some qs := OkUp.all (by rw [HL.out.2]; exact HOK.out)
      have hlen := HOK.out.1
      have hse := hr.out.of hall
      obtain ⟨o, ho⟩ : ∃ o, accR 0 qs = o := ⟨_, rfl⟩
      rw [ho] at hse
      have HSE := Lib.hid hse
      have HLEN := Lib.hid hlen
      have HO := Lib.hid ho
      have HLT : Hid (w.heap.size + 1 ≤ wr.heap.size) := Lib.hid HF.out.lt
      obtain ⟨wo, rfl⟩ : ∃ wo : World, wo = wr := ⟨_, rfl⟩
      clear hall hlen hse ho hlt hk
      go_wp2_with fail
      refine (whole_any (Bar 1 Ev w) _ 0 0 _ (fun j hj => Bar.new (m := 1) (P := Ev) Ev.all j (Nat.le_trans HLT.out hj)) (.inl ⟨by decide, rfl⟩) (Lib.hid rfl)).mono ?_
      rintro e w2 ⟨v, rfl, hv, hb⟩
      have hv' := hv
      obtain ⟨s1, p1, s2, p2, rfl, _, _⟩ := hv
      have hA := (Below.refl w2.heap.size w2).alloc (Nat.le_refl _) (.cells #[.int .i64 s1, .pointer p1, .int .i64 s2, .pointer p2] 63)
      obtain ⟨g9, hg9⟩ : ∃ g9, w2.heap.size = g9 := ⟨_, rfl⟩
      have HF3 : Hid (Frs (fun j => Bar 1 Ev w j ∧ j ≠ g9) (w2.alloc (.cells #[.int .i64 s1, .pointer p1, .int .i64 s2, .pointer p2] 63)) w.heap.size k qs) := Lib.hid (((HF.out.keep hb (Nat.le_refl _)).mono (fun j hj h => ⟨h, by omega⟩)).keep hA (Nat.le_refl _))
      have HV3 : Hid (IsFr (fun j => Bar 1 Ev w j ∧ j ≠ g9) (w2.alloc (.cells #[.int .i64 s1, .pointer p1, .int .i64 s2, .pointer p2] 63)) (.agg #[.int .i64 s1, .pointer p1, .int .i64 s2, .pointer p2]) 0) := Lib.hid ((hv'.mono (fun j hj h => ⟨h, by omega⟩)).kept (.all hA))
      have HX3 : Hid (B4 (w2.alloc (.cells #[.int .i64 s1, .pointer p1, .int .i64 s2, .pointer p2] 63)) g9 (.int .i64 s1) (.pointer p1) (.int .i64 s2) (.pointer p2)) := Lib.hid (by rw [← hg9]; exact B4.new w2 _ _ _ _ _)
      have HW3 := Lib.hid ((HB.out.trans (hb.mono HB.out.size)).trans (hA.mono (Nat.le_trans HB.out.size hb.size)))
      have HG9 : Hid (w.heap.size < g9) := Lib.hid (by have := HLT.out; have := hb.size; omega)
      have HT0 : Hid ((⟨#[48]⟩ : ByteArray) = ⟨(rt 0).toArray⟩) := Lib.hid (by decide +kernel)
      clear hv' hb hA
      go_wp2
      try rw [hg9]
      generalize w2.alloc (.cells #[.int .i64 s1, .pointer p1, .int .i64 s2, .pointer p2] 63) = w3 at *
      clear hg9
      go_loopw [40, 10] (fun i t wr => ∃ (m : Nat) (tot : Rat) (ts : ByteArray), m ≤ k ∧ i = .int .i64 m ∧ t = .string ts ∧ Hid (ts = ⟨(rt tot).toArray⟩ ∧ rshort tot = true ∧ accR tot (qs.drop m) = o) ∧ Hid (Frs (fun j => Bar 1 Ev w j ∧ j ≠ g9) wr w.heap.size k qs) ∧ Hid (∃ s1 p1 s2 p2, B4 wr g9 (.int .i64 s1) (.pointer p1) (.int .i64 s2) (.pointer p2) ∧ IsFr (fun j => Bar 1 Ev w j ∧ j ≠ g9) wr (.agg #[.int .i64 s1, .pointer p1, .int .i64 s2, .pointer p2]) tot) ∧ Hid (Below w.heap.size w wr)) (fun i _ _ => k - (intOf i).toNat)
      case atStart => exact ⟨0, 0, _, Nat.zero_le _, rfl, rfl, Lib.hid ⟨HT0.out, by decide +kernel, HO.out⟩, HF3, Lib.hid ⟨_, _, _, _, HX3.out, HV3.out⟩, HW3⟩
      case round =>
        obtain ⟨m, tot, ts, hm, rfl, rfl, HACC, HF4, HBX, HW4⟩ := hrel
        by_cases hlt : m < k
        · have hml : m < qs.length := by rw [HLEN.out]; exact hlt
          obtain ⟨q, hq⟩ : ∃ q, qs[m]? = some q := ⟨_, List.getElem?_eq_getElem hml⟩
          have hdrop : qs.drop m = q :: qs.drop (m + 1) := by
            rw [List.drop_eq_getElem_cons hml]
            rw [List.getElem?_eq_getElem hml] at hq
            rw [Option.some.inj hq]
          obtain ⟨t1, r1, t2, r2, c0, c1, c2, c3, hqf⟩ := HF4.out.get hq
          have hrq : rshort q = true := by
            have h2 := HOK.out.2 m (by rw [HL.out.2]; exact hlt) hlt
            rw [hq] at h2
            exact (RIs.of h2).2
          obtain ⟨s3, p3, s4, p4, hbx, htf⟩ := HBX.out
          obtain ⟨r, hrr⟩ : ∃ r, tot + q = r := ⟨_, rfl⟩
          have rt1 := RT.of HACC.out.2.1
          have rt2 := RT.of hrq
          have hacc := HACC.out.2.2
          rw [hdrop] at hacc
          unfold accR at hacc
          rw [hrr] at hacc
          have HR1 := Lib.hid rt1
          have HR2 := Lib.hid rt2
          have HQ : Hid (Rat.divInt (fAdd tot q) (gAdd tot q) = r) := Lib.hid ((sum_div tot q).trans hrr)
          have hten := ops_ten rt1 rt2
          have HTEN : Hid ((ds 1000000000 (fAdd tot q).natAbs).length ≤ 900 ∧ (ds 1000000000 (gAdd tot q).natAbs).length ≤ 900) := Lib.hid ⟨limbs_of_ten hten.1 900 (by omega), limbs_of_ten hten.2.2.2.2.1 900 (by omega)⟩
          have rt3 := rt1.add rt2
          rw [hrr] at rt3
          have HRL := Lib.hid (rt3.limbs 1000 (by omega))
          have HGN : Hid (gAdd tot q ≠ 0) := Lib.hid (den_ne tot q)
          obtain ⟨tx, ok, htx⟩ := TextIs.ex r
          have HTX := Lib.hid htx
          have HACC2 := Lib.hid hacc
          have hg9r : g9 < wr.heap.size := hbx.lt
          have hne : w.heap.size ≠ wr.heap.size := by have := HF4.out.lt; omega
          have hA := (Below.refl wr.heap.size wr).alloc (Nat.le_refl _) (.cells #[.int .i64 t1, .pointer r1, .int .i64 t2, .pointer r2] 63)
          have HQF := Lib.hid (hqf.kept (.all hA))
          have HTF := Lib.hid (htf.kept (.all hA))
          have HFA := Lib.hid (HF4.out.keep hA (Nat.le_refl _))
          have HWA := Lib.hid (HW4.out.trans (hA.mono HW4.out.size))
          have HXA := Lib.hid (hbx.below hA hbx.lt)
          have HLTA : Hid (w.heap.size + 1 ≤ (wr.alloc (.cells #[.int .i64 t1, .pointer r1, .int .i64 t2, .pointer r2] 63)).heap.size ∧ g9 < (wr.alloc (.cells #[.int .i64 t1, .pointer r1, .int .i64 t2, .pointer r2] 63)).heap.size) := Lib.hid ⟨HFA.out.lt, HXA.out.lt⟩
          have h1 : (0 : Int) ≤ m := by omega
          have h2 : (m : Int) < k := by omega
          obtain ⟨x0, x1, x2, x3⟩ := hbx.cell
          obtain ⟨z0, z1, z2, z3⟩ := HXA.out.cell
          clear hml hq hdrop hqf htf hrq rt1 rt2 rt3 hten hacc htx hrr hA hbx
          go_wp2_with fail
          refine (qplus_any (fun j => Bar 1 Ev w j ∧ j ≠ g9) _ _ tot q _ (fun j hj => ⟨Bar.new (m := 1) (P := Ev) Ev.all j (Nat.le_trans HLTA.out.1 hj), by have := HLTA.out.2; omega⟩) HTF.out HQF.out HR1.out HR2.out).mono ?_
          rintro e w5 ⟨s5, p5, s6, p6, rfl, hn5, hd5, hb5⟩
          have HN5 := Lib.hid hn5
          have HD5 := Lib.hid hd5
          have HF5 := Lib.hid (HFA.out.keep hb5 (Nat.le_refl _))
          have HW5 := Lib.hid (HWA.out.trans (hb5.mono HWA.out.size))
          have HX5 := Lib.hid (HXA.out.below hb5 HXA.out.lt)
          have HLT5 : Hid (w.heap.size + 1 ≤ w5.heap.size ∧ g9 < w5.heap.size) := Lib.hid ⟨HF5.out.lt, HX5.out.lt⟩
          clear hn5 hd5 hb5 c0 c1 c2 c3 x0 x1 x2 x3 z0 z1 z2 z3
          go_wp2_with fail
          refine (reduced_any (fun j => Bar 1 Ev w j ∧ j ≠ g9) _ _ (fAdd tot q) (gAdd tot q) r _ (fun j hj => ⟨Bar.new (m := 1) (P := Ev) Ev.all j (Nat.le_trans HLT5.out.1 hj), by have := HLT5.out.2; omega⟩) HN5.out HD5.out HGN.out HTEN.out.1 HTEN.out.2 HQ).mono ?_
          rintro e w6 ⟨v6, rfl, hv6, hb6⟩
          have hv6' := hv6
          obtain ⟨s7, p7, s8, p8, rfl, _, _⟩ := hv6
          have hF6 := HF5.out.keep hb6 (Nat.le_refl _)
          have hX6 := HX5.out.below hb6 HX5.out.lt
          have ho := set4_only w6 g9 (.int .i64 s7) (.pointer p7) (.int .i64 s8) (.pointer p8)
          have HF7 := Lib.hid (hF6.other ho (by have := HG9.out; omega) (fun h => h.2 rfl))
          have HV7 := Lib.hid (hv6'.kept (.only ho (fun h => h.2 rfl)))
          have HX7 := Lib.hid (hX6.put (.int .i64 s7) (.pointer p7) (.int .i64 s8) (.pointer p8))
          have HW7 := Lib.hid ((HW5.out.trans (hb6.mono HW5.out.size)).trans (ho.below (Nat.le_of_lt HG9.out)))
          obtain ⟨x0, x1, x2, x3⟩ := hX6.cell
          obtain ⟨y0, y1, y2, y3⟩ := hX6.froz
          clear hv6' hb6 hF6 hX6 ho
          go_wp2_with fail
          refine (text_any (fun j => Bar 1 Ev w j ∧ j ≠ g9) _ r tx ok _ HV7.out HTX HRL.out.1 HRL.out.2 (tab_keep HT.out HW7.out)).mono ?_
          rintro e w8 ⟨rfl, hb8⟩
          have HW8 := Lib.hid (HW7.out.trans (hb8.mono HW7.out.size))
          have HF8 := Lib.hid (HF7.out.keep hb8 (Nat.le_refl _))
          have HV8 := Lib.hid (HV7.out.kept (.all hb8))
          have HX8 := Lib.hid (HX7.out.below hb8 HX7.out.lt)
          clear hb8 x0 x1 x2 x3 y0 y1 y2 y3
          have hways : (ok = false ∧ o = none) ∨ (ok = true ∧ tx = ⟨(rt r).toArray⟩ ∧ rshort r = true ∧ accR r (qs.drop (m + 1)) = o) := by
            have h3 := HACC2.out
            cases hs : rshort r with
            | false =>
              rw [hs, if_neg (by decide)] at h3
              exact .inl ⟨(HTX.out.bad hs).1, h3.symm⟩
            | true =>
              rw [hs, if_pos rfl] at h3
              exact .inr ⟨(HTX.out.good hs).1, (HTX.out.good hs).2, rfl, h3⟩
          rcases hways with ⟨rfl, hon⟩ | ⟨rfl, htxe, hsh, hac⟩
          · obtain ⟨rfl, rfl⟩ := HSE.out.1 hon
            clear hon
            go_wp2
            go_ret2
            exact ⟨rfl, HW8.out⟩
          · have HACC3 := Lib.hid (And.intro htxe (And.intro hsh hac))
            clear htxe hsh hac
            go_wp2
            go_roundw
            case rel => exact ⟨m + 1, r, tx, by omega, by go_num, rfl, HACC3, HF8, Lib.hid ⟨_, _, _, _, HX8.out, HV8.out⟩, HW8⟩
            case measure => simp [intOf]; omega
        · obtain rfl : m = k := by omega
          have hacc := HACC.out.2.2
          rw [List.drop_of_length_le (by rw [HLEN.out]; exact Nat.le_refl _)] at hacc
          unfold accR at hacc
          obtain ⟨hs1, rfl⟩ := HSE.out.2 tot hacc.symm
          obtain rfl : s = ts := hs1.trans HACC.out.1.symm
          clear hacc hs1
          go_wp2
          go_ret2
          exact ⟨rfl, HW4.out⟩

end Go.Proofs.YtpnofebhpeiepaaGreatDoor
