/- Places as keys; two places are compared. What Of, slices.Index over places, and Index do. A map from places to their indices. What Inside does. -/
import Derived.Test.YteidhlfiofiocabSE
import Derived.DeepKeys4
import Derived.Maps.Keyed
import Derived.Deep.QuietTactic
import Derived.Deep.RegionHeld3
import Derived.BigQuiet
import Derived.Maps.OwnSet
set_option linter.unusedVariables false
set_option linter.unusedSimpArgs false
namespace Go.Proofs.Yteidhlfiofiocab
open Go.RowKit Go.Shelf Go.Maps

theorem laidOutPl : laidOutB Try.prog = true := by kernel_rfl
theorem rowPlace : (46 : TypeId) < Try.prog.types.size := of_decide_eq_true (by kernel_rfl)
theorem widePlace : (match Try.prog.underlying 46 with | some (.array _ _) | some (.struct _) => true | _ => false) = true := by kernel_rfl
theorem keyTPlace : Try.prog.keyTypeAt 2 46 = true := by kernel_rfl
set_option maxRecDepth 100000 in
theorem lawPlace0 : WideMaps.KeyLaw Try.prog 46 := deep_law_laid laidOutPl (m := 2) (by omega) rowPlace keyTPlace widePlace
theorem lawPlace : Keyed Try.prog 46 := Keyed.of_law lawPlace0

def plV (p : Int × Int) : Value := .agg #[.int .i64 p.1, .int .i64 p.2]
theorem plV_inj {p q : Int × Int} (h : plV p = plV q) : p = q := by
  obtain ⟨a, b⟩ := p
  obtain ⟨c, d⟩ := q
  unfold plV at h
  cases h
  rfl
theorem wfI {t : Int} (h : In64 t) : (Lit.int .i64 t).wf = true := by
  obtain ⟨h1, h2⟩ := h
  exact WalkArith.wf_i64 ⟨h1, h2⟩
set_option maxRecDepth 100000 in
theorem place_key (p : Int × Int) (h1 : In64 p.1) (h2 : In64 p.2) : ∃ l, keyOf Try.prog 46 (plV p) = some l := by
  obtain ⟨a, b⟩ := p
  have w1 := wfI h1
  have w2 := wfI h2
  have hK : Try.prog.keyType 46 = true := by kernel_rfl
  have hc : Try.prog.cellsOf 46 = 2 := by kernel_rfl
  have hc1 : Try.prog.cellsOf 23 = 1 := by kernel_rfl
  have hc2 : Try.prog.cellsOf 3 = 1 := by kernel_rfl
  have hs : ∃ m, Try.prog.types.size = m + 1 := ⟨Try.prog.types.size - 1, by have h : (46 : Nat) < Try.prog.types.size := rowPlace; omega⟩
  obtain ⟨m, hs⟩ := hs
  unfold plV keyOf
  rw [Try.underlying46]
  simp only [hK, Value.formed, Try.underlying46, hc, Value.cells]
  simp [hs, Program.keyLits, Try.underlying46, Try.underlying23, Try.underlying3, hc, hc1, hc2, w1, w2]

set_option maxRecDepth 100000 in
theorem place_same (w : World) (p q : Int × Int) (h1 : In64 p.1) (h2 : In64 p.2) (h3 : In64 q.1) (h4 : In64 q.2) : (Op.equal 46 (plV p) (plV q)).run Try.prog w = .ok (p == q) w := by
  obtain ⟨lp, hp⟩ := place_key p h1 h2
  obtain ⟨lq, hq⟩ := place_key q h3 h4
  obtain ⟨r, hr, hiff⟩ := run_equal_deep w (m := 2) (by omega) keyTPlace widePlace hp hq
  rw [hr]
  congr 1
  have : r = true ↔ (p == q) = true := by
    rw [hiff, beq_iff_eq]
    constructor
    · intro e
      subst e
      exact plV_inj (lawPlace.inj hp hq)
    · intro e
      subst e
      rw [hp] at hq
      cases hq
      rfl
  cases r <;> cases hb : (p == q) <;> simp_all
theorem place_eql (w : World) (a b c d : Int) (r : Bool) (h1 : In64 a) (h2 : In64 b) (h3 : In64 c) (h4 : In64 d) (hr : ((a, b) == (c, d)) = r) : (binOp .eql 46 (.agg #[.int .i64 a, .int .i64 b]) (.agg #[.int .i64 c, .int .i64 d])).run Try.prog w = .ok (.bool r) w := by
  have h := place_same w (a, b) (c, d) h1 h2 h3 h4
  rw [hr] at h
  unfold plV at h
  simp [binOp, h]
theorem place_neq (w : World) (a b c d : Int) (r : Bool) (h1 : In64 a) (h2 : In64 b) (h3 : In64 c) (h4 : In64 d) (hr : ((a, b) == (c, d)) = r) : (binOp .neq 46 (.agg #[.int .i64 a, .int .i64 b]) (.agg #[.int .i64 c, .int .i64 d])).run Try.prog w = .ok (.bool (!r)) w := by
  have h := place_same w (a, b) (c, d) h1 h2 h3 h4
  rw [hr] at h
  unfold plV at h
  simp [binOp, h]

end Go.Proofs.Yteidhlfiofiocab
set_option linter.unusedVariables false
set_option linter.unusedSimpArgs false
namespace Go.Proofs.Yteidhlfiofiocab
open Go.RowKit Go.Shelf Go.Maps

/-- The shape of a type of a table, or nothing. -/
noncomputable def Dt.ofM (d : List DataM) (t : Int) : List (Int × Int) := if Dt.shErr d [t] = 0 then Dt.places d t else []
theorem Dt.ofM_few {d : List DataM} (hd : Sm d) (t : Int) : (Dt.ofM d t).length ≤ 10100 := by
  unfold Dt.ofM
  split
  · exact Dt.places_few hd t
  · simp
theorem Dt.ofM_nodup (d : List DataM) (t : Int) : (Dt.ofM d t).Nodup := by
  unfold Dt.ofM
  split
  · exact Dt.places_nodup d t
  · exact List.nodup_nil
theorem Dt.typed_of_check0 {d : List DataM} (h : Dt.check d = 0) : Dt.typed d = true := by
  unfold Dt.check at h
  split at h
  · omega
  · split at h
    · omega
    · split at h
      · omega
      · split at h
        · omega
        · next h4 => simpa using h4

theorem fs_one (w : World) (t : Int) : FsAt (w.alloc (.cells #[.int .i64 t] 23)) (.slice (some ⟨w.heap.size, 0, none⟩) 1 1) [t] := by
  refine ⟨_, _, _, rfl, rfl, .inr ⟨w.heap.size, 0, rfl, by simp, fun i hi => ?_⟩⟩
  match i, hi with
  | 0, _ => simp
theorem fs_two (w : World) (t u : Int) : FsAt (w.alloc (.cells #[.int .i64 t, .int .i64 u] 23)) (.slice (some ⟨w.heap.size, 0, none⟩) 2 2) [t, u] := by
  refine ⟨_, _, _, rfl, rfl, .inr ⟨w.heap.size, 0, rfl, by simp, fun i hi => ?_⟩⟩
  match i, hi with
  | 0, _ => simp
  | 1, _ => simp

set_option maxRecDepth 100000 in
set_option maxHeartbeats 3200000 in
theorem Of_any (v : Value) (d : List DataM) (t : Int) (w : World) (hv : DsAt w v d) (hd : Sm d) (ht : In64 t) :
    Calls Try.prog 8 #[v, .int .i64 t] w fun e w' => (∃ u, e = .returned u ∧ PsAt w' u (Dt.ofM d t)) ∧ Below w.heap.size w w' := by
  obtain ⟨E, hE⟩ : ∃ E, Dt.shErr d [t] = E := ⟨_, rfl⟩
  have hA := (Below.refl w.heap.size w).alloc (Nat.le_refl _) (.cells #[.int .i64 t] 23)
  have HA := Lib.hid hA
  have HV := Lib.hid hv
  have HD := Lib.hid hd
  have HT := Lib.hid ht
  have HE := Lib.hid hE
  have HCK := Lib.hid (shCheck_any v (.slice (some ⟨w.heap.size, 0, none⟩) 1 1) d [t] E (w.alloc (.cells #[.int .i64 t] 23)) (hv.keep hA (Nat.le_refl _)) (fs_one w t) hd (by simp) HE)
  obtain ⟨ad, cap, hvE⟩ := hv.slice
  generalize d.length = n at hvE
  subst hvE
  clear hv hd ht hA hE
  by_cases h0 : E = 0
  · subst h0
    have h1 := Dt.shErr_zero HE.out
    have HTY := Lib.hid (Dt.typed_of_check0 h1.1)
    have HOK := Lib.hid (h1.2 t (by simp))
    have HX : Hid (Dt.ofM d t = Dt.places d t) := Lib.hid (by unfold Dt.ofM; rw [HE.out, if_pos rfl])
    clear h1
    go_enter Try.func8, Try.ntmps8
    go_wp2_with fail
    refine HCK.out.mono ?_
    rintro e w1 ⟨rfl, hb⟩
    have HB1 := Lib.hid (HA.out.trans (hb.mono HA.out.size))
    clear hb
    have HP := Lib.hid (places_any _ d t w1 (HV.out.keep HB1.out (Nat.le_refl _)) HD.out HTY.out HT.out HOK.out)
    rw [← HX.out] at HP
    go_wp2_with fail
    refine HP.out.mono ?_
    rintro e w2 ⟨⟨u, rfl, hu⟩, hb⟩
    have HB2 := Lib.hid (HB1.out.trans (hb.mono HB1.out.size))
    have HU := Lib.hid hu
    clear hu hb
    go_wp2
    go_ret
    exact ⟨⟨_, rfl, HU.out⟩, HB2.out⟩
  · have hX : Dt.ofM d t = [] := by unfold Dt.ofM; rw [HE.out, if_neg h0]
    rw [hX]
    have hne : (E == 0) = false := by simpa using h0
    have hne2 : (E != 0) = true := by simpa using h0
    clear h0 hX
    go_enter Try.func8, Try.ntmps8
    go_wp2_with fail
    refine HCK.out.mono ?_
    rintro e w1 ⟨rfl, hb⟩
    have HB1 := Lib.hid (HA.out.trans (hb.mono HA.out.size))
    clear hb
    go_wp2
    go_ret
    exact ⟨⟨_, rfl, PsAt.nil _⟩, HB1.out⟩


theorem bchain {B : Nat} {w W W1 w1 : World} (hB : B ≤ w.heap.size) (h : Below B w W) (hb : Below W1.heap.size W1 w1) (hW : W1 = W ∨ W1 = W.drew) : Below B w w1 := by
  rcases hW with rfl | rfl
  · exact h.trans (hb.mono (Nat.le_trans hB h.size))
  · exact h.drew.trans (hb.mono (Nat.le_trans hB h.drew.size))

theorem Dt.places_in64 {d : List DataM} (hd : Sm d) {t : Int} {p : Int × Int} (h : p ∈ Dt.places d t) : In64 p.1 ∧ In64 p.2 := by
  obtain ⟨h1, h2, h3⟩ := Dt.mem_places.1 h
  have h4 := (ok_iff d p.1).1 (Dt.nf_ok (Dt.contents_nf h1))
  have h5 := consOf_length hd p.1
  have h6 := hd.1
  unfold In64
  omega
theorem Dt.ofM_in64 {d : List DataM} (hd : Sm d) {t : Int} : ∀ p ∈ Dt.ofM d t, In64 p.1 ∧ In64 p.2 := by
  intro p hp
  unfold Dt.ofM at hp
  split at hp
  · exact Dt.places_in64 hd hp
  · cases hp


end Go.Proofs.Yteidhlfiofiocab
set_option linter.unusedVariables false
set_option linter.unusedSimpArgs false
namespace Go.Proofs.Yteidhlfiofiocab
open Go.RowKit Go.Shelf Go.Maps

/-- A place as a key. -/
noncomputable def kp (p : Int × Int) : Lit := (keyOf Try.prog 46 (plV p)).getD (.bool false)
theorem kp_key {p : Int × Int} (h1 : In64 p.1) (h2 : In64 p.2) : keyOf Try.prog 46 (plV p) = some (kp p) := by
  obtain ⟨l, hl⟩ := place_key p h1 h2
  unfold kp
  rw [hl]
  rfl
theorem kp_inj {p q : Int × Int} (h1 : In64 p.1) (h2 : In64 p.2) (h3 : In64 q.1) (h4 : In64 q.2) (h : kp p = kp q) : p = q := by
  have e1 := kp_key h1 h2
  have e2 := kp_key h3 h4
  rw [← h] at e2
  exact plV_inj (lawPlace.inj e1 e2)
theorem zeroInt (w : World) : (zeroValue 3).run Try.prog w = .ok (.int .i64 0) w := by kernel_rfl

namespace Dt
theorem pidx_left {l : List (Int × Int)} {p q : Int × Int} (h : p ∈ l) : pidx p (l ++ [q]) = pidx p l := by
  obtain ⟨i, hi, e1, e2⟩ := pidx_mem h
  rw [e1]
  unfold pidx at e1 ⊢
  refine fidx_hit _ (l ++ [q]) i (by simp; omega) ?_ (fun j hj => ?_)
  · rw [List.getElem_append_left hi]; simp [e2]
  · rw [List.getElem_append_left (by omega)]
    unfold fidx at e1
    cases hf : l.findIdx? (fun x => x == p) with
    | none => rw [hf] at e1; exact absurd e1 (by simp)
    | some k =>
      rw [hf] at e1
      have hk : k = i := by simp at e1; omega
      subst hk
      obtain ⟨_, _, h3⟩ := List.findIdx?_eq_some_iff_getElem.1 hf
      simpa using h3 j hj
theorem pidx_new {l : List (Int × Int)} {q : Int × Int} (h : ¬ q ∈ l) : pidx q (l ++ [q]) = l.length := by
  unfold pidx
  refine fidx_hit _ (l ++ [q]) l.length (by simp) (by simp) (fun j hj => ?_)
  rw [List.getElem_append_left hj, beq_eq_false_iff_ne]
  intro e
  exact h (e ▸ List.getElem_mem hj)
/-- The index of a place, or 0. -/
def pix (p : Int × Int) (l : List (Int × Int)) : Int := if p ∈ l then pidx p l else 0
theorem pix_snoc {l : List (Int × Int)} {p q : Int × Int} (hq : ¬ q ∈ l) : pix p (l ++ [q]) = if p = q then (l.length : Int) else pix p l := by
  unfold pix
  by_cases hpq : p = q
  · subst hpq
    rw [if_pos (by simp), if_pos rfl, pidx_new hq]
  · rw [if_neg hpq]
    by_cases hp : p ∈ l
    · rw [if_pos (by simp [hp]), if_pos hp, pidx_left hp]
    · rw [if_neg (by simp [hp, hpq]), if_neg hp]
end Dt

/-- Block b is a map that has the index of each place of l. -/
def MapIdx (w : World) (b n : Nat) (l : List (Int × Int)) : Prop :=
  ∃ D : DataW Unit, w.ownsMap Try.prog 46 (plainElem Try.prog 3) b n D ∧ IsMap D ∧ ∀ p : Int × Int, In64 p.1 → In64 p.2 → Maps.has D (kp p) = decide (p ∈ l) ∧ D.atKey (kp p) (.lit (.int .i64 0)) = .lit (.int .i64 (Dt.pix p l))
theorem MapIdx.new (w : World) : MapIdx (w.alloc (.map #[] 0)) w.heap.size 0 [] :=
  ⟨.map [], World.ownsMap_made w _ _ _, isMap_empty, fun p _ _ => ⟨rfl, rfl⟩⟩
theorem MapIdx.keep {w w' : World} {b n : Nat} {l : List (Int × Int)} (h : MapIdx w b n l) (hk : w'.heap[b]? = w.heap[b]?) : MapIdx w' b n l := by
  obtain ⟨D, ⟨es, clock, hb, F, hs, hD⟩, h2, h3⟩ := h
  exact ⟨D, ⟨es, clock, hk.trans hb, F, hs, hD⟩, h2, h3⟩
theorem MapIdx.lt {w : World} {b n : Nat} {l : List (Int × Int)} (h : MapIdx w b n l) : b < w.heap.size := by
  obtain ⟨D, h1, _⟩ := h
  exact h1.lt
theorem MapIdx.cell {w : World} {b n : Nat} {l : List (Int × Int)} (h : MapIdx w b n l) (o : Nat) : w.cell? ⟨b, o, none⟩ = none := by
  obtain ⟨D, ⟨es, clock, hb, F, hs, hD⟩, h2, h3⟩ := h
  simp [World.cell?, hb]
set_option maxRecDepth 100000 in
theorem MapIdx.look {w : World} {b n : Nat} {l : List (Int × Int)} (h : MapIdx w b n l) {p : Int × Int} (h1 : In64 p.1) (h2 : In64 p.2) :
    (Instr.lookup 44 (.map (some b)) (plV p) true).run Try.prog w = .ok (.tuple #[.int .i64 (Dt.pix p l), .bool (decide (p ∈ l))]) w := by
  obtain ⟨D, hD, hM, hA⟩ := h
  obtain ⟨v, ps, hrun, hv⟩ := hD.look_ok lawPlace Try.underlying44 (zeroInt w) (plainElem_int Try.underlying3 (wfI (t := 0) (by unfold In64; omega))) (kp_key h1 h2)
  obtain ⟨c, rfl, hc, hwc⟩ := plainElem_int_inv Try.underlying3 hv
  obtain ⟨e1, e2⟩ := hA p h1 h2
  rw [e2] at hc
  simp at hc
  rw [e1, ← hc.1] at hrun
  exact hrun
set_option maxRecDepth 100000 in
theorem MapIdx.store {w : World} {b n : Nat} {l : List (Int × Int)} (h : MapIdx w b n l) (hn : n < maxLen) {p : Int × Int} (h1 : In64 p.1) (h2 : In64 p.2) (hp : ¬ p ∈ l) {c : Int} (hc : c = l.length) (hw : In64 c) :
    ∃ w', (Instr.mapUpdate 44 (.map (some b)) (plV p) (.int .i64 c)).run Try.prog w = .ok () w' ∧ MapIdx w' b (n + 1) (l ++ [p]) ∧ w.grownBy w' (some b) := by
  obtain ⟨D, hD, hM, hA⟩ := h
  obtain ⟨w', hrun, r1, r2⟩ := hD.update lawPlace Try.underlying44 hn (kp_key h1 h2) (plainElem_int Try.underlying3 (wfI hw))
  refine ⟨w', hrun, ⟨_, r1, hM.put _ _, fun q q1 q2 => ?_⟩, r2⟩
  have hl : WideAt.IsKeyLit (kp p) := lawPlace.key (kp_key h1 h2)
  obtain ⟨e1, e2⟩ := hA q q1 q2
  rw [Dt.pix_snoc hp]
  by_cases hx : q = p
  · subst hx
    rw [atKey_put_same hM hl, has_put_same hM hl, if_pos rfl, hc]
    simp
  · have hne : kp q ≠ kp p := fun e => hx (kp_inj q1 q2 h1 h2 e)
    rw [atKey_put_other hne, has_put_other hne, if_neg hx, e1, e2]
    simp [hx]

theorem wpList_idx_look (w : World) {ops : Array Oper} {rest : List Oper} {o : Oper} {a : Act} {Q : Exit → Act → World → Prop}
    (hg : o.guard = none) (m x : Operand) (hop : o.op = Op.lookup 44 m x true) (b n : Nat) (l : List (Int × Int)) (p : Int × Int) (h1 : In64 p.1) (h2 : In64 p.2)
    (hm : a.eval m = .map (some b)) (hown : MapIdx w b n l) (hx : a.eval x = plV p)
    (hK : wpList Try.prog ops Q rest (a.put o.dst (.tuple #[.int .i64 (Dt.pix p l), .bool (decide (p ∈ l))])) w) : wpList Try.prog ops Q (o :: rest) a w := by
  refine wpList_plain hg fun K' hK' => ?_
  have hrun := hown.look h1 h2
  unfold Oper.wp
  simp [execOp, hop, hm, hx, hrun, Result.andThen]
  exact hK' _ _ hK
theorem wpList_idx_store (w : World) {ops : Array Oper} {rest : List Oper} {o : Oper} {a : Act} {Q : Exit → Act → World → Prop}
    (hg : o.guard = none) (m x v : Operand) (hop : o.op = Op.mapUpdate 44 m x v) (b n : Nat) (l : List (Int × Int)) (p : Int × Int) (c : Int) (h1 : In64 p.1) (h2 : In64 p.2) (hp : ¬ p ∈ l) (hc : c = l.length) (hw : In64 c)
    (hm : a.eval m = .map (some b)) (hown : MapIdx w b n l) (hn : n < maxLen) (hx : a.eval x = plV p) (hv : a.eval v = .int .i64 c)
    (hK : ∀ w', MapIdx w' b (n + 1) (l ++ [p]) → w.grownBy w' (some b) → wpList Try.prog ops Q rest (a.put o.dst undef) w') : wpList Try.prog ops Q (o :: rest) a w := by
  refine wpList_plain hg fun K' hK' => ?_
  obtain ⟨w', hrun, r1, r2⟩ := hown.store hn h1 h2 hp hc hw
  unfold Oper.wp
  simp [execOp, hop, hm, hx, hv, hrun, Result.andThen]
  exact hK' _ _ (hK w' r1 r2)

end Go.Proofs.Yteidhlfiofiocab
set_option linter.unusedVariables false
set_option linter.unusedSimpArgs false
namespace Go.Proofs.Yteidhlfiofiocab
open Go.RowKit Go.Shelf Go.Maps

/-- What Inside finds: the error, and the indices. -/
noncomputable def Dt.insE (d : List DataM) (t f : Int) : Int := if Dt.shErr d [t, f] = 0 then (if Dt.inAll d t f then 0 else 9) else Dt.shErr d [t, f]
noncomputable def Dt.insL (d : List DataM) (t f : Int) : List Int := if Dt.insE d t f = 0 then Dt.inList d t f else []

/-- All blocks but one stand as they stood. -/
def But (m : Nat) (X Y : World) : Prop := X.heap.size ≤ Y.heap.size ∧ ∀ k, k < X.heap.size → k ≠ m → Y.heap[k]? = X.heap[k]?
theorem But.refl (m : Nat) (X : World) : But m X X := ⟨Nat.le_refl _, fun _ _ _ => rfl⟩
theorem But.trans {m : Nat} {X Y Z : World} (h : But m X Y) (k : But m Y Z) : But m X Z := ⟨Nat.le_trans h.1 k.1, fun i a b => (k.2 i (Nat.lt_of_lt_of_le a h.1) b).trans (h.2 i a b)⟩
theorem But.cell {m : Nat} {X Y : World} (h : But m X Y) {p : Addr} (hp : p.block < X.heap.size) (hm : p.block ≠ m) : Y.cell? p = X.cell? p := by
  simp only [World.cell?]
  rw [h.2 p.block hp hm]
theorem PsAt.but {X Y : World} {v : Value} {l : List (Int × Int)} {m n : Nat} {L : List (Int × Int)} (h : PsAt X v l) (hm : MapIdx X m n L) (hb : But m X Y) : PsAt Y v l := by
  obtain ⟨ad, k, cap, rfl, hn, h⟩ := h
  refine ⟨ad, k, cap, rfl, hn, ?_⟩
  rcases h with h | ⟨b, off, rfl, h1, h2⟩
  · exact .inl h
  · by_cases h0 : k = 0
    · exact .inl h0
    · have hbm : b ≠ m := by
        rintro rfl
        have h3 := (h2 0 (by omega)).1
        rw [hm.cell] at h3
        cases h3
      refine .inr ⟨b, off, rfl, Nat.lt_of_lt_of_le h1 hb.1, fun i hi => ?_⟩
      obtain ⟨e1, e2⟩ := h2 i hi
      exact ⟨(hb.cell (p := ⟨b, off + i * 2, none⟩) h1 hbm).trans e1, (hb.cell (p := ⟨b, off + i * 2 + 1, none⟩) h1 hbm).trans e2⟩

theorem infoInt : (Try.prog.info? 3).map (fun i => (i.zero, i.size, i.bytes)) = some (some (.int .i64 0), 1, 8) := by kernel_rfl
/-- A row of numbers of the call's own. -/
def Nw (B : Nat) (W : World) (v : Value) (l : List Int) : Prop := W.ownsRow B 3 1 v l.length (ints l)
theorem Nw.row {B : Nat} {W : World} {v : Value} {l : List Int} (h : Nw B W v l) : FsAt W v l := by
  rcases h.2 with ⟨hv, h0⟩ | ⟨g, cap, cur, hv, hg, hgb, hnc, hcm, hcs, htk⟩
  · obtain rfl := List.length_eq_zero_iff.1 h0
    rw [hv]; exact FsAt.nil W
  · refine ⟨_, _, _, hv, rfl, .inr ⟨g, 0, rfl, (Array.getElem?_eq_some_iff.1 hgb).1, fun i hi => ?_⟩⟩
    have h1 := congrArg (fun l => l[i]?) htk
    rw [List.getElem?_take_of_lt (by omega)] at h1
    simp only [World.cell?, hgb, Nat.zero_add]
    simpa [ints, hi] using h1
theorem Nw.slice {B : Nat} {W : World} {v : Value} {l : List Int} (h : Nw B W v l) : ∃ a c, v = .slice a l.length c := h.row.slice

theorem Dt.inList_length (d : List DataM) (t f : Int) : (Dt.inList d t f).length = (Dt.places d f).length := by simp [Dt.inList]

set_option maxRecDepth 100000 in
set_option maxHeartbeats 12800000 in
theorem Inside_any (v : Value) (d : List DataM) (t f : Int) (w : World) (hv : DsAt w v d) (hd : Sm d) (ht : In64 t) (hf : In64 f) :
    Calls Try.prog 6 #[v, .int .i64 t, .int .i64 f] w fun e w' => (∃ u, e = .returned (.tuple #[u, .int .i64 (Dt.insE d t f)]) ∧ FsAt w' u (Dt.insL d t f)) ∧ Below w.heap.size w w' := by
  obtain ⟨E, hE⟩ : ∃ E, Dt.shErr d [t, f] = E := ⟨_, rfl⟩
  have hA := (Below.refl w.heap.size w).alloc (Nat.le_refl _) (.cells #[.int .i64 t, .int .i64 f] 23)
  have HA := Lib.hid hA
  have HV := Lib.hid hv
  have HD := Lib.hid hd
  have HT := Lib.hid ht
  have HF := Lib.hid hf
  have HE := Lib.hid hE
  have HCK := Lib.hid (shCheck_any v (.slice (some ⟨w.heap.size, 0, none⟩) 2 2) d [t, f] E (w.alloc (.cells #[.int .i64 t, .int .i64 f] 23)) (hv.keep hA (Nat.le_refl _)) (fs_two w t f) hd (by simp) HE)
  obtain ⟨ad, cap, hvE⟩ := hv.slice
  generalize d.length = n at hvE
  subst hvE
  clear hv hd ht hf hA hE
  by_cases h0 : E = 0
  · subst h0
    have h1 := Dt.shErr_zero HE.out
    have HTY := Lib.hid (Dt.typed_of_check0 h1.1)
    have HOK := Lib.hid (h1.2 t (by simp))
    have HOF := Lib.hid (h1.2 f (by simp))
    obtain ⟨P, hP⟩ : ∃ P, Dt.places d t = P := ⟨_, rfl⟩
    obtain ⟨L, hL⟩ : ∃ L, Dt.places d f = L := ⟨_, rfl⟩
    have HND : Hid P.Nodup := Lib.hid (by rw [← hP]; exact Dt.places_nodup d t)
    have HP64 : Hid (∀ p ∈ P, In64 p.1 ∧ In64 p.2) := Lib.hid (by rw [← hP]; exact fun p hp => Dt.places_in64 HD.out hp)
    have HL64 : Hid (∀ p ∈ L, In64 p.1 ∧ In64 p.2) := Lib.hid (by rw [← hL]; exact fun p hp => Dt.places_in64 HD.out hp)
    have hPl : P.length ≤ 10100 := by rw [← hP]; exact Dt.places_few HD.out t
    have hLl : L.length ≤ 10100 := by rw [← hL]; exact Dt.places_few HD.out f
    have HI1 : Hid (Dt.insE d t f = if L.all (fun p => decide (p ∈ P)) then 0 else 9) := Lib.hid (by unfold Dt.insE Dt.inAll; rw [HE.out, if_pos rfl, hP, hL])
    have HI2 : Hid (Dt.inList d t f = L.map (fun p => Dt.pix p P)) ∨ True := .inr trivial
    have HIL : Hid (L.all (fun p => decide (p ∈ P)) = true → Dt.inList d t f = L.map (fun p => Dt.pix p P)) := Lib.hid (fun h => by
      unfold Dt.inList
      rw [hL, hP]
      refine List.map_congr_left fun p hp => ?_
      have h2 : p ∈ P := by
        have := List.all_eq_true.1 h p hp
        simpa using this
      unfold Dt.pix
      rw [if_pos h2])
    clear HI2 h1
    have HPW : Hid (∀ W : World, DsAt W (.slice ad n cap) d → Calls Try.prog 10 #[.slice ad n cap, .int .i64 t] W fun e w' => (∃ u, e = .returned u ∧ PsAt w' u P) ∧ Below W.heap.size W w') := Lib.hid fun W h => by rw [← hP]; exact places_any _ d t W h HD.out HTY.out HT.out HOK.out
    have HLW : Hid (∀ W : World, DsAt W (.slice ad n cap) d → Calls Try.prog 10 #[.slice ad n cap, .int .i64 f] W fun e w' => (∃ u, e = .returned u ∧ PsAt w' u L) ∧ Below W.heap.size W w') := Lib.hid fun W h => by rw [← hL]; exact places_any _ d f W h HD.out HTY.out HF.out HOF.out
    obtain ⟨E, hE⟩ : ∃ E, Dt.insE d t f = E := ⟨_, rfl⟩
    obtain ⟨R, hR⟩ : ∃ R, Dt.insL d t f = R := ⟨_, rfl⟩
    have HRL : Hid (R = if E = 0 then Dt.inList d t f else []) := Lib.hid (by rw [← hR, ← hE]; rfl)
    rw [hE] at HI1
    rw [hE, hR]
    obtain ⟨m, hm⟩ : ∃ m, P.length = m := ⟨_, rfl⟩
    obtain ⟨q, hq⟩ : ∃ q, L.length = q := ⟨_, rfl⟩
    rw [hm] at hPl
    rw [hq] at hLl
    have HM := Lib.hid hm
    have HQ := Lib.hid hq
    have hmm := @run_makeMap Try.prog
    obtain ⟨i0, hi, hz0, hz1, hz2⟩ := info_parts infoInt
    have HI := Lib.hid hi
    have HZ0 := Lib.hid hz0
    have HZ1 := Lib.hid hz1
    have HZ2 := Lib.hid hz2
    clear hP hL hE hR hm hq hi hz0 hz1 hz2
    go_enter Try.func6, Try.ntmps6
    go_wp2_with fail
    refine HCK.out.mono ?_
    rintro e w1 ⟨rfl, hb⟩
    have HB1 := Lib.hid (HA.out.trans (hb.mono HA.out.size))
    clear hb HCK HA
    go_wp2_with fail
    have hB1a : Below w.heap.size w (w1.alloc (.map #[] 0)) := HB1.out.alloc HB1.out.size _
    refine (HPW.out _ (HV.out.keep hB1a (Nat.le_refl _))).mono ?_
    rintro e w2 ⟨⟨u, rfl, hu⟩, hb⟩
    have HB2 := Lib.hid (hB1a.trans (hb.mono hB1a.size))
    obtain ⟨mb, hmb⟩ : ∃ mb, w1.heap.size = mb := ⟨_, rfl⟩
    have hmx : MapIdx w2 mb 0 [] := by
      rw [← hmb]
      exact (MapIdx.new w1).keep (hb.block _ (by simp))
    have HMB : Hid (w.heap.size ≤ mb) := Lib.hid (by rw [← hmb]; exact HB1.out.size)
    obtain ⟨ua, uc, rfl⟩ := hu.slice
    rw [HM.out] at hu ⊢
    rw [hmb]
    have HU := Lib.hid hu
    have HMX := Lib.hid hmx
    clear hb hB1a hu hmx hmm hmb HPW
    go_wp2
    go_loopw [30] (fun i wr => ∃ c : Nat, c ≤ m ∧ i = .int .i64 c ∧ Hid (MapIdx wr mb c (P.take c)) ∧ Hid (But mb w2 wr) ∧ Hid (Below w.heap.size w wr)) (fun i _ => m - (intOf i).toNat)
    case atStart => exact ⟨0, Nat.zero_le _, rfl, HMX, Lib.hid (But.refl _ _), HB2⟩
    case round =>
      obtain ⟨c, hc, rfl, HMR, HBT, HBR⟩ := hrel
      by_cases hlt : c < m
      · have hltz : (c : Int) < (m : Int) := by omega
        have hcl : c < P.length := by rw [HM.out]; exact hlt
        obtain ⟨pb, po, rfl, hpb, p0, p1⟩ := (HU.out.but HMX.out HBT.out).at c hcl
        obtain ⟨x1, x2, hx⟩ : ∃ x1 x2, P[c] = (x1, x2) := ⟨_, _, rfl⟩
        have h64 := HP64.out P[c] (List.getElem_mem hcl)
        have hnin : ¬ P[c] ∈ P.take c := by
          intro h
          obtain ⟨j, hj, e⟩ := List.getElem_of_mem h
          rw [List.getElem_take] at e
          rw [List.length_take] at hj
          have := (List.getElem_inj HND.out).1 e
          omega
        have htk : P.take (c + 1) = P.take c ++ [P[c]] := (List.take_append_getElem hcl).symm
        have htl : (c : Int) = (P.take c).length := by rw [List.length_take, HM.out]; omega
        rw [hx] at p0 p1 h64 hnin htk
        dsimp only at p0 p1 h64
        have H64 := Lib.hid h64
        have HNI := Lib.hid hnin
        have HTK := Lib.hid htk
        have HTL := Lib.hid htl
        have HC64 : Hid (In64 (c : Int)) := Lib.hid (by unfold In64; omega)
        have HMA : Hid (MapIdx (wr.alloc (.cells #[.int .i64 x1, .int .i64 x2] 46)) mb c (P.take c)) := Lib.hid (HMR.out.keep (Below.heap_alloc _ _ _ HMR.out.lt))
        clear hx h64 hnin htk htl hcl
        go_wp2_with (first | (at_mapUpdate; refine wpList_idx_store _ rfl _ _ _ rfl mb c (P.take c) (x1, x2) (c : Int) H64.out.1 H64.out.2 HNI.out HTL.out HC64.out rfl HMA.out (by unfold maxLen; omega) rfl rfl ?_; intro w4 hm4 hg4; refine hold ?_))
        have hB4 : Below w.heap.size w w4 := (HBR.out.alloc HBR.out.size _).grown hg4 (by have := HBR.out.size; simp; omega) (fun k e => by cases e; exact HMB.out)
        have hT4 : But mb w2 w4 := HBT.out.trans ⟨by have := hg4.size; simp at this; omega, fun k a b => by
          rw [hg4.block k (by simp; omega) (fun e => b (by cases e; rfl)), Below.heap_alloc _ _ _ a]⟩
        have HB4 := Lib.hid hB4
        have HT4 := Lib.hid hT4
        have HM4 := Lib.hid hm4
        clear hm4 hg4 hB4 hT4 p0 p1
        refine go_on ?_
        go_wp2
        go_roundw
        case rel => exact ⟨c + 1, by omega, by go_num, Lib.hid (by rw [HTK.out]; exact HM4.out), HT4, HB4⟩
        case measure => simp [intOf]; omega
      · obtain rfl : m = c := by omega
        have hnn : ¬ (m : Int) < m := by omega
        have HMF : Hid (MapIdx wr mb m P) := Lib.hid (by
          have h := HMR.out
          rw [List.take_of_length_le (by rw [HM.out]; exact Nat.le_refl _)] at h
          exact h)
        go_wp2_with fail
        refine (HLW.out _ (HV.out.keep HBR.out (Nat.le_refl _))).mono ?_
        rintro e w3 ⟨⟨u, rfl, hu⟩, hb⟩
        have HB3 := Lib.hid (HBR.out.trans (hb.mono HBR.out.size))
        have HM3 := Lib.hid (HMF.out.keep (hb.block _ HMF.out.lt))
        obtain ⟨va, vc, rfl⟩ := hu.slice
        rw [HQ.out] at hu ⊢
        have HU3 := Lib.hid hu
        have HR0 : Hid (Nw w3.heap.size w3 (.slice none 0 0) ((L.take 0).map (fun p => Dt.pix p P))) := Lib.hid (World.ownsRow_nil _ _ _ _)
        clear hb hu HMF HMR HBT
        go_wp2
        go_loopw [12, 43] (fun v i wr => ∃ c : Nat, c ≤ q ∧ i = .int .i64 c ∧ Hid (Nw w3.heap.size wr v ((L.take c).map (fun p => Dt.pix p P))) ∧ Hid (Below w3.heap.size w3 wr) ∧ Hid (∀ p ∈ L.take c, p ∈ P)) (fun _ i _ => q - (intOf i).toNat)
        case atStart => exact ⟨0, Nat.zero_le _, rfl, HR0, Lib.hid (Below.refl _ _), Lib.hid (fun p hp => by simp at hp)⟩
        case round =>
          obtain ⟨c, hc, rfl, HR, HB, HAL⟩ := hrel
          by_cases hlt : c < q
          · have hltz : (c : Int) < (q : Int) := by omega
            have hcl : c < L.length := by rw [HQ.out]; exact hlt
            obtain ⟨pb, po, rfl, hpb, p0, p1⟩ := (HU3.out.keep HB.out (Nat.le_refl _)).at c hcl
            obtain ⟨x1, x2, hx⟩ : ∃ x1 x2, L[c] = (x1, x2) := ⟨_, _, rfl⟩
            have h64 := HL64.out L[c] (List.getElem_mem hcl)
            have htk : L.take (c + 1) = L.take c ++ [L[c]] := (List.take_append_getElem hcl).symm
            have hml : L[c] ∈ L := List.getElem_mem hcl
            rw [hx] at p0 p1 h64 htk hml
            dsimp only at p0 p1 h64
            have H64 := Lib.hid h64
            have HTK := Lib.hid htk
            have HML := Lib.hid hml
            have HMA : Hid (MapIdx (wr.alloc (.cells #[.int .i64 x1, .int .i64 x2] 46)) mb m P) := Lib.hid ((HM3.out.keep (HB.out.block _ HM3.out.lt)).keep (Below.heap_alloc _ _ _ (Nat.lt_of_lt_of_le HM3.out.lt HB.out.size)))
            obtain ⟨r, hr⟩ : ∃ r, decide ((x1, x2) ∈ P) = r := ⟨_, rfl⟩
            obtain ⟨z, hz⟩ : ∃ z, Dt.pix (x1, x2) P = z := ⟨_, rfl⟩
            have HRR := Lib.hid hr
            have HZZ := Lib.hid hz
            clear hx h64 htk hcl hml
            cases r with
            | false =>
              go_wp2_with (first | (at_lookup; refine wpList_idx_look _ rfl _ _ rfl mb m P (x1, x2) H64.out.1 H64.out.2 rfl HMA.out rfl ?_; rw [hr, hz]))
              have hE9 : E = 9 := by
                rw [HI1.out, if_neg]
                rw [List.all_eq_true]
                intro h
                have := h _ HML.out
                rw [HRR.out] at this
                cases this
              have hR0 : R = [] := by rw [HRL.out, hE9, if_neg (by omega)]
              have HBF := Lib.hid (HB3.out.trans ((HB.out.alloc HB.out.size (.cells #[.int .i64 x1, .int .i64 x2] 46)).mono HB3.out.size))
              subst hE9
              rw [hR0]
              go_ret2
              exact ⟨⟨_, rfl, FsAt.nil _⟩, HBF.out⟩
            | true =>
              obtain ⟨now, hnow⟩ : ∃ now, (L.take c).map (fun p => Dt.pix p P) = now := ⟨_, rfl⟩
              have hnl : now.length ≤ 10100 := by rw [← hnow, List.length_map, List.length_take]; omega
              have HTN : Hid ((L.take (c + 1)).map (fun p => Dt.pix p P) = now ++ [z]) := Lib.hid (by rw [HTK.out, List.map_append, hnow, List.map_cons, List.map_nil, HZZ.out])
              rw [hnow] at HR
              obtain ⟨na, nc, rfl⟩ := HR.out.slice
              obtain ⟨nn, hnn⟩ : ∃ nn, now.length = nn := ⟨_, rfl⟩
              have HRW : Hid (wr.ownsRow w3.heap.size 3 1 (.slice na nn nc) nn (ints now)) := Lib.hid (by have h := HR.out; unfold Nw at h; rw [hnn] at h; exact h)
              have hszW := HB.out.size
              rw [hnn] at hnl ⊢
              have HNN := Lib.hid hnn
              have HBA : Hid (Below w3.heap.size w3 (wr.alloc (.cells #[.int .i64 x1, .int .i64 x2] 46))) := Lib.hid (HB.out.alloc hszW _)
              have HRA : Hid ((wr.alloc (.cells #[.int .i64 x1, .int .i64 x2] 46)).ownsRow w3.heap.size 3 1 (.slice na nn nc) nn (ints now)) := Lib.hid (HRW.out.alloc _)
              have HAL2 : Hid (∀ p ∈ L.take (c + 1), p ∈ P) := Lib.hid (fun p hp => by
                rw [HTK.out] at hp
                rcases List.mem_append.1 hp with h | h
                · exact HAL.out p h
                · rw [List.mem_singleton.1 h]
                  exact of_decide_eq_true HRR.out)
              have HCN : Hid (∀ (j : Nat) (u : Value), [Value.int .i64 z][j]? = some u → ((wr.alloc (.cells #[.int .i64 x1, .int .i64 x2] 46)).alloc (.cells #[.int .i64 z] 3)).cell? ((⟨wr.heap.size + 1, 0, none⟩ : Addr).add j) = some u) := Lib.hid (by
                have h := cell_one_new (wr.alloc (.cells #[.int .i64 x1, .int .i64 x2] 46)) (.int .i64 z) 3
                rw [World.size_alloc] at h
                exact h)
              clear hnn hnow
              go_wp2_with (first | (at_lookup; refine wpList_idx_look _ rfl _ _ rfl mb m P (x1, x2) H64.out.1 H64.out.2 rfl HMA.out rfl ?_; rw [hr, hz]) | (at_builtin; refine wpList_append_own _ rfl _ _ 28 rfl w3.heap.size 3 i0 (.int .i64 0) 1 8 Try.underlying28 HI.out HZ0.out HZ1.out HZ2.out rfl (by decide) _ _ _ rfl (HRA.out.alloc _) ⟨wr.heap.size + 1, 0, none⟩ 1 1 [.int .i64 z] rfl rfl HCN.out (by intro u hu; simp at hu; subst hu; rfl) (by unfold maxLen; omega) (by omega) (by simp; omega) ?_; intro v5 w5 hown5 hgrow5 hnil5; refine hold ?_))
              have hB5 : Below w3.heap.size w3 w5 := (HBA.out.alloc HBA.out.size _).grown hgrow5 (by simp; omega) (fun g hg => (HRW.out.lt g hg).1)
              have hR5 : Nw w3.heap.size w5 v5 (now ++ [z]) := by
                unfold Nw
                rw [ints_snoc, List.length_append, HNN.out]
                exact hown5
              have HB5 := Lib.hid hB5
              have HR5 := Lib.hid hR5
              clear hown5 hgrow5 hnil5 hB5 hR5 hr hz p0 p1
              refine go_on ?_
              go_wp2
              go_roundw
              case rel => exact ⟨c + 1, by omega, by go_num, Lib.hid (by rw [HTN.out]; exact HR5.out), HB5, HAL2⟩
              case measure => simp [intOf]; omega
          · obtain rfl : q = c := by omega
            have hnn : ¬ (q : Int) < q := by omega
            have hall : L.all (fun p => decide (p ∈ P)) = true := by
              rw [List.all_eq_true]
              intro p hp
              have h := HAL.out p
              rw [List.take_of_length_le (by rw [HQ.out]; exact Nat.le_refl _)] at h
              exact decide_eq_true (h hp)
            have hE0 : E = 0 := by rw [HI1.out, if_pos hall]
            have HRF : Hid (FsAt wr u12 R) := Lib.hid (by
              rw [HRL.out, if_pos hE0, HIL.out hall]
              have h := HR.out
              rw [List.take_of_length_le (by rw [HQ.out]; exact Nat.le_refl _)] at h
              exact h.row)
            have HBF := Lib.hid (HB3.out.trans (HB.out.mono HB3.out.size))
            clear hall
            subst hE0
            go_wp2
            go_ret2
            exact ⟨⟨_, rfl, HRF.out⟩, HBF.out⟩
  · have hX : Dt.insE d t f = E := by unfold Dt.insE; rw [HE.out, if_neg h0]
    have hY : Dt.insL d t f = [] := by unfold Dt.insL; rw [hX, if_neg h0]
    rw [hX, hY]
    have hne : (E == 0) = false := by simpa using h0
    have hne2 : (E != 0) = true := by simpa using h0
    clear h0 hX hY
    go_enter Try.func6, Try.ntmps6
    go_wp2_with fail
    refine HCK.out.mono ?_
    rintro e w1 ⟨rfl, hb⟩
    have HB1 := Lib.hid (HA.out.trans (hb.mono HA.out.size))
    clear hb
    go_wp2
    go_ret2
    exact ⟨⟨_, rfl, FsAt.nil _⟩, HB1.out⟩

end Go.Proofs.Yteidhlfiofiocab
