/- What Text does. What readBoth does. What Add, Sub, Mul, Of and Neg do. -/
import Derived.Test.YtmdppblhbmbakaaGreatDoorV5
import Derived.Laws.IdiomStrings
set_option linter.unusedVariables false
set_option linter.unusedSimpArgs false
namespace Go.Proofs.YtmdppblhbmbakaaGreatDoor
open Go.RowKit _root_.Go.Proofs.YtmdppblhbmbakaaGreatDoor.Nm

theorem tab_from {w w' : World} (h : Tab w) (hb : Below w.heap.size w w') : TabFrom w.heap.size w' := fun w2 hb2 => Lib.tabBelow_of_tabIs h w2 (hb.trans hb2)

theorem tab_keep {w w' : World} (h : Tab w) (hb : Below w.heap.size w w') : Tab w' := (tab_from h hb).here

theorem appendTo_any (out : List UInt8) (nv sv : Value) (n : Nat) (w0 w : World) (hn : IsNat w0 nv n) (ln : (ds 1000000000 n).length ≤ 1000) (hb : Below w0.heap.size w0 w) (htab : Tab w0)
    (hown : w.ownsRow w0.heap.size 5 1 sv out.length (Lib.byteCells out)) (hl : out.length ≤ 1000) :
    Calls Tryz.prog 203 #[nv, sv] w (TxtPost w0.heap.size w (out ++ Lib.decDigits n)) := by
  rcases Rd.cases hn with ⟨h0, aa, ca, rfl, _⟩ | ⟨h0, g, off, ca, rfl, _, _, hg, hr⟩
  · have : n = 0 := (ds_eq_nil _ (by omega) n).1 h0
    subst this
    rw [show Lib.decDigits 0 = [48] from by decide +kernel]
    exact appendTo_zero _ out aa ca sv w hown hb.size (by omega)
  · have h := appendTo_pos w0.heap.size g off ca out (ds 1000000000 n) sv w hown hb.size hl h0 ln (ds_lt _ (by omega) n) (getLast_ne _ (by omega) n) (hr.keep hb hg) hg (tab_from htab hb)
    rwa [vl_ds _ (by omega)] at h

/-- The call returns this text. -/
def StrPost (l : List UInt8) (w : World) (e : Ending) (w' : World) : Prop := e = .returned (.string ⟨l.toArray⟩) ∧ Below w.heap.size w w'

theorem bytes_back {B : Nat} {w : World} {v : Value} {l : List UInt8} (h : w.ownsRow B 5 1 v l.length (Lib.byteCells l)) (h0 : 0 < l.length) :
    ∃ a c, v = .slice (some a) l.length c ∧ (convert 128 9 (.slice (some a) l.length c)).run Tryz.prog w = .ok (.string ⟨l.toArray⟩) w := by
  rcases h.2 with ⟨_, h2⟩ | ⟨g, cap, cur, rfl, _⟩
  · omega
  · refine ⟨⟨g, 0, none⟩, cap, rfl, run_convert_bytes_back w _ _ 5 _ _ l Tryz.underlying128 Tryz.underlying5 Tryz.underlying9 fun j hj => ?_⟩
    have hc := World.ownsRow.cells h (g := g) rfl j (.int .u8 (l[j].toNat : Int)) (by simp [Lib.byteCells, List.getElem?_eq_getElem hj])
    exact hc

set_option maxHeartbeats 2000000 in
set_option maxRecDepth 100000 in
theorem Text_short (z : Int) (hz : z.natAbs < 1000000000000000000) (w : World) (htab : Tab w) :
    Calls Tryz.prog 172 #[.agg #[.int .i64 z, .pointer none]] w (StrPost (Lib.itoa z) w) := by
  have h1 : -9223372036854775808 ≤ z := by omega
  have h2 : z ≤ 9223372036854775807 := by omega
  have HT := Lib.hid htab
  clear hz htab
  go_enter Tryz.func172, Tryz.ntmps172
  go_wp2_with fail
  refine (Tryz.strconv_FormatInt_10 z h1 h2 _ (tab_keep HT.out ((Below.refl _ _).alloc (Nat.le_refl _) _))).mono ?_
  rintro e w1 ⟨rfl, kk, os, hw⟩
  have HB := Lib.hid (show Below w.heap.size w w1 from by rw [hw]; exact ((Below.refl _ _).alloc (Nat.le_refl _) _).trans (Lib.below_grow w.heap.size _ (by simp) kk os))
  clear hw
  go_wp2
  go_ret
  exact ⟨rfl, HB.out⟩

set_option maxHeartbeats 2000000 in
set_option maxRecDepth 100000 in
theorem Text_pos (P : Nat → Prop) (g : Nat) (aa : Option Addr) (m ca n : Nat) (w : World) (hf : Far P w g false (.slice aa m ca) n) (ln : (ds 1000000000 n).length ≤ 1000) (hm : m ≤ 1000) (htab : Tab w) :
    Calls Tryz.prog 172 #[.agg #[.int .i64 0, .pointer (some ⟨g, 0, none⟩)]] w (StrPost (Lib.decDigits n) w) := by
  obtain ⟨i0, hi, hz0, hz1, hz2⟩ := info_parts info8
  have HI := Lib.hid hi
  have HZ0 := Lib.hid hz0
  have HZ1 := Lib.hid hz1
  have HZ2 := Lib.hid hz2
  have HF := Lib.hid hf
  have HT := Lib.hid htab
  obtain ⟨c0, c1⟩ := hf.cells
  have hg := hf.1
  clear hi hz0 hz1 hz2 hf htab
  go_enter Tryz.func172, Tryz.ntmps172
  go_wp2_with (refine wpList_make_own _ rfl (.const (.int .i64 0)) (.tmp 17) 128 rfl w.heap.size 5 i0 (.int .u8 0) 1 Tryz.underlying128 HI.out HZ0.out HZ1.out .i64 .i64 _ (9 * m + 1) rfl rfl (by omega) (by rw [HZ2.out]; omega) (by unfold maxLen; omega) (by simp) ?_; intro w1 hown hgrow; refine hold ?_)
  have hB := ((Below.refl (w.heap.size + 1) (w.alloc (.cells #[.int .i64 0, .pointer (some ⟨g, 0, none⟩)] 107)))).grown hgrow (by simp) (fun k hk => by simp at hk)
  have hBW := ((Below.refl w.heap.size w).alloc (Nat.le_refl _) (.cells #[.int .i64 0, .pointer (some ⟨g, 0, none⟩)] 107)).trans (hB.mono (by omega))
  have HBX := Lib.hid ((Bx.new w (.int .i64 0) (.pointer (some ⟨g, 0, none⟩)) 107).below hB (by omega))
  obtain ⟨q0, q1, q2, q3⟩ := HBX.out.cell
  have d0 : w1.cell? ⟨g, 0, none⟩ = some (.bool false) := (hBW.cell (p := ⟨g, 0, none⟩) hg).trans c0
  have d1 : w1.cell? ⟨g, 1, none⟩ = some (.slice aa m ca) := (hBW.cell (p := ⟨g, 1, none⟩) hg).trans c1
  have HB := Lib.hid hBW
  have HB1 := Lib.hid hB
  rw [World.size_alloc] at hown
  have HOWN : Hid (w1.ownsRow w.heap.size 5 1 (.slice (some ⟨w.heap.size + 1, 0, none⟩) 0 (9 * m + 1)) ([] : List UInt8).length (Lib.byteCells [])) := Lib.hid hown
  clear hown hgrow hB hBW
  refine go_on ?_
  go_wp2_with fail
  refine (appendTo_any [] _ _ n w w1 HF.out.2.2.2.2 ln HB.out HT.out HOWN.out (by simp)).mono ?_
  rintro e w2 ⟨v', rfl, h1, h2⟩
  rw [List.nil_append] at h1
  obtain ⟨a, c, rfl, hcv⟩ := bytes_back h1 (List.length_pos_iff.2 (dec_ne n))
  have H2 := Lib.hid h2
  clear h1 h2
  go_wp2
  go_ret
  exact ⟨rfl, HB.out.trans H2.out⟩

set_option maxHeartbeats 2000000 in
set_option maxRecDepth 100000 in
theorem Text_neg (P : Nat → Prop) (g : Nat) (aa : Option Addr) (m ca n : Nat) (w : World) (hf : Far P w g true (.slice aa m ca) n) (ln : (ds 1000000000 n).length ≤ 1000) (hm : m ≤ 1000) (htab : Tab w) :
    Calls Tryz.prog 172 #[.agg #[.int .i64 0, .pointer (some ⟨g, 0, none⟩)]] w (StrPost (45 :: Lib.decDigits n) w) := by
  obtain ⟨i0, hi, hz0, hz1, hz2⟩ := info_parts info8
  have HI := Lib.hid hi
  have HZ0 := Lib.hid hz0
  have HZ1 := Lib.hid hz1
  have HZ2 := Lib.hid hz2
  have HF := Lib.hid hf
  have HT := Lib.hid htab
  obtain ⟨c0, c1⟩ := hf.cells
  have hg := hf.1
  clear hi hz0 hz1 hz2 hf htab
  go_enter Tryz.func172, Tryz.ntmps172
  go_wp2_with (refine wpList_make_own _ rfl (.const (.int .i64 0)) (.tmp 17) 128 rfl w.heap.size 5 i0 (.int .u8 0) 1 Tryz.underlying128 HI.out HZ0.out HZ1.out .i64 .i64 _ (9 * m + 1) rfl rfl (by omega) (by rw [HZ2.out]; omega) (by unfold maxLen; omega) (by simp) ?_; intro w1 hown hgrow; refine hold ?_)
  have hB := ((Below.refl (w.heap.size + 1) (w.alloc (.cells #[.int .i64 0, .pointer (some ⟨g, 0, none⟩)] 107)))).grown hgrow (by simp) (fun k hk => by simp at hk)
  have hBW := ((Below.refl w.heap.size w).alloc (Nat.le_refl _) (.cells #[.int .i64 0, .pointer (some ⟨g, 0, none⟩)] 107)).trans (hB.mono (by omega))
  have HBX := Lib.hid ((Bx.new w (.int .i64 0) (.pointer (some ⟨g, 0, none⟩)) 107).below hB (by omega))
  obtain ⟨q0, q1, q2, q3⟩ := HBX.out.cell
  have d0 : w1.cell? ⟨g, 0, none⟩ = some (.bool true) := (hBW.cell (p := ⟨g, 0, none⟩) hg).trans c0
  have d1 : w1.cell? ⟨g, 1, none⟩ = some (.slice aa m ca) := (hBW.cell (p := ⟨g, 1, none⟩) hg).trans c1
  have HB := Lib.hid hBW
  have HB1 := Lib.hid hB
  rw [World.size_alloc] at hown
  have HOWN : Hid (w1.ownsRow w.heap.size 5 1 (.slice (some ⟨w.heap.size + 1, 0, none⟩) 0 (9 * m + 1)) ([] : List UInt8).length (Lib.byteCells [])) := Lib.hid hown
  clear hown hgrow hB hBW
  refine go_on ?_
  have hsz : w.heap.size ≤ w1.heap.size := HB.out.size
  go_wp2_with (at_builtin; refine wpList_append_own _ rfl _ _ 128 rfl w.heap.size 5 i0 (.int .u8 0) 1 1 Tryz.underlying128 HI.out HZ0.out HZ1.out HZ2.out rfl (by decide) _ _ _ rfl (HOWN.out.alloc _) ⟨w1.heap.size, 0, none⟩ 1 1 [.int .u8 45] rfl rfl ?c1 ?c2 ?c3 ?c4 ?c5 ?_)
  case c1 =>
    intro j u hj
    match j, hj with
    | 0, hj => simp at hj; subst hj; simp [Addr.add]
  case c2 => intro u hu; simp at hu; subst hu; rfl
  case c3 => unfold maxLen; simp
  case c4 => simp
  case c5 => simp; omega
  intro v3 w3 hown' hgrow _
  have H3 := Lib.hid hown'
  have HB3 := Lib.hid ((HB.out.alloc hsz _).grown hgrow (by simp; omega) (fun k hk => (HOWN.out.lt k hk).1))
  have hlt : w.heap.size < w1.heap.size := by have := HB1.out.size; rw [World.size_alloc] at this; omega
  have r1 : w3.cell? ⟨w.heap.size, 1, none⟩ = some (.pointer (some ⟨g, 0, none⟩)) := (World.cell?_of_block (hgrow.block w.heap.size (by simp; omega) (by simp [Value.ownBlock]))).trans ((World.cell?_alloc_past _ _ _ hlt).trans q1)
  have r2 : w3.cell? ⟨g, 1, none⟩ = some (.slice aa m ca) := (World.cell?_of_block (hgrow.block g (by simp; omega) (by simp [Value.ownBlock]; omega))).trans ((World.cell?_alloc_past _ _ _ (by omega)).trans d1)
  have H3' : Hid (w3.ownsRow w.heap.size 5 1 v3 ([45] : List UInt8).length (Lib.byteCells [45])) := H3
  clear hown' hgrow H3 c0 c1 d0 d1 q0 q1 q2 q3
  go_wp2_with fail
  refine (appendTo_any [45] _ _ n w w3 HF.out.2.2.2.2 ln HB3.out HT.out H3'.out (by simp)).mono ?_
  rintro e w2 ⟨v', rfl, h1, h2⟩
  have hpos : 0 < ([45] ++ Lib.decDigits n).length := by simp
  have HL : Hid ([45] ++ Lib.decDigits n = 45 :: Lib.decDigits n) := Lib.hid rfl
  generalize [45] ++ Lib.decDigits n = L at h1 hpos HL
  obtain ⟨a, c, rfl, hcv⟩ := bytes_back h1 hpos
  have H2 := Lib.hid h2
  clear h1 h2
  go_wp2
  go_ret
  exact ⟨by rw [← HL.out]; rfl, HB3.out.trans H2.out⟩

theorem Text_any (P : Nat → Prop) (x : Value) (z : Int) (w : World) (hx : IsInt P w x z) (ln : (ds 1000000000 z.natAbs).length ≤ 1000) (htab : Tab w) :
    Calls Tryz.prog 172 #[x] w (StrPost (Lib.itoa z) w) := by
  rcases hx with ⟨h1, rfl⟩ | ⟨h1, g, sv, rfl, h2⟩
  · exact Text_short z h1 w htab
  · obtain ⟨aa, c, rfl, _⟩ := id h2.2.2.2.2
    unfold Lib.itoa
    by_cases hz : z < 0
    · rw [if_pos hz]
      rw [show isNeg z = true from by simp [isNeg, hz]] at h2
      exact Text_neg P g aa _ c _ w h2 ln ln htab
    · rw [if_neg hz, show z.toNat = z.natAbs from by omega]
      rw [show isNeg z = false from by simp [isNeg, hz]] at h2
      exact Text_pos P g aa _ c _ w h2 ln ln htab

end Go.Proofs.YtmdppblhbmbakaaGreatDoor
set_option linter.unusedVariables false
set_option linter.unusedSimpArgs false
namespace Go.Proofs.YtmdppblhbmbakaaGreatDoor
open Go.RowKit _root_.Go.Proofs.YtmdppblhbmbakaaGreatDoor.Nm

/-- Two integers, or two zeros and false. -/
def BothPost (P : Nat → Prop) (s t : ByteArray) (w : World) (e : Ending) (w' : World) : Prop :=
  ∃ s1 p1 s2 p2, e = .returned (.tuple #[.agg #[.int .i64 s1, .pointer p1], .agg #[.int .i64 s2, .pointer p2], .bool (canon s.data.toList && canon t.data.toList)]) ∧
    ((canon s.data.toList && canon t.data.toList) = true → IsInt P w' (.agg #[.int .i64 s1, .pointer p1]) (zv s.data.toList) ∧ IsInt P w' (.agg #[.int .i64 s2, .pointer p2]) (zv t.data.toList)) ∧ Below w.heap.size w w'

theorem pair_kept {Q : Nat → Prop} (w1 : World) (g : Nat) (x0 x1 y0 y1 : Value) (hg : ¬ Q g) (hg1 : ¬ Q (g + 1)) : Kept Q w1 ((((w1.setCell ⟨g, 0, none⟩ x0).setCell ⟨g, 1, none⟩ x1).setCell ⟨g + 1, 0, none⟩ y0).setCell ⟨g + 1, 1, none⟩ y1) :=
  (((Kept.set w1 g 0 x0 hg).trans (.set _ g 1 x1 hg)).trans (.set _ (g + 1) 0 y0 hg1)).trans (.set _ (g + 1) 1 y1 hg1)

theorem pair_below (w1 : World) (g : Nat) (x0 x1 y0 y1 : Value) : Below g w1 ((((w1.setCell ⟨g, 0, none⟩ x0).setCell ⟨g, 1, none⟩ x1).setCell ⟨g + 1, 0, none⟩ y0).setCell ⟨g + 1, 1, none⟩ y1) :=
  ((((Only.refl g w1).set 0 x0).set 1 x1).below (Nat.le_refl _)).trans ((((Only.refl (g + 1) _).set 0 y0).set 1 y1).below (Nat.le_succ _))

/-- Two boxes stand behind w's end. -/
def St2 (w W : World) (x0 x1 y0 y1 : Value) : Prop := Below w.heap.size w W ∧ w.heap.size + 2 ≤ W.heap.size ∧ Bx W w.heap.size x0 x1 ∧ Bx W (w.heap.size + 1) y0 y1
theorem St2.start (w : World) (x0 x1 y0 y1 : Value) (T1 T2 : TypeId) : St2 w ((w.alloc (.cells #[x0, x1] T1)).alloc (.cells #[y0, y1] T2)) x0 x1 y0 y1 :=
  ⟨boxes2 _ _ _, by simp, (Bx.new w x0 x1 T1).alloc _, second_box w _ y0 y1 T2 ()⟩
theorem St2.next {w W W' : World} {x0 x1 y0 y1 : Value} {B : Nat} (h : St2 w W x0 x1 y0 y1) (hb : Below B W W') (hB : W.heap.size ≤ B) : St2 w W' x0 x1 y0 y1 := by
  obtain ⟨h1, h2, h3, h4⟩ := h
  exact ⟨h1.trans (hb.mono (by omega)), Nat.le_trans h2 hb.size, h3.below hb (by have := h3.lt; omega), h4.below hb (by have := h4.lt; omega)⟩
theorem St2.drew {w W : World} {x0 x1 y0 y1 : Value} (h : St2 w W x0 x1 y0 y1) : St2 w W.drew x0 x1 y0 y1 := ⟨h.1.drew, h.2.1, h.2.2.1.drew, h.2.2.2.drew⟩
theorem St2.cells {w W : World} {x0 x1 y0 y1 : Value} (h : St2 w W x0 x1 y0 y1) :
    W.cell? ⟨w.heap.size, 0, none⟩ = some x0 ∧ W.cell? ⟨w.heap.size, 1, none⟩ = some x1 ∧ W.cell? ⟨w.heap.size + 1, 0, none⟩ = some y0 ∧ W.cell? ⟨w.heap.size + 1, 1, none⟩ = some y1 ∧
    W.frozen? ⟨w.heap.size, 0, none⟩ = false ∧ W.frozen? ⟨w.heap.size, 1, none⟩ = false ∧ W.frozen? ⟨w.heap.size + 1, 0, none⟩ = false ∧ W.frozen? ⟨w.heap.size + 1, 1, none⟩ = false := by
  obtain ⟨_, _, h3, h4⟩ := h
  exact ⟨h3.cell.1, h3.cell.2.1, h4.cell.1, h4.cell.2.1, h3.cell.2.2.1, h3.cell.2.2.2, h4.cell.2.2.1, h4.cell.2.2.2⟩
/-- P, but not the two boxes. -/
def Bar2 (P : Nat → Prop) (w : World) (k : Nat) : Prop := P k ∧ (k < w.heap.size ∨ w.heap.size + 2 ≤ k)
theorem Bar2.new {P : Nat → Prop} {w : World} (hP : ∀ k, w.heap.size ≤ k → P k) (k : Nat) (hk : w.heap.size + 2 ≤ k) : Bar2 P w k := ⟨hP k (by omega), .inr hk⟩
theorem IsInt.bar2 {P : Nat → Prop} {w W : World} {v : Value} {z : Int} (h : IsInt P w v z) (hb : Below w.heap.size w W) : IsInt (Bar2 P w) W v z :=
  (h.mono (fun k hk hp => (⟨hp, .inl hk⟩ : Bar2 P w k))).kept (.all hb)

end Go.Proofs.YtmdppblhbmbakaaGreatDoor
set_option linter.unusedVariables false
set_option linter.unusedSimpArgs false
namespace Go.Proofs.YtmdppblhbmbakaaGreatDoor
open Go.RowKit _root_.Go.Proofs.YtmdppblhbmbakaaGreatDoor.Nm

/-- An integer of at most K digits. -/
def Ten (K : Nat) (z : Int) : Prop := ∃ k, k ≤ K ∧ z.natAbs < 10 ^ k

theorem Ten.mono {K L : Nat} {z : Int} (h : Ten K z) (hl : K ≤ L) : Ten L z := by
  obtain ⟨k, h1, h2⟩ := h
  exact ⟨k, Nat.le_trans h1 hl, h2⟩
theorem Ten.neg {K : Nat} {z : Int} (h : Ten K z) : Ten K (-z) := by
  obtain ⟨k, h1, h2⟩ := h
  exact ⟨k, h1, by rwa [Int.natAbs_neg]⟩
theorem Ten.mul {K L : Nat} {a b : Int} (h : Ten K a) (h' : Ten L b) : Ten (K + L) (a * b) := by
  obtain ⟨k, h1, h2⟩ := h
  obtain ⟨l, h3, h4⟩ := h'
  refine ⟨k + l, by omega, ?_⟩
  rw [Int.natAbs_mul, Nat.pow_add]
  exact Nat.mul_lt_mul'' h2 h4
theorem ten_up (k K n : Nat) (h : k ≤ K) (hn : n < 10 ^ k) : n < 10 ^ K := Nat.lt_of_lt_of_le hn (Nat.pow_le_pow_right (by omega) h)
theorem Ten.add {K : Nat} {a b : Int} (h : Ten K a) (h' : Ten K b) : Ten (K + 1) (a + b) := by
  obtain ⟨k, h1, h2⟩ := h
  obtain ⟨l, h3, h4⟩ := h'
  refine ⟨K + 1, by omega, ?_⟩
  have e1 := ten_up _ _ _ h1 h2
  have e2 := ten_up _ _ _ h3 h4
  have e3 := Int.natAbs_add_le a b
  rw [Nat.pow_succ]
  generalize 10 ^ K = X at *
  omega
theorem Ten.sub {K : Nat} {a b : Int} (h : Ten K a) (h' : Ten K b) : Ten (K + 1) (a - b) := by
  rw [Int.sub_eq_add_neg]; exact h.add h'.neg
theorem ds_ten (m k n : Nat) (h : n < 10 ^ k) (hk : k ≤ 9 * m) : (ds 1000000000 n).length ≤ m := by
  refine ds_length_le _ (by omega) n m (Nat.lt_of_lt_of_le h ?_)
  rw [show 1000000000 = 10 ^ 9 from rfl, ← Nat.pow_mul]
  exact Nat.pow_le_pow_right (by omega) hk
theorem Ten.ds {K : Nat} {z : Int} (h : Ten K z) (hK : K ≤ 9000) : (ds 1000000000 z.natAbs).length ≤ 1000 := by
  obtain ⟨k, h1, h2⟩ := h
  exact ds_ten 1000 k _ h2 (by omega)
theorem zv_ten (l : List UInt8) (h : canon l = true) : Ten 400 (zv l) := by
  by_cases h45 : l.head? = some 45
  · obtain ⟨r, rfl⟩ := cons_of_head l h45
    rw [canon_neg] at h
    simp only [Bool.and_eq_true, decide_eq_true_eq] at h
    have h1 := tv_lt r (canonN_parts h.1.1).1
    exact ⟨r.length, h.2, by rw [zv_neg, show (-(tv r : Int)).natAbs = tv r from by omega]; exact h1⟩
  · rw [canon_pos l h45] at h
    simp only [Bool.and_eq_true, decide_eq_true_eq] at h
    have h1 := tv_lt l (canonN_parts h.1).1
    exact ⟨l.length, h.2, by rw [zv_pos l h45, Int.natAbs_natCast]; exact h1⟩

/-- What an operation returns whose result is r. -/
def opVal (s t : ByteArray) (r : Int) : Value :=
  if (canon s.data.toList && canon t.data.toList) = true then (if canon (Lib.itoa r) = true then .tuple #[.string ⟨(Lib.itoa r).toArray⟩, .int .i64 0] else .tuple #[.string ⟨#[]⟩, .int .i64 5]) else .tuple #[.string ⟨#[]⟩, .int .i64 3]

/-- All blocks. -/
def Ev (k : Nat) : Prop := True
theorem Ev.all {w : World} (k : Nat) (hk : w.heap.size ≤ k) : Ev k := trivial

/-- The function f computes op of the integers of two texts. -/
def OpIs (f : Nat) (s t : ByteArray) (r : Int) : Prop :=
  ∀ (x y : Value) (w : World), IsInt Ev w x (zv s.data.toList) → IsInt Ev w y (zv t.data.toList) → Calls Tryz.prog f #[x, y] w (IntPost Ev r w)

end Go.Proofs.YtmdppblhbmbakaaGreatDoor
