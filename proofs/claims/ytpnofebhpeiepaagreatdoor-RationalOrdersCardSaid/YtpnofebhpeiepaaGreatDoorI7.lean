/- What Text does. -/
import Derived.Test.YtpnofebhpeiepaaGreatDoorV5
import Derived.Laws.IdiomStrings
set_option linter.unusedVariables false
set_option linter.unusedSimpArgs false
namespace Go.Proofs.YtpnofebhpeiepaaGreatDoor
open Go.RowKit _root_.Go.Proofs.YtpnofebhpeiepaaGreatDoor.Nm

theorem tab_from {w w' : World} (h : Tab w) (hb : Below w.heap.size w w') : TabFrom w.heap.size w' := fun w2 hb2 => Lib.tabBelow_of_tabIs h w2 (hb.trans hb2)

theorem tab_keep {w w' : World} (h : Tab w) (hb : Below w.heap.size w w') : Tab w' := (tab_from h hb).here

theorem appendTo_any (out : List UInt8) (nv sv : Value) (n : Nat) (w0 w : World) (hn : IsNat w0 nv n) (ln : (ds 1000000000 n).length ≤ 1000) (hb : Below w0.heap.size w0 w) (htab : Tab w0)
    (hown : w.ownsRow w0.heap.size 5 1 sv out.length (Lib.byteCells out)) (hl : out.length ≤ 1000) :
    Calls Tryz.prog 82 #[nv, sv] w (TxtPost w0.heap.size w (out ++ Lib.decDigits n)) := by
  rcases Rd.cases hn with ⟨h0, aa, ca, rfl, _⟩ | ⟨h0, g, off, ca, rfl, _, _, hg, hr⟩
  · have : n = 0 := (ds_eq_nil _ (by omega) n).1 h0
    subst this
    rw [show Lib.decDigits 0 = [48] from by decide +kernel]
    exact appendTo_zero _ out aa ca sv w hown hb.size (by omega)
  · have h := appendTo_pos w0.heap.size g off ca out (ds 1000000000 n) sv w hown hb.size hl h0 ln (ds_lt _ (by omega) n) (getLast_ne _ (by omega) n) (hr.keep hb hg) hg (tab_from htab hb)
    rwa [vl_ds _ (by omega)] at h

/-- The call returns this text. -/
def StrPost (l : List UInt8) (w : World) (e : Ending) (w' : World) : Prop := e = .returned (.string ⟨l.toArray⟩) ∧ Below w.heap.size w w'

theorem bytes_back {B : Nat} {w : World} {v : Value} {l : List UInt8} (h : w.ownsRow B 5 1 v l.length (Lib.byteCells l)) (h0 : 0 < l.length) :
    ∃ a c, v = .slice (some a) l.length c ∧ (convert 57 9 (.slice (some a) l.length c)).run Tryz.prog w = .ok (.string ⟨l.toArray⟩) w := by
  rcases h.2 with ⟨_, h2⟩ | ⟨g, cap, cur, rfl, _⟩
  · omega
  · refine ⟨⟨g, 0, none⟩, cap, rfl, run_convert_bytes_back w _ _ 5 _ _ l Tryz.underlying57 Tryz.underlying5 Tryz.underlying9 fun j hj => ?_⟩
    have hc := World.ownsRow.cells h (g := g) rfl j (.int .u8 (l[j].toNat : Int)) (by simp [Lib.byteCells, List.getElem?_eq_getElem hj])
    exact hc

set_option maxHeartbeats 2000000 in
set_option maxRecDepth 100000 in
theorem Text_short (z : Int) (hz : z.natAbs < 1000000000000000000) (w : World) (htab : Tab w) :
    Calls Tryz.prog 45 #[.agg #[.int .i64 z, .pointer none]] w (StrPost (Lib.itoa z) w) := by
  have h1 : -9223372036854775808 ≤ z := by omega
  have h2 : z ≤ 9223372036854775807 := by omega
  have HT := Lib.hid htab
  clear hz htab
  go_enter Tryz.func45, Tryz.ntmps45
  go_wp2_with fail
  refine (Tryz.strconv_FormatInt_10 z h1 h2 _ (tab_keep HT.out ((Below.refl _ _).alloc (Nat.le_refl _) _))).mono ?_
  rintro e w1 ⟨rfl, kk, os, hw⟩
  have HB := Lib.hid (show Below w.heap.size w w1 from by rw [hw]; exact ((Below.refl _ _).alloc (Nat.le_refl _) _).trans (Lib.below_grow w.heap.size _ (by simp) kk os))
  clear hw
  go_wp2
  go_ret
  exact ⟨rfl, HB.out⟩

set_option maxHeartbeats 2000000 in
set_option maxRecDepth 100000 in
theorem Text_pos (P : Nat → Prop) (g : Nat) (aa : Option Addr) (m ca n : Nat) (w : World) (hf : Far P w g false (.slice aa m ca) n) (ln : (ds 1000000000 n).length ≤ 1000) (hm : m ≤ 1000) (htab : Tab w) :
    Calls Tryz.prog 45 #[.agg #[.int .i64 0, .pointer (some ⟨g, 0, none⟩)]] w (StrPost (Lib.decDigits n) w) := by
  obtain ⟨i0, hi, hz0, hz1, hz2⟩ := info_parts info8
  have HI := Lib.hid hi
  have HZ0 := Lib.hid hz0
  have HZ1 := Lib.hid hz1
  have HZ2 := Lib.hid hz2
  have HF := Lib.hid hf
  have HT := Lib.hid htab
  obtain ⟨c0, c1⟩ := hf.cells
  have hg := hf.1
  clear hi hz0 hz1 hz2 hf htab
  go_enter Tryz.func45, Tryz.ntmps45
  go_wp2_with (refine wpList_make_own _ rfl (.const (.int .i64 0)) (.tmp 17) 57 rfl w.heap.size 5 i0 (.int .u8 0) 1 Tryz.underlying57 HI.out HZ0.out HZ1.out .i64 .i64 _ (9 * m + 1) rfl rfl (by omega) (by rw [HZ2.out]; omega) (by unfold maxLen; omega) (by simp) ?_; intro w1 hown hgrow; refine hold ?_)
  have hB := ((Below.refl (w.heap.size + 1) (w.alloc (.cells #[.int .i64 0, .pointer (some ⟨g, 0, none⟩)] 61)))).grown hgrow (by simp) (fun k hk => by simp at hk)
  have hBW := ((Below.refl w.heap.size w).alloc (Nat.le_refl _) (.cells #[.int .i64 0, .pointer (some ⟨g, 0, none⟩)] 61)).trans (hB.mono (by omega))
  have HBX := Lib.hid ((Bx.new w (.int .i64 0) (.pointer (some ⟨g, 0, none⟩)) 61).below hB (by omega))
  obtain ⟨q0, q1, q2, q3⟩ := HBX.out.cell
  have d0 : w1.cell? ⟨g, 0, none⟩ = some (.bool false) := (hBW.cell (p := ⟨g, 0, none⟩) hg).trans c0
  have d1 : w1.cell? ⟨g, 1, none⟩ = some (.slice aa m ca) := (hBW.cell (p := ⟨g, 1, none⟩) hg).trans c1
  have HB := Lib.hid hBW
  have HB1 := Lib.hid hB
  rw [World.size_alloc] at hown
  have HOWN : Hid (w1.ownsRow w.heap.size 5 1 (.slice (some ⟨w.heap.size + 1, 0, none⟩) 0 (9 * m + 1)) ([] : List UInt8).length (Lib.byteCells [])) := Lib.hid hown
  clear hown hgrow hB hBW
  refine go_on ?_
  go_wp2_with fail
  refine (appendTo_any [] _ _ n w w1 HF.out.2.2.2.2 ln HB.out HT.out HOWN.out (by simp)).mono ?_
  rintro e w2 ⟨v', rfl, h1, h2⟩
  rw [List.nil_append] at h1
  obtain ⟨a, c, rfl, hcv⟩ := bytes_back h1 (List.length_pos_iff.2 (dec_ne n))
  have H2 := Lib.hid h2
  clear h1 h2
  go_wp2
  go_ret
  exact ⟨rfl, HB.out.trans H2.out⟩

set_option maxHeartbeats 2000000 in
set_option maxRecDepth 100000 in
theorem Text_neg (P : Nat → Prop) (g : Nat) (aa : Option Addr) (m ca n : Nat) (w : World) (hf : Far P w g true (.slice aa m ca) n) (ln : (ds 1000000000 n).length ≤ 1000) (hm : m ≤ 1000) (htab : Tab w) :
    Calls Tryz.prog 45 #[.agg #[.int .i64 0, .pointer (some ⟨g, 0, none⟩)]] w (StrPost (45 :: Lib.decDigits n) w) := by
  obtain ⟨i0, hi, hz0, hz1, hz2⟩ := info_parts info8
  have HI := Lib.hid hi
  have HZ0 := Lib.hid hz0
  have HZ1 := Lib.hid hz1
  have HZ2 := Lib.hid hz2
  have HF := Lib.hid hf
  have HT := Lib.hid htab
  obtain ⟨c0, c1⟩ := hf.cells
  have hg := hf.1
  clear hi hz0 hz1 hz2 hf htab
  go_enter Tryz.func45, Tryz.ntmps45
  go_wp2_with (refine wpList_make_own _ rfl (.const (.int .i64 0)) (.tmp 17) 57 rfl w.heap.size 5 i0 (.int .u8 0) 1 Tryz.underlying57 HI.out HZ0.out HZ1.out .i64 .i64 _ (9 * m + 1) rfl rfl (by omega) (by rw [HZ2.out]; omega) (by unfold maxLen; omega) (by simp) ?_; intro w1 hown hgrow; refine hold ?_)
  have hB := ((Below.refl (w.heap.size + 1) (w.alloc (.cells #[.int .i64 0, .pointer (some ⟨g, 0, none⟩)] 61)))).grown hgrow (by simp) (fun k hk => by simp at hk)
  have hBW := ((Below.refl w.heap.size w).alloc (Nat.le_refl _) (.cells #[.int .i64 0, .pointer (some ⟨g, 0, none⟩)] 61)).trans (hB.mono (by omega))
  have HBX := Lib.hid ((Bx.new w (.int .i64 0) (.pointer (some ⟨g, 0, none⟩)) 61).below hB (by omega))
  obtain ⟨q0, q1, q2, q3⟩ := HBX.out.cell
  have d0 : w1.cell? ⟨g, 0, none⟩ = some (.bool true) := (hBW.cell (p := ⟨g, 0, none⟩) hg).trans c0
  have d1 : w1.cell? ⟨g, 1, none⟩ = some (.slice aa m ca) := (hBW.cell (p := ⟨g, 1, none⟩) hg).trans c1
  have HB := Lib.hid hBW
  have HB1 := Lib.hid hB
  rw [World.size_alloc] at hown
  have HOWN : Hid (w1.ownsRow w.heap.size 5 1 (.slice (some ⟨w.heap.size + 1, 0, none⟩) 0 (9 * m + 1)) ([] : List UInt8).length (Lib.byteCells [])) := Lib.hid hown
  clear hown hgrow hB hBW
  refine go_on ?_
  have hsz : w.heap.size ≤ w1.heap.size := HB.out.size
  go_wp2_with (at_builtin; refine wpList_append_own _ rfl _ _ 57 rfl w.heap.size 5 i0 (.int .u8 0) 1 1 Tryz.underlying57 HI.out HZ0.out HZ1.out HZ2.out rfl (by decide) _ _ _ rfl (HOWN.out.alloc _) ⟨w1.heap.size, 0, none⟩ 1 1 [.int .u8 45] rfl rfl ?c1 ?c2 ?c3 ?c4 ?c5 ?_)
  case c1 =>
    intro j u hj
    match j, hj with
    | 0, hj => simp at hj; subst hj; simp [Addr.add]
  case c2 => intro u hu; simp at hu; subst hu; rfl
  case c3 => unfold maxLen; simp
  case c4 => simp
  case c5 => simp; omega
  intro v3 w3 hown' hgrow _
  have H3 := Lib.hid hown'
  have HB3 := Lib.hid ((HB.out.alloc hsz _).grown hgrow (by simp; omega) (fun k hk => (HOWN.out.lt k hk).1))
  have hlt : w.heap.size < w1.heap.size := by have := HB1.out.size; rw [World.size_alloc] at this; omega
  have r1 : w3.cell? ⟨w.heap.size, 1, none⟩ = some (.pointer (some ⟨g, 0, none⟩)) := (World.cell?_of_block (hgrow.block w.heap.size (by simp; omega) (by simp [Value.ownBlock]))).trans ((World.cell?_alloc_past _ _ _ hlt).trans q1)
  have r2 : w3.cell? ⟨g, 1, none⟩ = some (.slice aa m ca) := (World.cell?_of_block (hgrow.block g (by simp; omega) (by simp [Value.ownBlock]; omega))).trans ((World.cell?_alloc_past _ _ _ (by omega)).trans d1)
  have H3' : Hid (w3.ownsRow w.heap.size 5 1 v3 ([45] : List UInt8).length (Lib.byteCells [45])) := H3
  clear hown' hgrow H3 c0 c1 d0 d1 q0 q1 q2 q3
  go_wp2_with fail
  refine (appendTo_any [45] _ _ n w w3 HF.out.2.2.2.2 ln HB3.out HT.out H3'.out (by simp)).mono ?_
  rintro e w2 ⟨v', rfl, h1, h2⟩
  have hpos : 0 < ([45] ++ Lib.decDigits n).length := by simp
  have HL : Hid ([45] ++ Lib.decDigits n = 45 :: Lib.decDigits n) := Lib.hid rfl
  generalize [45] ++ Lib.decDigits n = L at h1 hpos HL
  obtain ⟨a, c, rfl, hcv⟩ := bytes_back h1 hpos
  have H2 := Lib.hid h2
  clear h1 h2
  go_wp2
  go_ret
  exact ⟨by rw [← HL.out]; rfl, HB3.out.trans H2.out⟩

theorem Text_any (P : Nat → Prop) (x : Value) (z : Int) (w : World) (hx : IsInt P w x z) (ln : (ds 1000000000 z.natAbs).length ≤ 1000) (htab : Tab w) :
    Calls Tryz.prog 45 #[x] w (StrPost (Lib.itoa z) w) := by
  rcases hx with ⟨h1, rfl⟩ | ⟨h1, g, sv, rfl, h2⟩
  · exact Text_short z h1 w htab
  · obtain ⟨aa, c, rfl, _⟩ := id h2.2.2.2.2
    unfold Lib.itoa
    by_cases hz : z < 0
    · rw [if_pos hz]
      rw [show isNeg z = true from by simp [isNeg, hz]] at h2
      exact Text_neg P g aa _ c _ w h2 ln ln htab
    · rw [if_neg hz, show z.toNat = z.natAbs from by omega]
      rw [show isNeg z = false from by simp [isNeg, hz]] at h2
      exact Text_pos P g aa _ c _ w h2 ln ln htab

end Go.Proofs.YtpnofebhpeiepaaGreatDoor
