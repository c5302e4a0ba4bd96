/- What appendTo and text do. -/
import Derived.Test.YtmdppblhbmbakaaGreatDoorI6
import Derived.Lib.AppendStr
import Derived.Lib.AppendIntMem
import Derived.Lib.SmallJoins
import Derived.Lib.ItoaLen
set_option linter.unusedVariables false
set_option linter.unusedSimpArgs false
namespace Go.Proofs.YtmdppblhbmbakaaGreatDoor
open Go.RowKit _root_.Go.Proofs.YtmdppblhbmbakaaGreatDoor.Nm

abbrev Tab (w : World) : Prop := Lib.TabIs Tryz.prog w "internal/strconv.uint64pow10" .u64 Lib.pow10Tab
abbrev TabFrom (B : Nat) (w : World) : Prop := Lib.TabBelow Tryz.prog B w "internal/strconv.uint64pow10" .u64 Lib.pow10Tab

/-- The call returns a slice of its own with these bytes. -/
def TxtPost (B : Nat) (w : World) (out : List UInt8) (e : Ending) (w' : World) : Prop :=
  ∃ v', e = .returned v' ∧ w'.ownsRow B 5 1 v' out.length (Lib.byteCells out) ∧ Below B w w'

theorem byteCells_append (x y : List UInt8) : Lib.byteCells (x ++ y) = Lib.byteCells x ++ Lib.byteCells y := by simp [Lib.byteCells]

theorem info8 : (Tryz.prog.info? 5).map (fun i => (i.zero, i.size, i.bytes)) = some (some (.int .u8 0), 1, 1) := by kernel_rfl

theorem AppendUint_any (B : Nat) (out : List UInt8) (u : Nat) (hu : u < 18446744073709551616) (sv : Value) (w : World) (hown : w.ownsRow B 5 1 sv out.length (Lib.byteCells out)) (hB : B ≤ w.heap.size) (hl : out.length ≤ 100000) (htab : Tab w) :
    Calls Tryz.prog 226 #[sv, .int .u64 u, .int .i64 10] w (TxtPost B w (out ++ Lib.decDigits u)) := by
  have h := Tryz.internal_strconv_AppendUint_10 B out.length u hu sv _ w hown hB (by omega) htab
  have H := Lib.hid h
  clear h hown htab
  go_enter Tryz.func226, Tryz.ntmps226
  go_wp2_with fail
  refine H.out.mono ?_
  rintro e w1 ⟨v', rfl, h1, h2, _⟩
  have H1 := Lib.hid h1
  have H2 := Lib.hid h2
  clear h1 h2
  go_wp2
  go_ret
  exact ⟨v', rfl, by rw [List.length_append, byteCells_append]; exact H1.out, H2.out⟩

set_option maxHeartbeats 2000000 in
set_option maxRecDepth 100000 in
theorem appendTo_zero (B : Nat) (out : List UInt8) (aa : Option Addr) (ca : Nat) (sv : Value) (w : World) (hown : w.ownsRow B 5 1 sv out.length (Lib.byteCells out)) (hB : B ≤ w.heap.size) (hl : out.length ≤ 100000) :
    Calls Tryz.prog 203 #[.slice aa 0 ca, sv] w (TxtPost B w (out ++ [48])) := by
  obtain ⟨i0, hi, hz0, hz1, hz2⟩ := info_parts info8
  go_enter Tryz.func203, Tryz.ntmps203
  go_wp2_with (at_builtin; refine wpList_append_own _ rfl _ _ 128 rfl B 5 i0 (.int .u8 0) 1 1 Tryz.underlying128 hi hz0 hz1 hz2 rfl (by decide) _ _ _ rfl (hown.alloc _) ⟨w.heap.size, 0, none⟩ 1 1 [.int .u8 48] rfl rfl ?c1 ?c2 ?c3 ?c4 ?c5 ?_)
  case c1 =>
    intro j u hj
    match j, hj with
    | 0, hj => simp at hj; subst hj; simp [Addr.add]
  case c2 => intro u hu; simp at hu; subst hu; rfl
  case c3 => unfold maxLen; omega
  case c4 => omega
  case c5 => simp; omega
  intro v' w2 hown' hgrow _
  have H1 := Lib.hid hown'
  have H2 := Lib.hid (((Below.refl B w).alloc hB _).grown hgrow (by simp; omega) (fun k hk => (hown.lt k hk).1))
  clear hown' hgrow
  go_wp2
  go_ret
  exact ⟨v', rfl, by rw [List.length_append, byteCells_append]; exact H1.out, H2.out⟩

theorem dec_step (x m : Nat) (hx : x < 1000000000) (hm : 0 < m) (out : List UInt8) : out ++ Lib.decDigits m ++ (Lib.decDigits (1000000000 + x)).drop 1 = out ++ Lib.decDigits (x + 1000000000 * m) := by
  rw [pad_nine x hx, dec_limb m x hm hx, List.append_assoc]

theorem itoa_base (x : Nat) : Lib.itoa ((1000000000 : Int) + x) = Lib.decDigits (1000000000 + x) := by
  rw [Lib.itoa, if_neg (by omega), show ((1000000000 : Int) + x).toNat = 1000000000 + x from by omega]

set_option maxHeartbeats 2000000 in
set_option maxRecDepth 100000 in
theorem appendTo_pos (B g off ca : Nat) (out : List UInt8) (xs : List Nat) (sv : Value) (w : World) (hown : w.ownsRow B 5 1 sv out.length (Lib.byteCells out)) (hB : B ≤ w.heap.size) (hl : out.length ≤ 1000)
    (h0 : 0 < xs.length) (hxl : xs.length ≤ 1000) (hx : ∀ x ∈ xs, x < 1000000000) (hlast : xs.getLast? ≠ some 0) (hr : Row .u32 w g off xs) (hg : g < B) (htab : TabFrom B w) :
    Calls Tryz.prog 203 #[.slice (some ⟨g, off, none⟩) xs.length ca, sv] w (TxtPost B w (out ++ Lib.decDigits (vl 1000000000 xs))) := by
  obtain ⟨i0, hi, hz0, hz1, hz2⟩ := info_parts info8
  have HI := Lib.hid hi
  have HZ0 := Lib.hid hz0
  have HZ1 := Lib.hid hz1
  have HZ2 := Lib.hid hz2
  have HX := Lib.hid hx
  have HR := Lib.hid hr
  have HT := Lib.hid htab
  have HOWN := Lib.hid hown
  obtain ⟨top, htop⟩ : ∃ top, xs.length = top + 1 := ⟨xs.length - 1, by omega⟩
  have htl : top < xs.length := by omega
  have hx1 := hx _ (List.getElem_mem htl)
  have hc1 : w.cell? ⟨g, off + top, none⟩ = some (.int .u32 (xs[top] : Nat)) := hr top htl
  have hpos : 0 < xs[top] := by
    have : xs.getLast? = some xs[top] := by rw [List.getLast?_eq_getElem?, htop, Nat.add_sub_cancel, List.getElem?_eq_getElem htl]
    rw [this] at hlast
    have : xs[top] ≠ 0 := fun h => hlast (by rw [h])
    omega
  have HD0 : Hid (xs.drop top = [xs[top]]) := Lib.hid (by
    rw [List.drop_eq_getElem_cons htl, List.drop_of_length_le (by omega)])
  have hz : ((xs.length : Int) == 0) = false := by rw [beq_eq_false_iff_ne]; omega
  have htop2 : (xs.length : Int) - 1 = top := by omega
  have htl2 : (top : Int) < xs.length := by omega
  clear hi hz0 hz1 hz2 hx hr htab hown hlast
  go_enter Tryz.func203, Tryz.ntmps203
  go_wp2_with fail
  refine (AppendUint_any B out xs[top] (by omega) _ _ HOWN.out hB (by omega) HT.out.here).mono ?_
  rintro e w1 ⟨v1, rfl, h1, h2⟩
  have H1 := Lib.hid h1
  have H2 := Lib.hid h2
  clear h1 h2
  go_wp2
  go_loopw [1, 24] (fun tv j wr => ∃ (k : Nat) (O : List UInt8), k ≤ top ∧ j = .int .i64 k ∧ O.length ≤ 1020 + 9 * k ∧ Hid (O = out ++ Lib.decDigits (vl 1000000000 (xs.drop (top - k)))) ∧ Hid (0 < vl 1000000000 (xs.drop (top - k))) ∧
      Hid (wr.ownsRow B 5 1 tv O.length (Lib.byteCells O)) ∧ Hid (Below B w wr)) (fun _ j _ => top - (intOf j).toNat)
  case atStart =>
    have hv1 : vl 1000000000 [xs[top]] = xs[top] := by simp [vl]
    exact ⟨0, out ++ Lib.decDigits xs[top], by omega, rfl, by have := Lib.nDigits_le20 xs[top] (by omega); rw [← Lib.decDigits_length] at this; rw [List.length_append]; omega, Lib.hid (by rw [Nat.sub_zero, HD0.out, hv1]), Lib.hid (by rw [Nat.sub_zero, HD0.out, hv1]; exact hpos), H1, H2⟩
  case round =>
    obtain ⟨k, O, hk, rfl, hOl, HOE, HVP, HO, HB⟩ := hrel
    by_cases hlt : k < top
    · have hlt' : (k : Int) < top := by omega
      obtain ⟨p, hp⟩ : ∃ p : Nat, p = top - 1 - k := ⟨_, rfl⟩
      have hpl : p < xs.length := by omega
      have hpl' : (p : Int) < xs.length := by omega
      have hpe : (top : Int) - 1 - k = p := by omega
      have HP := Lib.hid (show top - k = p + 1 by omega)
      have HP2 := Lib.hid (show top - (k + 1) = p by omega)
      clear hp
      have hx2 := HX.out _ (List.getElem_mem hpl)
      have hc2 : wr.cell? ⟨g, off + p, none⟩ = some (.int .u32 (xs[p] : Nat)) := (HB.out.cell (p := ⟨g, off + p, none⟩) hg).trans (HR.out p hpl)
      rw [HP.out] at HOE HVP
      have HDP : Hid (vl 1000000000 (xs.drop p) = xs[p] + 1000000000 * vl 1000000000 (xs.drop (p + 1))) := Lib.hid (by rw [List.drop_eq_getElem_cons hpl]; rfl)
      have HS : Hid (O ++ (Lib.decDigits (1000000000 + xs[p])).drop 1 = out ++ Lib.decDigits (vl 1000000000 (xs.drop (top - (k + 1))))) := Lib.hid (by
        rw [HOE.out, HP2.out, HDP.out]; exact dec_step xs[p] _ hx2 HVP.out out)
      have HVP' : Hid (0 < vl 1000000000 (xs.drop (top - (k + 1)))) := Lib.hid (by rw [HP2.out, HDP.out]; have := HVP.out; omega)
      have h9 : ((Lib.decDigits (1000000000 + xs[p])).drop 1).length = 9 := by rw [pad_nine _ hx2, pad_length]
      have hsz : (⟨(Lib.itoa ((1000000000 : Int) + xs[p])).toArray⟩ : ByteArray) = ⟨(Lib.decDigits (1000000000 + xs[p])).toArray⟩ := by rw [itoa_base]
      obtain ⟨s, hs⟩ : ∃ s : ByteArray, s = ⟨(Lib.decDigits (1000000000 + xs[p])).toArray⟩ := ⟨_, rfl⟩
      have hs1 : s.data.toList = Lib.decDigits (1000000000 + xs[p]) := by rw [hs]
      have hs2 : 1 ≤ s.size := by rw [← len_size, hs1]; exact List.length_pos_iff.2 (dec_ne _)
      have hs3 : (1 : Int) ≤ s.size := by omega
      have hs4 : (s.extract 1 s.size).data.toList = (Lib.decDigits (1000000000 + xs[p])).drop 1 := by
        rw [Lib.extract_data, hs1, ← len_size, hs1]
        exact List.take_of_length_le (by rw [List.length_drop]; exact Nat.le_refl _)
      rw [← hs] at hsz
      have HS1 := Lib.hid hsz
      have HS4 := Lib.hid hs4
      clear hs hs1 hsz hs4
      go_wp2_with fail
      refine (Tryz.strconv_Itoa _ (by omega) (by omega) _ (HT.out _ HB.out)).mono ?_
      rintro e w2 ⟨rfl, kk, os, hw2⟩
      rw [HS1.out]
      have hsx : (s.extract 1 s.size).size = 9 := by rw [← len_size, HS4.out]; exact h9
      have HO2 : Hid (w2.ownsRow B 5 1 u1 O.length (Lib.byteCells O)) := Lib.hid (by rw [hw2]; exact Lib.ownsRow_grow HO.out kk os)
      have HB2 := Lib.hid (show Below B w w2 from by rw [hw2]; exact HB.out.trans (Lib.below_grow B wr (by have := HB.out.size; omega) kk os))
      have hw2s : B ≤ w2.heap.size := by have := HB2.out.size; omega
      clear hw2
      go_wp2_with (at_builtin; refine Lib.wpList_append_own_string _ rfl _ _ 128 9 rfl B 5 i0 Tryz.underlying128 Tryz.underlying9 HI.out HZ0.out HZ1.out HZ2.out _ _ _ rfl HO2.out (s.extract 1 s.size) rfl ?c3 ?c4 ?c5 ?_)
      case c3 => rw [hsx]; unfold maxLen; omega
      case c4 => rw [hsx]; omega
      case c5 => exact hw2s
      intro v' w3 hown' hgrow _
      have HN : Hid (w3.ownsRow B 5 1 v' (O ++ (Lib.decDigits (1000000000 + xs[p])).drop 1).length (Lib.byteCells (O ++ (Lib.decDigits (1000000000 + xs[p])).drop 1))) := Lib.hid (by
        rw [List.length_append, byteCells_append, h9, ← HS4.out]; exact hown')
      have HB3 := Lib.hid (HB2.out.grown hgrow hw2s (fun k hk => (HO2.out.lt k hk).1))
      have hOl' : (O ++ (Lib.decDigits (1000000000 + xs[p])).drop 1).length ≤ 1020 + 9 * (k + 1) := by rw [List.length_append, h9]; omega
      clear hown' hgrow
      go_wp2
      go_roundw
      case rel => exact ⟨k + 1, _, by omega, by go_num, hOl', HS, HVP', HN, HB3⟩
      case measure => simp [intOf]; omega
    · have hke : k = top := by omega
      have HOE' : Hid (O = out ++ Lib.decDigits (vl 1000000000 xs)) := Lib.hid (by have := HOE.out; rwa [hke, Nat.sub_self, List.drop_zero] at this)
      have hge : ¬ (k : Int) < top := by omega
      clear hke
      go_wp2
      go_ret
      exact ⟨_, rfl, by rw [← HOE'.out]; exact HO.out, HB.out⟩

end Go.Proofs.YtmdppblhbmbakaaGreatDoor
