/- The law TokenNumbers. -/
import Derived.Test.YtpoddcegfhgdeaaDoorYL
set_option linter.unusedVariables false
set_option linter.unusedSimpArgs false
namespace Go.Proofs.YtpoddcegfhgdeaaDoor
open Go.RowKit

theorem ext_eq {s : ByteArray} {a b : Nat} {L : ByteArray} (h : Tk.ext s.data.toList a b = L.data.toList) : s.extract a b = L := by
  apply ByteArray.ext
  apply Array.toList_inj.1
  rw [ext_at]
  exact h
theorem ext_of_drop {l : List UInt8} {a k : Nat} {x y : List UInt8} (h : l.drop a = x ++ y) (hk : x.length = k) : Tk.ext l a (a + k) = x := by
  rw [Tk.ext_tw, h, ← hk, List.take_left]
theorem cat_data (a b : ByteArray) : (a ++ b).data.toList = a.data.toList ++ b.data.toList := by rw [ByteArray.data_append, Array.toList_append]

/-- What the law knows of its number's text. -/
structure NumS (S : ByteArray) (neg : Bool) (d : List UInt8) : Prop where
  num : Tk.Num S.data.toList neg d
  small : neg = true → d ≠ Lib.decDigits 9223372036854775808 → Tk.numOk d = true

theorem tx_num (S : ByteArray) (neg : Bool) (d : List UInt8) (g : Nat) (w : World) (her : Erg w) (h : NumS S neg d) (hL : StrRow w g [S]) :
    Calls Tryd.prog 19 #[.string S, .slice (some ⟨g, 0, none⟩) 1 1] w fun e w' => e = .returned (.bool true) ∧ Below w.heap.size w w' := by
  have hl := h.num.len
  refine texts_true S g 1 [S] _ _ w her (by rw [Lib.size_eq]; omega) (Lib.hid (Tk.scan_num h.num)) hL (Lib.hid rfl) (by decide) (Lib.hid rfl) (Lib.hid ?_)
  intro j h1 h2
  match j, h2 with
  | 0, _ => exact ext_eq (by
      have := ext_of_drop (a := 0) (k := S.data.toList.length) (y := []) (show S.data.toList.drop 0 = S.data.toList ++ [] by rw [List.append_nil]; rfl) rfl
      rw [Nat.zero_add] at this
      exact this)
  | j + 1, h2 => exact absurd h2 (by simp)

theorem tx_paren (S F : ByteArray) (neg : Bool) (d : List UInt8) (g : Nat) (w : World) (her : Erg w) (h : NumS S neg d) (hF : F.data.toList = 102 :: 40 :: (S.data.toList ++ [41])) (hL : StrRow w g [⟨#[102]⟩, ⟨#[40]⟩, S, ⟨#[41]⟩]) :
    Calls Tryd.prog 19 #[.string F, .slice (some ⟨g, 0, none⟩) 4 4] w fun e w' => e = .returned (.bool true) ∧ Below w.heap.size w w' := by
  have hl := h.num.len
  have hl2 : S.size ≤ 30 := by rw [Lib.size_eq]; exact hl
  have d2 : F.data.toList.drop 2 = S.data.toList ++ [41] := by rw [hF]; rfl
  have d3 : F.data.toList.drop (2 + S.data.toList.length) = [41] ++ [] := by rw [← List.drop_drop, d2, List.drop_left]; rfl
  refine texts_true F g 4 _ _ _ w her (by rw [Lib.size_eq, hF]; simp; omega) (Lib.hid (by rw [hF]; exact Tk.scan_paren h.num)) hL (Lib.hid rfl) (by decide) (Lib.hid rfl) (Lib.hid ?_)
  intro j h1 h2
  match j, h2 with
  | 0, _ => exact ext_eq (by show Tk.ext _ 0 1 = _; rw [hF]; rfl)
  | 1, _ => exact ext_eq (by show Tk.ext _ 1 2 = _; rw [hF]; rfl)
  | 2, _ => exact ext_eq (ext_of_drop d2 rfl)
  | 3, _ => exact ext_eq (by
      show Tk.ext _ (2 + S.data.toList.length) (3 + S.data.toList.length) = _
      have := ext_of_drop d3 (k := 1) rfl
      rw [show 2 + S.data.toList.length + 1 = 3 + S.data.toList.length by omega] at this
      exact this)
  | j + 4, h2 => exact absurd h2 (by simp)

theorem tx_name (S F : ByteArray) (d : List UInt8) (g : Nat) (w : World) (her : Erg w) (h : NumS S false d) (hF : F.data.toList = 102 :: 32 :: S.data.toList) (hL : StrRow w g [⟨#[102]⟩, S]) :
    Calls Tryd.prog 19 #[.string F, .slice (some ⟨g, 0, none⟩) 2 2] w fun e w' => e = .returned (.bool true) ∧ Below w.heap.size w w' := by
  have hl := h.num.len
  have hd : S.data.toList = d := by have := h.num.eq; rwa [if_neg (by decide)] at this
  have d2 : F.data.toList.drop 2 = d ++ [] := by rw [hF, hd, List.append_nil]; rfl
  have hok := h.num.ok
  rw [hd] at hl hok
  refine texts_true F g 2 _ _ _ w her (by rw [Lib.size_eq, hF, hd]; simp; omega) (Lib.hid (by rw [hF, hd]; exact Tk.scan_name h.num.ne h.num.dig hok hl)) hL (Lib.hid rfl) (by decide) (Lib.hid rfl) (Lib.hid ?_)
  intro j h1 h2
  match j, h2 with
  | 0, _ => exact ext_eq (by show Tk.ext _ 0 1 = _; rw [hF]; rfl)
  | 1, _ => exact ext_eq ((ext_of_drop d2 rfl).trans hd.symm)
  | j + 2, h2 => exact absurd h2 (by simp)

theorem tx_minus (S F T : ByteArray) (d : List UInt8) (g : Nat) (w : World) (her : Erg w) (h : NumS S true d) (hm : d ≠ Lib.decDigits 9223372036854775808) (hF : F.data.toList = 102 :: 32 :: S.data.toList) (hT : T.data.toList = d) (hL : StrRow w g [⟨#[102]⟩, ⟨#[45]⟩, T]) :
    Calls Tryd.prog 19 #[.string F, .slice (some ⟨g, 0, none⟩) 3 3] w fun e w' => e = .returned (.bool true) ∧ Below w.heap.size w w' := by
  have hl := h.num.len
  have hd : S.data.toList = 45 :: d := by have := h.num.eq; rwa [if_pos rfl] at this
  rw [hd] at hl
  have hl2 : d.length ≤ 30 := by simp at hl; omega
  have d3 : F.data.toList.drop 3 = d ++ [] := by rw [hF, hd, List.append_nil]; rfl
  refine texts_true F g 3 _ _ _ w her (by rw [Lib.size_eq, hF, hd]; simp; omega) (Lib.hid (by rw [hF, hd]; exact Tk.scan_minus h.num.ne h.num.dig (h.small rfl hm) hl2)) hL (Lib.hid rfl) (by decide) (Lib.hid rfl) (Lib.hid ?_)
  intro j h1 h2
  match j, h2 with
  | 0, _ => exact ext_eq (by show Tk.ext _ 0 1 = _; rw [hF]; rfl)
  | 1, _ => exact ext_eq (by show Tk.ext _ 2 3 = _; rw [hF, hd]; rfl)
  | 2, _ => exact ext_eq ((ext_of_drop d3 rfl).trans hT.symm)
  | j + 3, h2 => exact absurd h2 (by simp)

theorem min_digits : Lib.decDigits 9223372036854775808 = [57, 50, 50, 51, 51, 55, 50, 48, 51, 54, 56, 53, 52, 55, 55, 53, 56, 48, 56] ++ [] := by
  simp [Lib.decDigits]
theorem scan_min (l : List UInt8) (h : l = 102 :: 32 :: 45 :: Lib.decDigits 9223372036854775808) : Tk.scanF l = .inl (3, 2) := by
  rw [h, min_digits]
  decide +kernel
/-- Digits tell their number. -/
theorem digits_inj (a b : Nat) (h : Lib.decDigits a = Lib.decDigits b) : a = b := by
  have h1 := Tk.dgs_val a
  have h2 := Tk.dgs_val b
  unfold Tk.dgs at h1 h2
  rw [h, h2] at h1
  exact h1.symm

theorem nums_of (n : Int) (S : ByteArray) (h0 : -9223372036854775808 ≤ n) (h1 : n ≤ 9223372036854775807) (hS : S = ⟨(Lib.itoa n).toArray⟩) : NumS S (decide (n < 0)) (Tk.dgs n.natAbs) := by
  refine ⟨by rw [hS]; exact Tk.num_of n h0 h1, fun hn hne => ?_⟩
  have hn2 : n < 0 := of_decide_eq_true hn
  have h2 : n.natAbs ≠ 9223372036854775808 := fun e => hne (by rw [e]; rfl)
  exact Tk.numOk_pos _ (by omega)

set_option maxRecDepth 100000 in
set_option maxHeartbeats 25600000 in
theorem law_TokenNumbers (n : Int) (hn : -9223372036854775808 ≤ n ∧ n ≤ 9223372036854775807) (w : World) (her : Erg w) : Calls Tryd.prog 9 #[.int .i64 n] w fun e w' => e = .returned (.bool true) ∧ Below w.heap.size w w' := by
  have hge : 2 < w.heap.size := by obtain ⟨_, _, _, h⟩ := her; exact h
  have HER := Lib.hid her
  obtain ⟨S, hS⟩ : ∃ S : ByteArray, S = ⟨(Lib.itoa n).toArray⟩ := ⟨_, rfl⟩
  have hnum := nums_of n S hn.1 hn.2 hS
  have hSs : S.size ≤ 30 := by rw [Lib.size_eq]; exact hnum.num.len
  obtain ⟨F1, hF1⟩ : ∃ F, (⟨#[102, 40]⟩ : ByteArray) ++ S = F := ⟨_, rfl⟩
  obtain ⟨F2, hF2⟩ : ∃ F, F1 ++ (⟨#[41]⟩ : ByteArray) = F := ⟨_, rfl⟩
  obtain ⟨F3, hF3⟩ : ∃ F, (⟨#[102, 32]⟩ : ByteArray) ++ S = F := ⟨_, rfl⟩
  have s2 : (⟨#[102, 40]⟩ : ByteArray).size = 2 := rfl
  have hF1s : F1.size ≤ 32 := by rw [← hF1, ByteArray.size_append]; omega
  have k1 : ∀ W : World, (Op.stringOp .add ⟨#[102, 40]⟩ S).run Tryd.prog W = .ok (.string F1) W := fun W => by rw [← hF1]; exact run_string_add W _ _ (by decide) (by omega)
  have k2 : ∀ W : World, (Op.stringOp .add F1 ⟨#[41]⟩).run Tryd.prog W = .ok (.string F2) W := fun W => by rw [← hF2]; exact run_string_add W _ _ (by omega) (by decide)
  have k3 : ∀ W : World, (Op.stringOp .add ⟨#[102, 32]⟩ S).run Tryd.prog W = .ok (.string F3) W := fun W => by rw [← hF3]; exact run_string_add W _ _ (by decide) (by omega)
  have HF2 : Hid (F2.data.toList = 102 :: 40 :: (S.data.toList ++ [41])) := Lib.hid (by rw [← hF2, cat_data, ← hF1, cat_data]; rfl)
  have HF3 : Hid (F3.data.toList = 102 :: 32 :: S.data.toList) := Lib.hid (by rw [← hF3, cat_data]; rfl)
  have HF3s : Hid (F3.size ≤ 40) := Lib.hid (by rw [← hF3, ByteArray.size_append]; have : (⟨#[102, 32]⟩ : ByteArray).size = 2 := rfl; omega)
  have HS := Lib.hid hS
  have hn0 := hn.1
  have hn1 := hn.2
  clear hS her hF1 hF2 hF3 s2 hn hSs hF1s
  have HNUM := Lib.hid hnum
  clear hnum
  go_enter Tryd.func9, Tryd.ntmps9
  go_wp2_with fail
  refine (awake_any _ HER.out hge).mono ?_
  rintro e w1 ⟨rfl, hb⟩
  have HW1 := Lib.hid hb
  clear hb
  go_wp2_with fail
  refine (decimal_any n S _ hn0 hn1 HS).mono ?_
  rintro e w2 ⟨rfl, hb⟩
  have HW2 := Lib.hid (HW1.out.trans (hb.mono HW1.out.size))
  clear hb
  go_wp2_with fail
  have hA3 := (Below.refl w2.heap.size w2).alloc (Nat.le_refl _) (.cells ([S].map Value.string).toArray 9)
  have HX3 := Lib.hid (HW2.out.trans (hA3.mono HW2.out.size))
  have HL3 := Lib.hid (StrRow.new w2 [S] 9)
  clear hA3
  refine (tx_num S _ _ _ _ (HER.out.keep hge HX3.out) HNUM.out HL3.out).mono ?_
  rintro e w3 ⟨rfl, hb⟩
  have HW3 := Lib.hid (HX3.out.trans (hb.mono HX3.out.size))
  clear hb
  go_wp2_with fail
  have hA4 := (Below.refl w3.heap.size w3).alloc (Nat.le_refl _) (.cells ([⟨#[102]⟩, ⟨#[40]⟩, S, ⟨#[41]⟩].map Value.string).toArray 9)
  have HX4 := Lib.hid (HW3.out.trans (hA4.mono HW3.out.size))
  have HL4 := Lib.hid (StrRow.new w3 [⟨#[102]⟩, ⟨#[40]⟩, S, ⟨#[41]⟩] 9)
  clear hA4
  refine (tx_paren S F2 _ _ _ _ (HER.out.keep hge HX4.out) HNUM.out HF2.out HL4.out).mono ?_
  rintro e w4 ⟨rfl, hb⟩
  have HW4 := Lib.hid (HX4.out.trans (hb.mono HX4.out.size))
  clear hb
  by_cases hneg : n < 0
  · have HNN : Hid (NumS S true (Tk.dgs n.natAbs)) := Lib.hid (by have := HNUM.out; rwa [decide_eq_true hneg] at this)
    have HSD : Hid (S.data.toList = 45 :: Tk.dgs n.natAbs) := Lib.hid (by have := HNN.out.num.eq; rwa [if_pos rfl] at this)
    by_cases hmin : n.natAbs = 9223372036854775808
    · have HF : Hid (Tk.scanF F3.data.toList = .inl (3, 2)) := Lib.hid (scan_min _ (by rw [HF3.out, HSD.out, hmin]; rfl))
      obtain rfl : n = -9223372036854775808 := by omega
      clear hn0 hn1 hneg hmin
      go_wp2_with fail
      refine (Scan_bad F3 3 2 3 2 _ (HER.out.keep hge HW4.out) (by have := HF3s.out; omega) HF rfl rfl).mono ?_
      rintro e w5 ⟨rfl, hb⟩
      have HW5 := Lib.hid (HW4.out.trans (hb.mono HW4.out.size))
      clear hb
      go_wp2
      go_ret
      exact ⟨rfl, HW5.out⟩
    · have hmm : (n == -9223372036854775808) = false := by
        rw [beq_eq_false_iff_ne]
        intro e
        exact hmin (by omega)
      have HNE : Hid (Tk.dgs n.natAbs ≠ Lib.decDigits 9223372036854775808) := Lib.hid (fun e => hmin (digits_inj _ _ e))
      have hl := HNN.out.num.len
      rw [HSD.out] at hl
      have hl2 : (Tk.dgs n.natAbs).length ≤ 30 := by rw [List.length_cons] at hl; omega
      have hsc := Tk.scan_minus HNN.out.num.ne HNN.out.num.dig (HNN.out.small rfl HNE.out) hl2
      rw [← HSD.out, ← HF3.out] at hsc
      have HSC := Lib.hid hsc
      clear hl hl2 hsc
      have hS1 : (1 : Int) ≤ S.size := by
        have := HNN.out.num.pos
        rw [← Lib.size_eq] at this; omega
      obtain ⟨T, hT⟩ : ∃ T, S.extract 1 S.size = T := ⟨_, rfl⟩
      have HTD : Hid (T.data.toList = Tk.dgs n.natAbs) := Lib.hid (by
        rw [← hT, drop_ext S 1 (by omega), HSD.out]; rfl)
      clear hmin
      go_wp2_with fail
      refine (Scan_good F3 _ _ _ (HER.out.keep hge HW4.out) (by have := HF3s.out; omega) HSC).mono ?_
      rintro e w5 ⟨ta, tc, na, nc, rfl, _, hb⟩
      have HW5 := Lib.hid (HW4.out.trans (hb.mono HW4.out.size))
      clear hb
      go_wp2_with fail
      have hA5 := (Below.refl w5.heap.size w5).alloc (Nat.le_refl _) (.cells ([⟨#[102]⟩, ⟨#[45]⟩, T].map Value.string).toArray 9)
      have HX5 := Lib.hid (HW5.out.trans (hA5.mono HW5.out.size))
      have HL5 := Lib.hid (StrRow.new w5 [⟨#[102]⟩, ⟨#[45]⟩, T] 9)
      clear hA5
      refine (tx_minus S F3 T _ _ _ (HER.out.keep hge HX5.out) HNN.out HNE.out HF3.out HTD.out HL5.out).mono ?_
      rintro e w6 ⟨rfl, hb⟩
      have HW6 := Lib.hid (HX5.out.trans (hb.mono HX5.out.size))
      clear hb
      go_wp2
      go_ret
      exact ⟨rfl, HW6.out⟩
  · have HNN : Hid (NumS S false (Tk.dgs n.natAbs)) := Lib.hid (by have := HNUM.out; rwa [decide_eq_false hneg] at this)
    go_wp2_with fail
    have hA5 := (Below.refl w4.heap.size w4).alloc (Nat.le_refl _) (.cells ([⟨#[102]⟩, S].map Value.string).toArray 9)
    have HX5 := Lib.hid (HW4.out.trans (hA5.mono HW4.out.size))
    have HL5 := Lib.hid (StrRow.new w4 [⟨#[102]⟩, S] 9)
    clear hA5
    refine (tx_name S F3 _ _ _ (HER.out.keep hge HX5.out) HNN.out HF3.out HL5.out).mono ?_
    rintro e w5 ⟨rfl, hb⟩
    have HW5 := Lib.hid (HX5.out.trans (hb.mono HX5.out.size))
    clear hb
    go_wp2
    go_ret
    exact ⟨rfl, HW5.out⟩

end Go.Proofs.YtpoddcegfhgdeaaDoor
