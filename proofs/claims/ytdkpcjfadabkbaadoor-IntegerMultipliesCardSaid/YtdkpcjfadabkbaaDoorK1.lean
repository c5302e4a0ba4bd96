/- The law IntegerSmalls. -/
import Derived.Test.YtdkpcjfadabkbaaDoorJ9
import Derived.Test.YtdkpcjfadabkbaaDoorV11
import Derived.Deep.Cut
import Derived.Deep.CutRange
import Derived.Deep.DeepCutAuto
set_option linter.unusedVariables false
set_option linter.unusedSimpArgs false
namespace Go.Proofs.YtdkpcjfadabkbaaDoor
open Go.RowKit _root_.Go.Proofs.YtdkpcjfadabkbaaDoor.Nm

/-- An integer of int64. -/
def I64 (z : Int) : Prop := -9223372036854775808 ≤ z ∧ z ≤ 9223372036854775807

theorem I64.ten {z : Int} (h : I64 z) : Ten 20 z := by
  obtain ⟨h1, h2⟩ := h
  exact ⟨19, by omega, by
    have : z.natAbs ≤ 9223372036854775808 := by omega
    exact Nat.lt_of_le_of_lt this (by decide)⟩
theorem I64.str {z : Int} (h : I64 z) : ∃ s, IsStr s z := str_ex h.ten (by omega)

theorem Of_to (z : Int) (s : ByteArray) (h : Hid (I64 z)) (hs : Hid (IsStr s z)) (w : World) (htab : Tab w) :
    Calls Tryd.prog 21 #[.int .i64 z] w fun e w' => e = .returned (.string s) ∧ Below w.heap.size w w' := by
  have := Of_any z h.out.1 h.out.2 w htab
  rwa [← hs.out.text] at this

/-- The variable ErrRange holds an interface value. -/
def Erg (w : World) : Prop := ∃ ev, w.cell? ⟨2, 0, none⟩ = some ev ∧ (ev = .nilIface ∨ ∃ te pe, ev = .iface te pe) ∧ 2 < w.heap.size

theorem Erg.keep {w w' : World} (h : Erg w) (hb : Below w.heap.size w w') : Erg w' := by
  obtain ⟨ev, h1, h2, h3⟩ := h
  exact ⟨ev, (hb.cell (p := ⟨2, 0, none⟩) h3).trans h1, h2, Nat.lt_of_lt_of_le h3 hb.size⟩

/-- What Small returns. -/
def smallVal (z : Int) (f : Bool) : Value := if f = true then .tuple #[.int .i64 z, .bool true] else .tuple #[.int .i64 0, .bool false]

theorem Small_in (s : ByteArray) (z : Int) (h : Hid (I64 z)) (hs : Hid (IsStr s z)) (w : World) :
    Calls Tryd.prog 22 #[.string s] w fun e w' => e = .returned (.tuple #[.int .i64 z, .bool true]) ∧ Below w.heap.size w w' := by
  have := Small_ok s hs.out.1 (by rw [hs.out.2]; exact h.out) w
  rwa [hs.out.2] at this

theorem Small_out (s : ByteArray) (z : Int) (h : Hid (¬ I64 z)) (hs : Hid (IsStr s z)) (w : World) (he : Erg w) :
    Calls Tryd.prog 22 #[.string s] w fun e w' => e = .returned (.tuple #[.int .i64 0, .bool false]) ∧ Below w.heap.size w w' := by
  obtain ⟨ev, h1, h2, _⟩ := he
  exact Small_range s hs.out.1 (by rw [hs.out.2]; exact h.out) ev w h1 h2

theorem Cmp_lt (s t : ByteArray) (x y : Int) (hs : Hid (IsStr s x)) (ht : Hid (IsStr t y)) (h : x < y) (w : World) :
    Calls Tryd.prog 18 #[.string s, .string t] w fun e w' => e = .returned (.int .i64 (-1)) ∧ Below w.heap.size w w' :=
  Cmp_to s t x y (-1) hs ht (Lib.hid (by unfold sgn2; rw [if_pos h])) w
theorem Cmp_gt (s t : ByteArray) (x y : Int) (hs : Hid (IsStr s x)) (ht : Hid (IsStr t y)) (h : y < x) (w : World) :
    Calls Tryd.prog 18 #[.string s, .string t] w fun e w' => e = .returned (.int .i64 1) ∧ Below w.heap.size w w' :=
  Cmp_to s t x y 1 hs ht (Lib.hid (by unfold sgn2; rw [if_neg (by omega), if_pos h])) w
theorem Cmp_eq (s t : ByteArray) (x y : Int) (hs : Hid (IsStr s x)) (ht : Hid (IsStr t y)) (h : x = y) (w : World) :
    Calls Tryd.prog 18 #[.string s, .string t] w fun e w' => e = .returned (.int .i64 0) ∧ Below w.heap.size w w' :=
  Cmp_to s t x y 0 hs ht (Lib.hid (by unfold sgn2; rw [if_neg (by omega), if_neg (by omega)])) w

/-- The quotient and the remainder as the law reckons them. -/
theorem dv_adjust (a b : Int) (hb : b ≠ 0) : Dv a b (if a.tmod b ≠ 0 ∧ ¬ (a.tmod b < 0 ↔ b < 0) then a.tdiv b - 1 else a.tdiv b) (if a.tmod b ≠ 0 ∧ ¬ (a.tmod b < 0 ↔ b < 0) then a.tmod b + b else a.tmod b) := by
  have h := tv_tdiv a b hb
  generalize a.tdiv b = u at *
  generalize a.tmod b = v at *
  by_cases k : v ≠ 0 ∧ ¬ (v < 0 ↔ b < 0)
  · rw [if_pos k, if_pos k]
    refine h.down ?_
    rw [beq_iff_eq]; unfold sg
    obtain ⟨k1, k2⟩ := k
    by_cases k3 : v < 0 <;> by_cases k4 : b < 0 <;> simp [k3, k4] at k2 ⊢ <;> (try omega)
  · rw [if_neg k, if_neg k]
    refine h.stay ?_
    rw [beq_eq_false_iff_ne]; unfold sg
    by_cases k3 : v < 0 <;> by_cases k4 : b < 0 <;> by_cases k5 : 0 < v <;> by_cases k6 : 0 < b <;> simp [k3, k4, k5, k6] at k ⊢ <;> (try omega)

theorem tdiv_i64 (a b : Int) (ha : I64 a) (hb : b ≠ 0) (h : ¬ (a = -9223372036854775808 ∧ b = -1)) : I64 (a.tdiv b) ∧ I64 (a.tmod b) := by
  have h1 := tv_tdiv a b hb
  have h2 := h1.size
  obtain ⟨h3, h4, h5⟩ := h1
  have e1 := Int.natAbs_tmod a b
  have e2 := Nat.mod_le a.natAbs b.natAbs
  have e3 : (a.tdiv b).natAbs = a.natAbs / b.natAbs := Int.natAbs_tdiv a b
  obtain ⟨g1, g2⟩ := ha
  refine ⟨?_, by unfold I64; omega⟩
  by_cases k : b.natAbs = 1
  · rw [k, Nat.div_one] at e3
    by_cases k1 : b = 1
    · rw [k1, Int.tdiv_one]; exact ⟨g1, g2⟩
    · have k2 : b = -1 := by omega
      unfold I64; omega
  · have e4 : a.natAbs / b.natAbs ≤ a.natAbs / 2 := Nat.div_le_div_left (by omega) (by omega)
    rw [← e3] at e4
    unfold I64; omega

theorem adj_ways {q r U V b : Int} (hu : q = if V ≠ 0 ∧ ¬ (V < 0 ↔ b < 0) then U - 1 else U) (hv : r = if V ≠ 0 ∧ ¬ (V < 0 ↔ b < 0) then V + b else V) :
    ((V != 0) = false ∧ (V == 0) = true ∧ q = U ∧ r = V) ∨ ((V != 0) = true ∧ (V == 0) = false ∧ V < 0 ∧ b < 0 ∧ q = U ∧ r = V) ∨ ((V != 0) = true ∧ (V == 0) = false ∧ ¬ V < 0 ∧ ¬ b < 0 ∧ q = U ∧ r = V) ∨
    ((V != 0) = true ∧ (V == 0) = false ∧ V < 0 ∧ ¬ b < 0 ∧ q = U - 1 ∧ r = V + b) ∨ ((V != 0) = true ∧ (V == 0) = false ∧ ¬ V < 0 ∧ b < 0 ∧ q = U - 1 ∧ r = V + b) := by
  by_cases h : V = 0
  · rw [if_neg (by omega)] at hu hv
    exact .inl ⟨by simp [h], by simp [h], hu, hv⟩
  · have e1 : (V != 0) = true := by simp [h]
    have e2 : (V == 0) = false := by simp [h]
    by_cases h1 : V < 0 <;> by_cases h2 : b < 0
    · rw [if_neg (by omega)] at hu hv; exact .inr (.inl ⟨e1, e2, h1, h2, hu, hv⟩)
    · rw [if_pos (by omega)] at hu hv; exact .inr (.inr (.inr (.inl ⟨e1, e2, h1, h2, hu, hv⟩)))
    · rw [if_pos (by omega)] at hu hv; exact .inr (.inr (.inr (.inr ⟨e1, e2, h1, h2, hu, hv⟩)))
    · rw [if_neg (by omega)] at hu hv; exact .inr (.inr (.inl ⟨e1, e2, h1, h2, hu, hv⟩))

set_option maxRecDepth 100000 in
set_option maxHeartbeats 6400000 in
theorem law_IntegerSmalls (a b : Int) (ha : -9223372036854775808 ≤ a ∧ a ≤ 9223372036854775807) (hb : -9223372036854775808 ≤ b ∧ b ≤ 9223372036854775807) (w : World) (htab : Tab w) (herg : Erg w) :
    Calls Tryd.prog 7 #[.int .i64 a, .int .i64 b] w fun e w' => e = .returned (.bool true) ∧ Below w.heap.size w w' := by
  have hia : I64 a := ha
  have hib : I64 b := hb
  have HT := Lib.hid htab
  have HE := Lib.hid herg
  obtain ⟨s, hs⟩ := hia.str
  obtain ⟨t, ht⟩ := hib.str
  obtain ⟨u, hu⟩ := str_ex (Ten.add hia.ten hib.ten) (by omega)
  have HS := Lib.hid hs
  have HTT := Lib.hid ht
  have HU := Lib.hid hu
  have HIA := Lib.hid hia
  have HIB := Lib.hid hib
  clear hs ht hu hia hib htab herg
  obtain ⟨ha1, ha2⟩ := ha
  obtain ⟨hb1, hb2⟩ := hb
  go_enter Tryd.func7, Tryd.ntmps7
  go_wp2_with fail
  refine (awake_any _ HT.out).mono ?_
  rintro e w0 ⟨rfl, hb0⟩
  have HW0 := Lib.hid hb0
  clear hb0
  go_wp2_with fail
  refine (Of_to a s HIA HS _ (tab_keep HT.out HW0.out)).mono ?_
  rintro e w1 ⟨rfl, hb0⟩
  have HW1 := Lib.hid (HW0.out.trans (hb0.mono HW0.out.size))
  clear hb0
  go_wp2_with fail
  refine (Of_to b t HIB HTT _ (tab_keep HT.out HW1.out)).mono ?_
  rintro e w2 ⟨rfl, hb0⟩
  have HW2 := Lib.hid (HW1.out.trans (hb0.mono HW1.out.size))
  clear hb0
  go_wp2_with fail
  refine (Small_in s a HIA HS _).mono ?_
  rintro e w3 ⟨rfl, hb0⟩
  have HW3 := Lib.hid (HW2.out.trans (hb0.mono HW2.out.size))
  clear hb0
  go_upto_if 40 with fail
  go_cut [9] (fun s9 wx => s9 = .int .i64 (if a < b then -1 else 0) ∧ wx = w3)
  case first =>
    by_cases hab : a < b
    · go_wp2_with fail
      go_meet
      case rel => exact ⟨by rw [if_pos hab], rfl⟩
    · go_wp2_with fail
      go_meet
      case rel => exact ⟨by rw [if_neg (by omega)], rfl⟩
  case rest =>
    obtain ⟨rfl, rfl⟩ := hcut
    go_upto_if 43 with fail
    go_cut [9] (fun s9 wx => s9 = .int .i64 (sgn2 a b) ∧ wx = wc)
    case first =>
      by_cases hab : a < b
      · have hba : ¬ b < a := by omega
        rw [if_pos hab]
        go_wp2_with fail
        go_meet
        case rel => exact ⟨by unfold sgn2; rw [if_pos (by omega)], rfl⟩
      · rw [if_neg hab]
        by_cases hba : b < a
        · go_wp2_with fail
          go_meet
          case rel => exact ⟨by unfold sgn2; rw [if_neg (by omega), if_pos (by omega)], rfl⟩
        · go_wp2_with fail
          go_meet
          case rel => exact ⟨by unfold sgn2; rw [if_neg (by omega), if_neg (by omega)], rfl⟩
    case rest =>
    obtain ⟨rfl, rfl⟩ := hcut
    go_wp2_with fail
    refine (Cmp_to s t a b (sgn2 a b) HS HTT (Lib.hid rfl) _).mono ?_
    rintro e w4 ⟨rfl, hb0⟩
    have HW4 := Lib.hid (HW3.out.trans (hb0.mono HW3.out.size))
    clear hb0
    go_wp2_with fail
    refine (Add_to s t u a b (a + b) HS HTT HU rfl _ (tab_keep HT.out HW4.out)).mono ?_
    rintro e w5 ⟨rfl, hb0⟩
    have HW5 := Lib.hid (HW4.out.trans (hb0.mono HW4.out.size))
    clear hb0
    by_cases hov : I64 (a + b)
    · have HOV := Lib.hid hov
      clear hov
      go_wp2_with fail
      refine (Small_in u (a + b) HOV HU _).mono ?_
      rintro e w6 ⟨rfl, hb0⟩
      have HW6 := Lib.hid (HW5.out.trans (hb0.mono HW5.out.size))
      clear hb0
      go_upto_region 16 with fail
      go_cut [14] (fun v wx => v = .bool false ∧ wx = w6)
      case first =>
        rcases (show (0 < a ∧ ¬ 9223372036854775807 - a < b ∧ ¬ a < 0) ∨ (a < 0 ∧ ¬ 0 < a ∧ ¬ b < -9223372036854775808 - a) ∨ (¬ 0 < a ∧ ¬ a < 0) from by have := HOV.out; unfold I64 at this; omega) with ⟨h1, h2, h3⟩ | ⟨h1, h2, h3⟩ | ⟨h1, h2⟩
        all_goals (go_wp2_with fail; go_meet; case rel => exact ⟨rfl, rfl⟩)
      case rest =>
        obtain ⟨rfl, rfl⟩ := hcut
        have hsum : IntKind.i64.wrap (a + b) = a + b := IntWalk.i64_in _ (by have := HOV.out; unfold I64 at this; omega)
        by_cases hb0 : b = 0
        · have hbz : (b == 0) = true := by simp [hb0]
          clear hb0
          go_wp2
          go_ret
          exact ⟨rfl, HW6.out⟩
        · have hbz : (b == 0) = false := by simp [hb0]
          by_cases hm : a = -9223372036854775808 ∧ b = -1
          · have h1 : (a == -9223372036854775808) = true := by simp [hm.1]
            have h2 : (b == -1) = true := by simp [hm.2]
            clear hm hb0
            go_wp2
            go_ret
            exact ⟨rfl, HW6.out⟩
          · have HDV := Lib.hid (dv_adjust a b hb0)
            have HI := Lib.hid (tdiv_i64 a b HIA.out hb0 hm)
            have hbn := Lib.hid hb0
            go_upto_region 19 with fail
            go_cut [104] (fun v wx => v = .bool false ∧ wx = wc)
            case first =>
              by_cases h1 : a = -9223372036854775808
              · have h2 : (a == -9223372036854775808) = true := by simp [h1]
                have h3 : (b == -1) = false := by rw [beq_eq_false_iff_ne]; exact fun h => hm ⟨h1, h⟩
                clear h1 hm hb0
                go_wp2_with fail
                go_meet
                case rel => exact ⟨rfl, rfl⟩
              · have h2 : (a == -9223372036854775808) = false := by simp [h1]
                clear h1 hm hb0
                go_wp2_with fail
                go_meet
                case rel => exact ⟨rfl, rfl⟩
            case rest =>
            obtain ⟨rfl, rfl⟩ := hcut
            clear hm hb0
            go_wp2_with fail
            refine (DivMod_to s t a b 20 (by omega) HS HTT HIA.out.ten HIB.out.ten hbn.out _ (tab_keep HT.out HW6.out)).mono ?_
            rintro e w7 ⟨q, r, Q, R, hd, hQ, hR, tq, tr, rfl, hb0⟩
            have HW7 := Lib.hid (HW6.out.trans (hb0.mono HW6.out.size))
            obtain ⟨hu1, hv1⟩ := hd.unique HDV.out
            obtain ⟨U, hU⟩ : ∃ U, a.tdiv b = U := ⟨_, rfl⟩
            obtain ⟨V, hV⟩ : ∃ V, a.tmod b = V := ⟨_, rfl⟩
            have hi := HI.out
            rw [hU, hV] at hi hu1
            rw [hV] at hv1
            have hq : IntKind.i64.wrap (a.tdiv b) = U := by rw [hU]; exact IntWalk.i64_in _ (by have := hi.1; unfold I64 at this; omega)
            have hr : IntKind.i64.wrap (a.tmod b) = V := by rw [hV]; exact IntWalk.i64_in _ (by have := hi.2; unfold I64 at this; omega)
            have HIQ := Lib.hid (show I64 q ∧ I64 r by
              have k1 := hd.qsize
              have k2 := hd.size
              have k3 := hi.1; have k4 := hi.2
              unfold I64 at k3 k4 ⊢
              split at hu1 <;> rw [hu1] at k1 ⊢ <;> refine ⟨by omega, by omega⟩)
            have HQ := Lib.hid hQ
            have HR := Lib.hid hR
            have HU1 := Lib.hid hu1
            have HV1 := Lib.hid hv1
            have HI2 := Lib.hid hi
            have HVV := Lib.hid hV
            clear hb0 hd hQ hR tq tr hu1 hv1 hU hV hi hr
            go_wp2_with fail
            have hb0 := hbn.out
            go_region
            rw [HVV.out]
            clear hq hb0 HVV
            have hiq := HIQ.out
            have i1 := hiq.1.1; have i2 := hiq.1.2; have i3 := hiq.2.1; have i4 := hiq.2.2
            have j1 := HI2.out.1.1; have j2 := HI2.out.1.2; have j3 := HI2.out.2.1; have j4 := HI2.out.2.2
            clear hiq
            rcases adj_ways HU1.out HV1.out with ⟨h1, h2, hu, hv⟩ | ⟨h1, h2, h3, h4, hu, hv⟩ | ⟨h1, h2, h3, h4, hu, hv⟩ | ⟨h1, h2, h3, h4, hu, hv⟩ | ⟨h1, h2, h3, h4, hu, hv⟩
            · have HU2 := Lib.hid hu
              have HV2 : Hid (r = 0) := Lib.hid (by rw [hv]; exact eq_of_beq h2)
              have X1 : Hid (I64 U) := Lib.hid (by have := HIQ.out.1; rwa [HU2.out] at this)
              have X2 : Hid (IsStr Q U) := Lib.hid (by have := HQ.out; rwa [HU2.out] at this)
              have X3 : Hid (I64 0) := Lib.hid (by have := HIQ.out.2; rwa [HV2.out] at this)
              have X4 : Hid (IsStr R 0) := Lib.hid (by have := HR.out; rwa [HV2.out] at this)
              obtain rfl : V = 0 := eq_of_beq h2
              clear hu hv h1 h2 HU1 HV1 HIQ HI2
              go_wp2_with fail
              refine (Of_to U Q X1 X2 _ (tab_keep HT.out HW7.out.drew)).mono ?_
              rintro e w8 ⟨rfl, hb0⟩
              have HW8 := Lib.hid (HW7.out.drew.trans (hb0.mono HW7.out.size))
              clear hb0
              go_wp2_with fail
              refine (Of_to 0 R X3 X4 _ (tab_keep HT.out HW8.out)).mono ?_
              rintro e w9 ⟨rfl, hb0⟩
              have HW9 := Lib.hid (HW8.out.trans (hb0.mono HW8.out.size))
              clear hb0
              go_wp2
              go_ret
              exact ⟨rfl, HW9.out⟩
            · have HU2 := Lib.hid hu
              have HV2 := Lib.hid hv
              have X1 : Hid (I64 U) := Lib.hid (by have := HIQ.out.1; rwa [HU2.out] at this)
              have X2 : Hid (IsStr Q U) := Lib.hid (by have := HQ.out; rwa [HU2.out] at this)
              have X3 : Hid (I64 V) := Lib.hid (by have := HIQ.out.2; rwa [HV2.out] at this)
              have X4 : Hid (IsStr R V) := Lib.hid (by have := HR.out; rwa [HV2.out] at this)
              have h5 : ¬ V = 0 := by simpa using h2
              clear hu hv HU1 HV1 HIQ HI2
              go_wp2_with fail
              refine (Of_to U Q X1 X2 _ (tab_keep HT.out HW7.out.drew)).mono ?_
              rintro e w8 ⟨rfl, hb0⟩
              have HW8 := Lib.hid (HW7.out.drew.trans (hb0.mono HW7.out.size))
              clear hb0
              go_wp2_with fail
              refine (Of_to V R X3 X4 _ (tab_keep HT.out HW8.out)).mono ?_
              rintro e w9 ⟨rfl, hb0⟩
              have HW9 := Lib.hid (HW8.out.trans (hb0.mono HW8.out.size))
              clear hb0
              go_wp2
              go_ret
              exact ⟨rfl, HW9.out⟩
            · have HU2 := Lib.hid hu
              have HV2 := Lib.hid hv
              have X1 : Hid (I64 U) := Lib.hid (by have := HIQ.out.1; rwa [HU2.out] at this)
              have X2 : Hid (IsStr Q U) := Lib.hid (by have := HQ.out; rwa [HU2.out] at this)
              have X3 : Hid (I64 V) := Lib.hid (by have := HIQ.out.2; rwa [HV2.out] at this)
              have X4 : Hid (IsStr R V) := Lib.hid (by have := HR.out; rwa [HV2.out] at this)
              have h5 : ¬ V = 0 := by simpa using h2
              clear hu hv HU1 HV1 HIQ HI2
              go_wp2_with fail
              refine (Of_to U Q X1 X2 _ (tab_keep HT.out HW7.out.drew)).mono ?_
              rintro e w8 ⟨rfl, hb0⟩
              have HW8 := Lib.hid (HW7.out.drew.trans (hb0.mono HW7.out.size))
              clear hb0
              go_wp2_with fail
              refine (Of_to V R X3 X4 _ (tab_keep HT.out HW8.out)).mono ?_
              rintro e w9 ⟨rfl, hb0⟩
              have HW9 := Lib.hid (HW8.out.trans (hb0.mono HW8.out.size))
              clear hb0
              go_wp2
              go_ret
              exact ⟨rfl, HW9.out⟩
            · have HU2 := Lib.hid hu
              have HV2 := Lib.hid hv
              have hq1 : IntKind.i64.wrap (U - 1) = U - 1 := IntWalk.i64_in _ (by have := HIQ.out.1; rw [hu] at this; unfold I64 at this; omega)
              have hr1 : IntKind.i64.wrap (V + b) = V + b := IntWalk.i64_in _ (by have := HIQ.out.2; rw [hv] at this; unfold I64 at this; omega)
              have X1 : Hid (I64 (U - 1)) := Lib.hid (by have := HIQ.out.1; rwa [HU2.out] at this)
              have X2 : Hid (IsStr Q (U - 1)) := Lib.hid (by have := HQ.out; rwa [HU2.out] at this)
              have X3 : Hid (I64 (V + b)) := Lib.hid (by have := HIQ.out.2; rwa [HV2.out] at this)
              have X4 : Hid (IsStr R (V + b)) := Lib.hid (by have := HR.out; rwa [HV2.out] at this)
              have h5 : ¬ V = 0 := by simpa using h2
              clear hu hv HU1 HV1 HIQ HI2
              go_wp2_with fail
              refine (Of_to (U - 1) Q X1 X2 _ (tab_keep HT.out HW7.out.drew)).mono ?_
              rintro e w8 ⟨rfl, hb0⟩
              have HW8 := Lib.hid (HW7.out.drew.trans (hb0.mono HW7.out.size))
              clear hb0
              go_wp2_with fail
              refine (Of_to (V + b) R X3 X4 _ (tab_keep HT.out HW8.out)).mono ?_
              rintro e w9 ⟨rfl, hb0⟩
              have HW9 := Lib.hid (HW8.out.trans (hb0.mono HW8.out.size))
              clear hb0
              go_wp2
              go_ret
              exact ⟨rfl, HW9.out⟩
            · have HU2 := Lib.hid hu
              have HV2 := Lib.hid hv
              have hq1 : IntKind.i64.wrap (U - 1) = U - 1 := IntWalk.i64_in _ (by have := HIQ.out.1; rw [hu] at this; unfold I64 at this; omega)
              have hr1 : IntKind.i64.wrap (V + b) = V + b := IntWalk.i64_in _ (by have := HIQ.out.2; rw [hv] at this; unfold I64 at this; omega)
              have X1 : Hid (I64 (U - 1)) := Lib.hid (by have := HIQ.out.1; rwa [HU2.out] at this)
              have X2 : Hid (IsStr Q (U - 1)) := Lib.hid (by have := HQ.out; rwa [HU2.out] at this)
              have X3 : Hid (I64 (V + b)) := Lib.hid (by have := HIQ.out.2; rwa [HV2.out] at this)
              have X4 : Hid (IsStr R (V + b)) := Lib.hid (by have := HR.out; rwa [HV2.out] at this)
              have h5 : ¬ V = 0 := by simpa using h2
              clear hu hv HU1 HV1 HIQ HI2
              go_wp2_with fail
              refine (Of_to (U - 1) Q X1 X2 _ (tab_keep HT.out HW7.out.drew)).mono ?_
              rintro e w8 ⟨rfl, hb0⟩
              have HW8 := Lib.hid (HW7.out.drew.trans (hb0.mono HW7.out.size))
              clear hb0
              go_wp2_with fail
              refine (Of_to (V + b) R X3 X4 _ (tab_keep HT.out HW8.out)).mono ?_
              rintro e w9 ⟨rfl, hb0⟩
              have HW9 := Lib.hid (HW8.out.trans (hb0.mono HW8.out.size))
              clear hb0
              go_wp2
              go_ret
              exact ⟨rfl, HW9.out⟩
    · have HOV := Lib.hid hov
      clear hov
      go_wp2_with fail
      refine (Small_out u (a + b) HOV HU _ (HE.out.keep HW5.out)).mono ?_
      rintro e w6 ⟨rfl, hb0⟩
      have HW6 := Lib.hid (HW5.out.trans (hb0.mono HW5.out.size))
      clear hb0
      go_upto_region 16 with fail
      go_cut [14] (fun v wx => v = .bool true ∧ wx = w6)
      case first =>
        rcases (show (0 < a ∧ 9223372036854775807 - a < b) ∨ (a < 0 ∧ ¬ 0 < a ∧ b < -9223372036854775808 - a) from by have := HOV.out; unfold I64 at this; omega) with ⟨h1, h2⟩ | ⟨h1, h2, h3⟩
        all_goals (go_wp2_with fail; go_meet; case rel => exact ⟨rfl, rfl⟩)
      case rest =>
        obtain ⟨rfl, rfl⟩ := hcut
        by_cases hb0 : b = 0
        · have hbz : (b == 0) = true := by simp [hb0]
          clear hb0
          go_wp2
          go_ret
          exact ⟨rfl, HW6.out⟩
        · have hbz : (b == 0) = false := by simp [hb0]
          by_cases hm : a = -9223372036854775808 ∧ b = -1
          · have h1 : (a == -9223372036854775808) = true := by simp [hm.1]
            have h2 : (b == -1) = true := by simp [hm.2]
            clear hm hb0
            go_wp2
            go_ret
            exact ⟨rfl, HW6.out⟩
          · have HDV := Lib.hid (dv_adjust a b hb0)
            have HI := Lib.hid (tdiv_i64 a b HIA.out hb0 hm)
            have hbn := Lib.hid hb0
            go_upto_region 19 with fail
            go_cut [104] (fun v wx => v = .bool false ∧ wx = wc)
            case first =>
              by_cases h1 : a = -9223372036854775808
              · have h2 : (a == -9223372036854775808) = true := by simp [h1]
                have h3 : (b == -1) = false := by rw [beq_eq_false_iff_ne]; exact fun h => hm ⟨h1, h⟩
                clear h1 hm hb0
                go_wp2_with fail
                go_meet
                case rel => exact ⟨rfl, rfl⟩
              · have h2 : (a == -9223372036854775808) = false := by simp [h1]
                clear h1 hm hb0
                go_wp2_with fail
                go_meet
                case rel => exact ⟨rfl, rfl⟩
            case rest =>
            obtain ⟨rfl, rfl⟩ := hcut
            clear hm hb0
            go_wp2_with fail
            refine (DivMod_to s t a b 20 (by omega) HS HTT HIA.out.ten HIB.out.ten hbn.out _ (tab_keep HT.out HW6.out)).mono ?_
            rintro e w7 ⟨q, r, Q, R, hd, hQ, hR, tq, tr, rfl, hb0⟩
            have HW7 := Lib.hid (HW6.out.trans (hb0.mono HW6.out.size))
            obtain ⟨hu1, hv1⟩ := hd.unique HDV.out
            obtain ⟨U, hU⟩ : ∃ U, a.tdiv b = U := ⟨_, rfl⟩
            obtain ⟨V, hV⟩ : ∃ V, a.tmod b = V := ⟨_, rfl⟩
            have hi := HI.out
            rw [hU, hV] at hi hu1
            rw [hV] at hv1
            have hq : IntKind.i64.wrap (a.tdiv b) = U := by rw [hU]; exact IntWalk.i64_in _ (by have := hi.1; unfold I64 at this; omega)
            have hr : IntKind.i64.wrap (a.tmod b) = V := by rw [hV]; exact IntWalk.i64_in _ (by have := hi.2; unfold I64 at this; omega)
            have HIQ := Lib.hid (show I64 q ∧ I64 r by
              have k1 := hd.qsize
              have k2 := hd.size
              have k3 := hi.1; have k4 := hi.2
              unfold I64 at k3 k4 ⊢
              split at hu1 <;> rw [hu1] at k1 ⊢ <;> refine ⟨by omega, by omega⟩)
            have HQ := Lib.hid hQ
            have HR := Lib.hid hR
            have HU1 := Lib.hid hu1
            have HV1 := Lib.hid hv1
            have HI2 := Lib.hid hi
            have HVV := Lib.hid hV
            clear hb0 hd hQ hR tq tr hu1 hv1 hU hV hi hr
            go_wp2_with fail
            have hb0 := hbn.out
            go_region
            rw [HVV.out]
            clear hq hb0 HVV
            have hiq := HIQ.out
            have i1 := hiq.1.1; have i2 := hiq.1.2; have i3 := hiq.2.1; have i4 := hiq.2.2
            have j1 := HI2.out.1.1; have j2 := HI2.out.1.2; have j3 := HI2.out.2.1; have j4 := HI2.out.2.2
            clear hiq
            rcases adj_ways HU1.out HV1.out with ⟨h1, h2, hu, hv⟩ | ⟨h1, h2, h3, h4, hu, hv⟩ | ⟨h1, h2, h3, h4, hu, hv⟩ | ⟨h1, h2, h3, h4, hu, hv⟩ | ⟨h1, h2, h3, h4, hu, hv⟩
            · have HU2 := Lib.hid hu
              have HV2 : Hid (r = 0) := Lib.hid (by rw [hv]; exact eq_of_beq h2)
              have X1 : Hid (I64 U) := Lib.hid (by have := HIQ.out.1; rwa [HU2.out] at this)
              have X2 : Hid (IsStr Q U) := Lib.hid (by have := HQ.out; rwa [HU2.out] at this)
              have X3 : Hid (I64 0) := Lib.hid (by have := HIQ.out.2; rwa [HV2.out] at this)
              have X4 : Hid (IsStr R 0) := Lib.hid (by have := HR.out; rwa [HV2.out] at this)
              obtain rfl : V = 0 := eq_of_beq h2
              clear hu hv h1 h2 HU1 HV1 HIQ HI2
              go_wp2_with fail
              refine (Of_to U Q X1 X2 _ (tab_keep HT.out HW7.out.drew)).mono ?_
              rintro e w8 ⟨rfl, hb0⟩
              have HW8 := Lib.hid (HW7.out.drew.trans (hb0.mono HW7.out.size))
              clear hb0
              go_wp2_with fail
              refine (Of_to 0 R X3 X4 _ (tab_keep HT.out HW8.out)).mono ?_
              rintro e w9 ⟨rfl, hb0⟩
              have HW9 := Lib.hid (HW8.out.trans (hb0.mono HW8.out.size))
              clear hb0
              go_wp2
              go_ret
              exact ⟨rfl, HW9.out⟩
            · have HU2 := Lib.hid hu
              have HV2 := Lib.hid hv
              have X1 : Hid (I64 U) := Lib.hid (by have := HIQ.out.1; rwa [HU2.out] at this)
              have X2 : Hid (IsStr Q U) := Lib.hid (by have := HQ.out; rwa [HU2.out] at this)
              have X3 : Hid (I64 V) := Lib.hid (by have := HIQ.out.2; rwa [HV2.out] at this)
              have X4 : Hid (IsStr R V) := Lib.hid (by have := HR.out; rwa [HV2.out] at this)
              have h5 : ¬ V = 0 := by simpa using h2
              clear hu hv HU1 HV1 HIQ HI2
              go_wp2_with fail
              refine (Of_to U Q X1 X2 _ (tab_keep HT.out HW7.out.drew)).mono ?_
              rintro e w8 ⟨rfl, hb0⟩
              have HW8 := Lib.hid (HW7.out.drew.trans (hb0.mono HW7.out.size))
              clear hb0
              go_wp2_with fail
              refine (Of_to V R X3 X4 _ (tab_keep HT.out HW8.out)).mono ?_
              rintro e w9 ⟨rfl, hb0⟩
              have HW9 := Lib.hid (HW8.out.trans (hb0.mono HW8.out.size))
              clear hb0
              go_wp2
              go_ret
              exact ⟨rfl, HW9.out⟩
            · have HU2 := Lib.hid hu
              have HV2 := Lib.hid hv
              have X1 : Hid (I64 U) := Lib.hid (by have := HIQ.out.1; rwa [HU2.out] at this)
              have X2 : Hid (IsStr Q U) := Lib.hid (by have := HQ.out; rwa [HU2.out] at this)
              have X3 : Hid (I64 V) := Lib.hid (by have := HIQ.out.2; rwa [HV2.out] at this)
              have X4 : Hid (IsStr R V) := Lib.hid (by have := HR.out; rwa [HV2.out] at this)
              have h5 : ¬ V = 0 := by simpa using h2
              clear hu hv HU1 HV1 HIQ HI2
              go_wp2_with fail
              refine (Of_to U Q X1 X2 _ (tab_keep HT.out HW7.out.drew)).mono ?_
              rintro e w8 ⟨rfl, hb0⟩
              have HW8 := Lib.hid (HW7.out.drew.trans (hb0.mono HW7.out.size))
              clear hb0
              go_wp2_with fail
              refine (Of_to V R X3 X4 _ (tab_keep HT.out HW8.out)).mono ?_
              rintro e w9 ⟨rfl, hb0⟩
              have HW9 := Lib.hid (HW8.out.trans (hb0.mono HW8.out.size))
              clear hb0
              go_wp2
              go_ret
              exact ⟨rfl, HW9.out⟩
            · have HU2 := Lib.hid hu
              have HV2 := Lib.hid hv
              have hq1 : IntKind.i64.wrap (U - 1) = U - 1 := IntWalk.i64_in _ (by have := HIQ.out.1; rw [hu] at this; unfold I64 at this; omega)
              have hr1 : IntKind.i64.wrap (V + b) = V + b := IntWalk.i64_in _ (by have := HIQ.out.2; rw [hv] at this; unfold I64 at this; omega)
              have X1 : Hid (I64 (U - 1)) := Lib.hid (by have := HIQ.out.1; rwa [HU2.out] at this)
              have X2 : Hid (IsStr Q (U - 1)) := Lib.hid (by have := HQ.out; rwa [HU2.out] at this)
              have X3 : Hid (I64 (V + b)) := Lib.hid (by have := HIQ.out.2; rwa [HV2.out] at this)
              have X4 : Hid (IsStr R (V + b)) := Lib.hid (by have := HR.out; rwa [HV2.out] at this)
              have h5 : ¬ V = 0 := by simpa using h2
              clear hu hv HU1 HV1 HIQ HI2
              go_wp2_with fail
              refine (Of_to (U - 1) Q X1 X2 _ (tab_keep HT.out HW7.out.drew)).mono ?_
              rintro e w8 ⟨rfl, hb0⟩
              have HW8 := Lib.hid (HW7.out.drew.trans (hb0.mono HW7.out.size))
              clear hb0
              go_wp2_with fail
              refine (Of_to (V + b) R X3 X4 _ (tab_keep HT.out HW8.out)).mono ?_
              rintro e w9 ⟨rfl, hb0⟩
              have HW9 := Lib.hid (HW8.out.trans (hb0.mono HW8.out.size))
              clear hb0
              go_wp2
              go_ret
              exact ⟨rfl, HW9.out⟩
            · have HU2 := Lib.hid hu
              have HV2 := Lib.hid hv
              have hq1 : IntKind.i64.wrap (U - 1) = U - 1 := IntWalk.i64_in _ (by have := HIQ.out.1; rw [hu] at this; unfold I64 at this; omega)
              have hr1 : IntKind.i64.wrap (V + b) = V + b := IntWalk.i64_in _ (by have := HIQ.out.2; rw [hv] at this; unfold I64 at this; omega)
              have X1 : Hid (I64 (U - 1)) := Lib.hid (by have := HIQ.out.1; rwa [HU2.out] at this)
              have X2 : Hid (IsStr Q (U - 1)) := Lib.hid (by have := HQ.out; rwa [HU2.out] at this)
              have X3 : Hid (I64 (V + b)) := Lib.hid (by have := HIQ.out.2; rwa [HV2.out] at this)
              have X4 : Hid (IsStr R (V + b)) := Lib.hid (by have := HR.out; rwa [HV2.out] at this)
              have h5 : ¬ V = 0 := by simpa using h2
              clear hu hv HU1 HV1 HIQ HI2
              go_wp2_with fail
              refine (Of_to (U - 1) Q X1 X2 _ (tab_keep HT.out HW7.out.drew)).mono ?_
              rintro e w8 ⟨rfl, hb0⟩
              have HW8 := Lib.hid (HW7.out.drew.trans (hb0.mono HW7.out.size))
              clear hb0
              go_wp2_with fail
              refine (Of_to (V + b) R X3 X4 _ (tab_keep HT.out HW8.out)).mono ?_
              rintro e w9 ⟨rfl, hb0⟩
              have HW9 := Lib.hid (HW8.out.trans (hb0.mono HW8.out.size))
              clear hb0
              go_wp2
              go_ret
              exact ⟨rfl, HW9.out⟩

end Go.Proofs.YtdkpcjfadabkbaaDoor
