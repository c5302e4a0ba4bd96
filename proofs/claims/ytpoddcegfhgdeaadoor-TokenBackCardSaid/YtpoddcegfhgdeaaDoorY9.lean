/- What the part for numbers does, and the part for signs. -/
import Derived.Test.YtpoddcegfhgdeaaDoorY8
set_option linter.unusedVariables false
set_option linter.unusedSimpArgs false
namespace Go.Proofs.YtpoddcegfhgdeaaDoor
open Go.RowKit

theorem below_of_parse {w w1 : World} {e : TypeId} (h : w1 = w ∨ ∃ t, w1 = Lib.bytesWorld w e t) : Below w.heap.size w w1 := by
  rcases h with rfl | ⟨t, rfl⟩
  · exact Below.refl _ _
  · exact Lib.bytesWorld_below w e t

/-- The cell of strconv.ErrRange. -/
def Erg (w : World) : Prop := ∃ ev, w.cell? ⟨2, 0, none⟩ = some ev ∧ (ev = .nilIface ∨ ∃ te pe, ev = .iface te pe) ∧ 2 < w.heap.size
theorem Erg.keep {B : Nat} {w w' : World} (h : Erg w) (hB : 2 < B) (hb : Below B w w') : Erg w' := by
  obtain ⟨ev, h1, h2, h3⟩ := h
  exact ⟨ev, (hb.cell (p := ⟨2, 0, none⟩) hB).trans h1, h2, Nat.lt_of_lt_of_le h3 hb.size⟩

theorem parse_digits (M : Nat) : ∀ (l : List UInt8) (acc : Nat), (∀ x ∈ l, Tk.isDg x = true) → (∃ u, Lib.parseUintM M acc l = .ok u) ∨ Lib.parseUintM M acc l = .range
  | [], acc, _ => .inl ⟨acc, rfl⟩
  | c :: r, acc, h => by
    have hc := h c (by simp)
    unfold Tk.isDg at hc
    rw [Bool.and_eq_true, decide_eq_true_eq, decide_eq_true_eq] at hc
    unfold Lib.parseUintM
    rw [if_pos hc]
    split
    · exact .inr rfl
    · split
      · exact .inr rfl
      · exact parse_digits M r _ (fun x hx => h x (by simp [hx]))

theorem parse_number (l : List UInt8) (h0 : l ≠ []) (h : ∀ x ∈ l, Tk.isDg x = true) : (∃ u, Lib.parseIntB 64 l = .ok u) ∨ Lib.parseIntB 64 l = .range := by
  cases l with
  | nil => exact absurd rfl h0
  | cons c r =>
    have hc := h c (by simp)
    unfold Tk.isDg at hc
    rw [Bool.and_eq_true, decide_eq_true_eq, decide_eq_true_eq] at hc
    have hd : ¬ (c.toNat = 43 ∨ c.toNat = 45) := by omega
    unfold Lib.parseIntB
    simp only [hd, if_false]
    unfold Lib.parseUintB
    rw [if_neg h0]
    rcases parse_digits (2 ^ 64 - 1) (c :: r) 0 h with ⟨u, hu⟩ | hu
    · rw [hu]
      dsimp only
      split
      · exact .inr rfl
      · split
        · exact .inr rfl
        · exact .inl ⟨_, rfl⟩
    · rw [hu]; exact .inr rfl

theorem parse_signed (r : List UInt8) (h0 : r ≠ []) (h : ∀ x ∈ r, Tk.isDg x = true) : (∃ u, Lib.parseIntB 64 (45 :: r) = .ok u) ∨ Lib.parseIntB 64 (45 :: r) = .range := by
  have hd : ((45 : UInt8).toNat = 43 ∨ (45 : UInt8).toNat = 45) := .inr rfl
  unfold Lib.parseIntB
  simp only [hd, if_true]
  unfold Lib.parseUintB
  rw [if_neg h0]
  rcases parse_digits (2 ^ 64 - 1) r 0 h with ⟨u, hu⟩ | hu
  · rw [hu]
    dsimp only
    split
    · exact .inr rfl
    · split
      · exact .inr rfl
      · exact .inl ⟨_, rfl⟩
  · rw [hu]; exact .inr rfl

theorem ext_mem (p : UInt8 → Bool) (l : List UInt8) (d r : Nat) (hr : Tk.run p l d = r) : ∀ x ∈ Tk.ext l d r, p x = true := by
  intro x hx
  unfold Tk.ext at hx
  obtain ⟨i, hi, rfl⟩ := List.getElem_of_mem hx
  have hi1 : i < r - d := by rw [List.length_take] at hi; omega
  have hi2 : d + i < l.length := by rw [List.length_take, List.length_drop] at hi; omega
  rw [List.getElem_take, List.getElem_drop]
  have hge := Tk.run_ge p l d
  exact Tk.run_mem p l (r - d) d (by omega) (d + i) hi2 (by omega) (by omega)

theorem ext_cons (l : List UInt8) (o r : Nat) (h : o < l.length) (hr : o < r) : Tk.ext l o r = l[o] :: Tk.ext l (o + 1) r := by
  unfold Tk.ext
  rw [List.drop_eq_getElem_cons h, show r - o = (r - (o + 1)) + 1 by omega, List.take_succ_cons]

theorem ext_length (l : List UInt8) (a b : Nat) (h : b ≤ l.length) : (Tk.ext l a b).length = b - a := by
  unfold Tk.ext
  rw [List.length_take, List.length_drop]; omega

/-- What begins with a sign, or not, and goes on with digits, is a number, or out of range. -/
theorem num_ext (l : List UInt8) (o d r : Nat) (ho : o < l.length) (hd : d = o ∨ (d = o + 1 ∧ l[o] = 45)) (hr : Tk.run Tk.isDg l d = r) (hlt : d < r) (hle : r ≤ l.length) : (∃ u, Lib.parseIntB 64 (Tk.ext l o r) = .ok u) ∨ Lib.parseIntB 64 (Tk.ext l o r) = .range := by
  have hm := ext_mem Tk.isDg l d r hr
  have hne : Tk.ext l d r ≠ [] := by
    intro e
    have := ext_length l d r hle
    rw [e] at this
    simp at this; omega
  rcases hd with rfl | ⟨rfl, h45⟩
  · exact parse_number _ hne hm
  · rw [ext_cons l o r ho (by omega), h45]
    exact parse_signed _ hne hm

set_option maxRecDepth 100000 in
set_option maxHeartbeats 25600000 in
theorem addNumber_any (G o : Nat) (s : ByteArray) (ts : List Tk.Tok) (ns : List (Nat × Nat)) (x : Option Tk.St) (w : World) (h : SS w G s ts ns) (her : Erg w) (hGE : 2 < G) (ho : o < s.size) (hs : s.size ≤ 70000) (hl : ts.length ≤ 70000) (hx : Hid (Tk.numF s.data.toList ts o = x)) :
    Calls Tryd.prog 40 #[.pointer (some ⟨G, 0, none⟩), .int .i64 o] w (Part x G o s ts ns w) := by
  have hx1 := hx.out
  unfold Tk.numF Tk.digs at hx1
  rw [getD_at s o ho] at hx1
  have hoi : (o : Int) < s.size := by omega
  have hlo : o < s.data.toList.length := by rw [← Lib.size_eq]; exact ho
  have HLO : Hid (∃ h : o < s.data.toList.length, s.data.toList[o] = s[o]) := Lib.hid ⟨hlo, rfl⟩
  obtain ⟨m, hm⟩ : ∃ m, Tk.mayS s.data.toList ts = m := ⟨_, rfl⟩
  rw [hm] at hx1
  obtain ⟨d, hD⟩ : ∃ d, (if s[o] = 45 ∧ m = true then o + 1 else o) = d := ⟨_, rfl⟩
  rw [hD] at hx1
  have HM := Lib.hid hm
  have HS := Lib.hid h
  have HE := Lib.hid her
  have HL := Lib.hid (And.intro hl hs)
  have hG := h.lt
  have hF0 : Far G w w := Far.refl (Nat.le_of_lt hG)
  have HF0 := Lib.hid hF0
  obtain ⟨c0, c1⟩ : w.cell? ⟨G, 0, none⟩ = some (.string s) ∧ True := by
    obtain ⟨tv, nv, h⟩ := h
    exact ⟨h.box.cell.1, trivial⟩
  -- behind the digits
  have key : ∀ (d r : Nat), d = o ∨ (d = o + 1 ∧ s[o] = 45) → Tk.run Tk.isDg s.data.toList d = r → d < r → r ≤ s.size → (∃ u, Lib.parseIntB 64 (s.extract o r).data.toList = .ok u ∧ Tk.numOk (Tk.ext s.data.toList o r) = true) ∨ (Lib.parseIntB 64 (s.extract o r).data.toList = .range ∧ Tk.numOk (Tk.ext s.data.toList o r) = false) := by
    intro d r hd hr hlt hle
    have := num_ext s.data.toList o d r hlo hd hr hlt (by rw [← Lib.size_eq]; exact hle)
    rw [ext_at]
    rcases this with ⟨u, hu⟩ | hu
    · exact .inl ⟨u, hu, by unfold Tk.numOk; rw [hu]⟩
    · exact .inr ⟨hu, by unfold Tk.numOk; rw [hu]⟩
  have HKEY := Lib.hid key
  clear hx hm h her hl hF0 key c1
  by_cases h45 : s[o] = 45
  · have e45 : ((s[o].toNat : Int) == 45) = true := by rw [h45]; rfl
    cases m with
    | false =>
      rw [if_neg (by rintro ⟨_, h⟩; cases h)] at hD
      subst hD
      obtain ⟨r, hr⟩ : ∃ r, Tk.run Tk.isDg s.data.toList o = r := ⟨_, rfl⟩
      rw [hr] at hx1
      have hge := Tk.run_ge Tk.isDg s.data.toList o
      have hle := Tk.run_le Tk.isDg s.data.toList o (by rw [← Lib.size_eq]; omega)
      rw [← Lib.size_eq] at hle
      rw [hr] at hge hle
      have HR := Lib.hid hr
      by_cases h1 : r = o
      · obtain rfl : o = r := h1.symm
        rw [if_pos rfl] at hx1
        subst hx1
        clear hr hge hle
        go_enter Tryd.func40, Tryd.ntmps40
        go_wp2_with (first | (go_at_call 59; refine (maySign_any G s ts ns false _ HS.out HL.out.1 HM).mono ?_; rintro e w1 ⟨rfl, hb⟩; refine hold ?_))
        have hS1 := HS.out.keep hb
        have HS1 := Lib.hid hS1
        have HF1 := Lib.hid (HF0.out.trans (Far.of_below (Nat.le_of_lt hG) hb))
        have HE1 := Lib.hid (HE.out.keep (Nat.lt_trans hGE hG) hb)
        have c1 : w1.cell? ⟨G, 0, none⟩ = some (.string s) := (by obtain ⟨tv, nv, h⟩ := hS1; exact h.box.cell.1)
        clear hS1 hb c0
        refine go_on ?_
        go_wp2_with (first | (go_at_call 52; refine (endDigit G o o s ts ns _ HS1.out (by omega) HL.out.2 HR).mono ?_; rintro e w' ⟨rfl, rfl⟩))
        go_ret2
        exact ⟨rfl, HS1.out, HF1.out⟩
      · rw [if_neg h1] at hx1
        have hdr : o < r := by omega
        have e1 : ((r : Int) == o) = false := by simp; omega
        have h1i : (o : Int) ≤ r := by omega
        have h2i : (r : Int) ≤ s.size := by omega
        have hxs : (s.extract o r).size ≤ 70000 := by rw [ByteArray.size_extract]; omega
        rcases HKEY.out o r (.inl rfl) hr hdr hle with ⟨u, hu, hok⟩ | ⟨hu, hok⟩
        · rw [hok, if_neg (by decide)] at hx1
          subst hx1
          have HPU := Lib.hid hu
          clear hr hge hu hok h1
          go_enter Tryd.func40, Tryd.ntmps40
          go_wp2_with (first | (go_at_call 59; refine (maySign_any G s ts ns false _ HS.out HL.out.1 HM).mono ?_; rintro e w1 ⟨rfl, hb⟩; refine hold ?_))
          have hS1 := HS.out.keep hb
          have HS1 := Lib.hid hS1
          have HF1 := Lib.hid (HF0.out.trans (Far.of_below (Nat.le_of_lt hG) hb))
          have HE1 := Lib.hid (HE.out.keep (Nat.lt_trans hGE hG) hb)
          have c1 : w1.cell? ⟨G, 0, none⟩ = some (.string s) := (by obtain ⟨tv, nv, h⟩ := hS1; exact h.box.cell.1)
          clear hS1 hb c0
          refine go_on ?_
          go_wp2_with (first | (go_at_call 52; refine (endDigit G o r s ts ns _ HS1.out (by omega) HL.out.2 HR).mono ?_; rintro e w' ⟨rfl, rfl⟩) | fail)
          refine (Tryd.strconv_ParseInt_10_at64_ok _ (by omega) u HPU.out _).mono ?_
          rintro e w2 ⟨rfl, hw⟩
          have hb2 := below_of_parse hw
          clear hw
          have hS2 := HS1.out.keep hb2
          have HS2 := Lib.hid hS2
          have HF2 := Lib.hid (HF1.out.trans (Far.of_below (Nat.le_of_lt HS1.out.lt) hb2))
          clear hS2 hb2
          go_wp2_with fail
          refine (add_any G 3 o r s ts ns _ HS2.out (by omega) hle HL.out.2 (by omega) HL.out.1).mono ?_
          rintro e w3 ⟨rfl, hS3, hF3⟩
          have HS3 := Lib.hid hS3
          have HF3 := Lib.hid (HF2.out.trans hF3)
          clear hS3 hF3
          go_wp2
          go_ret2
          exact ⟨rfl, HS3.out, HF3.out⟩
        · rw [hok, if_pos rfl] at hx1
          subst hx1
          have HPU := Lib.hid hu
          clear hr hge hu hok h1
          go_enter Tryd.func40, Tryd.ntmps40
          go_wp2_with (first | (go_at_call 59; refine (maySign_any G s ts ns false _ HS.out HL.out.1 HM).mono ?_; rintro e w1 ⟨rfl, hb⟩; refine hold ?_))
          have hS1 := HS.out.keep hb
          have HS1 := Lib.hid hS1
          have HF1 := Lib.hid (HF0.out.trans (Far.of_below (Nat.le_of_lt hG) hb))
          have HE1 := Lib.hid (HE.out.keep (Nat.lt_trans hGE hG) hb)
          have c1 : w1.cell? ⟨G, 0, none⟩ = some (.string s) := (by obtain ⟨tv, nv, h⟩ := hS1; exact h.box.cell.1)
          clear hS1 hb c0
          refine go_on ?_
          go_wp2_with (first | (go_at_call 52; refine (endDigit G o r s ts ns _ HS1.out (by omega) HL.out.2 HR).mono ?_; rintro e w' ⟨rfl, rfl⟩) | fail)
          obtain ⟨ev, hv1, hv2, hv3⟩ := HE1.out
          refine (Tryd.strconv_ParseInt_10_at64_range _ (by omega) HPU.out ev _ hv1 hv2).mono ?_
          clear hv1 hv2 hv3
          rintro e w2 ⟨N, rfl, _, _, hb2⟩
          have HS2 := Lib.hid (HS1.out.keep hb2)
          have HF2 := Lib.hid (HF1.out.trans (Far.of_below (Nat.le_of_lt HS1.out.lt) hb2))
          clear hb2
          go_wp2
          go_ret2
          exact ⟨rfl, HS2.out, HF2.out⟩
    | true =>
      rw [if_pos ⟨h45, rfl⟩] at hD
      have hd : o + 1 = d := hD
      clear hD
      have hd1 : (o : Int) + 1 = d := by omega
      have hds : d ≤ s.size := by omega
      obtain ⟨r, hr⟩ : ∃ r, Tk.run Tk.isDg s.data.toList d = r := ⟨_, rfl⟩
      rw [hr] at hx1
      have hge := Tk.run_ge Tk.isDg s.data.toList d
      have hle := Tk.run_le Tk.isDg s.data.toList d (by rw [← Lib.size_eq]; omega)
      rw [← Lib.size_eq] at hle
      rw [hr] at hge hle
      have HR := Lib.hid hr
      by_cases h1 : r = d
      · obtain rfl : d = r := h1.symm
        rw [if_pos rfl] at hx1
        subst hx1
        clear hr hge hle
        go_enter Tryd.func40, Tryd.ntmps40
        go_wp2_with (first | (go_at_call 59; refine (maySign_any G s ts ns true _ HS.out HL.out.1 HM).mono ?_; rintro e w1 ⟨rfl, hb⟩; refine hold ?_))
        have hS1 := HS.out.keep hb
        have HS1 := Lib.hid hS1
        have HF1 := Lib.hid (HF0.out.trans (Far.of_below (Nat.le_of_lt hG) hb))
        have HE1 := Lib.hid (HE.out.keep (Nat.lt_trans hGE hG) hb)
        have c1 : w1.cell? ⟨G, 0, none⟩ = some (.string s) := (by obtain ⟨tv, nv, h⟩ := hS1; exact h.box.cell.1)
        clear hS1 hb c0
        refine go_on ?_
        go_wp2_with (first | (go_at_call 52; refine (endDigit G d d s ts ns _ HS1.out (by omega) HL.out.2 HR).mono ?_; rintro e w' ⟨rfl, rfl⟩))
        go_ret2
        exact ⟨rfl, HS1.out, HF1.out⟩
      · rw [if_neg h1] at hx1
        have hdr : d < r := by omega
        have e1 : ((r : Int) == d) = false := by simp; omega
        have h1i : (o : Int) ≤ r := by omega
        have h2i : (r : Int) ≤ s.size := by omega
        have hxs : (s.extract o r).size ≤ 70000 := by rw [ByteArray.size_extract]; omega
        rcases HKEY.out d r (.inr ⟨hd.symm, h45⟩) hr hdr hle with ⟨u, hu, hok⟩ | ⟨hu, hok⟩
        · rw [hok, if_neg (by decide)] at hx1
          subst hx1
          have HPU := Lib.hid hu
          clear hr hge hu hok h1
          go_enter Tryd.func40, Tryd.ntmps40
          go_wp2_with (first | (go_at_call 59; refine (maySign_any G s ts ns true _ HS.out HL.out.1 HM).mono ?_; rintro e w1 ⟨rfl, hb⟩; refine hold ?_))
          have hS1 := HS.out.keep hb
          have HS1 := Lib.hid hS1
          have HF1 := Lib.hid (HF0.out.trans (Far.of_below (Nat.le_of_lt hG) hb))
          have HE1 := Lib.hid (HE.out.keep (Nat.lt_trans hGE hG) hb)
          have c1 : w1.cell? ⟨G, 0, none⟩ = some (.string s) := (by obtain ⟨tv, nv, h⟩ := hS1; exact h.box.cell.1)
          clear hS1 hb c0
          refine go_on ?_
          go_wp2_with (first | (go_at_call 52; refine (endDigit G d r s ts ns _ HS1.out (by omega) HL.out.2 HR).mono ?_; rintro e w' ⟨rfl, rfl⟩) | fail)
          refine (Tryd.strconv_ParseInt_10_at64_ok _ (by omega) u HPU.out _).mono ?_
          rintro e w2 ⟨rfl, hw⟩
          have hb2 := below_of_parse hw
          clear hw
          have hS2 := HS1.out.keep hb2
          have HS2 := Lib.hid hS2
          have HF2 := Lib.hid (HF1.out.trans (Far.of_below (Nat.le_of_lt HS1.out.lt) hb2))
          clear hS2 hb2
          go_wp2_with fail
          refine (add_any G 3 o r s ts ns _ HS2.out (by omega) hle HL.out.2 (by omega) HL.out.1).mono ?_
          rintro e w3 ⟨rfl, hS3, hF3⟩
          have HS3 := Lib.hid hS3
          have HF3 := Lib.hid (HF2.out.trans hF3)
          clear hS3 hF3
          go_wp2
          go_ret2
          exact ⟨rfl, HS3.out, HF3.out⟩
        · rw [hok, if_pos rfl] at hx1
          subst hx1
          have HPU := Lib.hid hu
          clear hr hge hu hok h1
          go_enter Tryd.func40, Tryd.ntmps40
          go_wp2_with (first | (go_at_call 59; refine (maySign_any G s ts ns true _ HS.out HL.out.1 HM).mono ?_; rintro e w1 ⟨rfl, hb⟩; refine hold ?_))
          have hS1 := HS.out.keep hb
          have HS1 := Lib.hid hS1
          have HF1 := Lib.hid (HF0.out.trans (Far.of_below (Nat.le_of_lt hG) hb))
          have HE1 := Lib.hid (HE.out.keep (Nat.lt_trans hGE hG) hb)
          have c1 : w1.cell? ⟨G, 0, none⟩ = some (.string s) := (by obtain ⟨tv, nv, h⟩ := hS1; exact h.box.cell.1)
          clear hS1 hb c0
          refine go_on ?_
          go_wp2_with (first | (go_at_call 52; refine (endDigit G d r s ts ns _ HS1.out (by omega) HL.out.2 HR).mono ?_; rintro e w' ⟨rfl, rfl⟩) | fail)
          obtain ⟨ev, hv1, hv2, hv3⟩ := HE1.out
          refine (Tryd.strconv_ParseInt_10_at64_range _ (by omega) HPU.out ev _ hv1 hv2).mono ?_
          clear hv1 hv2 hv3
          rintro e w2 ⟨N, rfl, _, _, hb2⟩
          have HS2 := Lib.hid (HS1.out.keep hb2)
          have HF2 := Lib.hid (HF1.out.trans (Far.of_below (Nat.le_of_lt HS1.out.lt) hb2))
          clear hb2
          go_wp2
          go_ret2
          exact ⟨rfl, HS2.out, HF2.out⟩
  · have e45 : ((s[o].toNat : Int) == 45) = false := by
      rw [beq_eq_false_iff_ne]
      intro e
      exact h45 (UInt8.toNat_inj.1 (by show s[o].toNat = 45; omega))
    rw [if_neg (by rintro ⟨h, _⟩; exact h45 h)] at hD
    subst hD
    obtain ⟨r, hr⟩ : ∃ r, Tk.run Tk.isDg s.data.toList o = r := ⟨_, rfl⟩
    rw [hr] at hx1
    have hge := Tk.run_ge Tk.isDg s.data.toList o
    have hle := Tk.run_le Tk.isDg s.data.toList o (by rw [← Lib.size_eq]; omega)
    rw [← Lib.size_eq] at hle
    rw [hr] at hge hle
    have HR := Lib.hid hr
    by_cases h1 : r = o
    · obtain rfl : o = r := h1.symm
      rw [if_pos rfl] at hx1
      subst hx1
      clear hr hge hle
      go_enter Tryd.func40, Tryd.ntmps40
      go_wp2_with (first | (go_at_call 52; refine (endDigit G o o s ts ns _ HS.out (by omega) HL.out.2 HR).mono ?_; rintro e w' ⟨rfl, rfl⟩))
      go_ret2
      exact ⟨rfl, HS.out, HF0.out⟩
    · rw [if_neg h1] at hx1
      have hdr : o < r := by omega
      have e1 : ((r : Int) == o) = false := by simp; omega
      have h1i : (o : Int) ≤ r := by omega
      have h2i : (r : Int) ≤ s.size := by omega
      have hxs : (s.extract o r).size ≤ 70000 := by rw [ByteArray.size_extract]; omega
      rcases HKEY.out o r (.inl rfl) hr hdr hle with ⟨u, hu, hok⟩ | ⟨hu, hok⟩
      · rw [hok, if_neg (by decide)] at hx1
        subst hx1
        have HPU := Lib.hid hu
        clear hr hge hu hok h1
        go_enter Tryd.func40, Tryd.ntmps40
        go_wp2_with (first | (go_at_call 52; refine (endDigit G o r s ts ns _ HS.out (by omega) HL.out.2 HR).mono ?_; rintro e w' ⟨rfl, rfl⟩) | fail)
        refine (Tryd.strconv_ParseInt_10_at64_ok _ (by omega) u HPU.out _).mono ?_
        rintro e w2 ⟨rfl, hw⟩
        have hb2 := below_of_parse hw
        clear hw
        have hS2 := HS.out.keep hb2
        have HS2 := Lib.hid hS2
        have HF2 := Lib.hid (HF0.out.trans (Far.of_below (Nat.le_of_lt HS.out.lt) hb2))
        clear hS2 hb2
        go_wp2_with fail
        refine (add_any G 3 o r s ts ns _ HS2.out (by omega) hle HL.out.2 (by omega) HL.out.1).mono ?_
        rintro e w3 ⟨rfl, hS3, hF3⟩
        have HS3 := Lib.hid hS3
        have HF3 := Lib.hid (HF2.out.trans hF3)
        clear hS3 hF3
        go_wp2
        go_ret2
        exact ⟨rfl, HS3.out, HF3.out⟩
      · rw [hok, if_pos rfl] at hx1
        subst hx1
        have HPU := Lib.hid hu
        clear hr hge hu hok h1
        go_enter Tryd.func40, Tryd.ntmps40
        go_wp2_with (first | (go_at_call 52; refine (endDigit G o r s ts ns _ HS.out (by omega) HL.out.2 HR).mono ?_; rintro e w' ⟨rfl, rfl⟩) | fail)
        obtain ⟨ev, hv1, hv2, hv3⟩ := HE.out
        refine (Tryd.strconv_ParseInt_10_at64_range _ (by omega) HPU.out ev _ hv1 hv2).mono ?_
        clear hv1 hv2 hv3
        rintro e w2 ⟨N, rfl, _, _, hb2⟩
        have HS2 := Lib.hid (HS.out.keep hb2)
        have HF2 := Lib.hid (HF0.out.trans (Far.of_below (Nat.le_of_lt HS.out.lt) hb2))
        clear hb2
        go_wp2
        go_ret2
        exact ⟨rfl, HS2.out, HF2.out⟩

end Go.Proofs.YtpoddcegfhgdeaaDoor
