/- What the five parts of the scan do: white space, comments, words, numbers, signs. -/
import Derived.Test.YtpoddcegfhgdeaaDoorY7
set_option linter.unusedVariables false
set_option linter.unusedSimpArgs false
namespace Go.Proofs.YtpoddcegfhgdeaaDoor
open Go.RowKit

/-- A barrier for the walk. -/
def Stop (p : Prop) : Prop := p
theorem hold {p : Prop} (h : Stop p) : p := h
theorem go_on {p : Prop} (h : p) : Stop p := h

/-- What a part answers, and what it leaves, at an offset. -/
def outB (o : Nat) : Option Tk.St → Nat
  | some (.sp b) => b
  | some (.note b) => b
  | some (.tok _ b) => b
  | _ => o
def outE : Option Tk.St → Nat
  | some (.bad e) => e
  | _ => 0
def outT (o : Nat) (ts : List Tk.Tok) : Option Tk.St → List Tk.Tok
  | some (.tok k b) => ts ++ [(k, o, b)]
  | _ => ts
def outN (o : Nat) (ns : List (Nat × Nat)) : Option Tk.St → List (Nat × Nat)
  | some (.note b) => ns ++ [(o, b)]
  | _ => ns
def Part (x : Option Tk.St) (G o : Nat) (s : ByteArray) (ts : List Tk.Tok) (ns : List (Nat × Nat)) (w : World) (e : Ending) (w' : World) : Prop :=
  e = .returned (.tuple #[.int .i64 (outB o x), .int .i64 (outE x)]) ∧ SS w' G s (outT o ts x) (outN o ns x) ∧ Far G w w'

theorem Far.refl {G : Nat} {W : World} (h : G ≤ W.heap.size) : Far G W W := .of_below h (Below.refl _ _)

theorem eSpace : ∀ args w, (callFunc 53 args).run Tryd.prog w = .ok (.enter 53 args) w := enters_of Tryd.func53 (by kernel_rfl) rfl
theorem eDigit : ∀ args w, (callFunc 36 args).run Tryd.prog w = .ok (.enter 36 args) w := enters_of Tryd.func36 (by kernel_rfl) rfl
theorem eNotLf : ∀ args w, (callFunc 55 args).run Tryd.prog w = .ok (.enter 55 args) w := enters_of Tryd.func55 (by kernel_rfl) rfl
theorem eInNm : ∀ args w, (callFunc 56 args).run Tryd.prog w = .ok (.enter 56 args) w := enters_of Tryd.func56 (by kernel_rfl) rfl

theorem endSpace (G o r : Nat) (s : ByteArray) (ts : List Tk.Tok) (ns : List (Nat × Nat)) (w : World) (h : SS w G s ts ns) (ho : o ≤ s.size) (hs : s.size ≤ 70000) (hr : Hid (Tk.run Tk.isSp s.data.toList o = r)) :
    Calls Tryd.prog 52 #[.pointer (some ⟨G, 0, none⟩), .int .i64 o, .func (.func 53) #[] #[]] w fun e w' => e = .returned (.int .i64 r) ∧ w = w' := by
  obtain ⟨tv, nv, h⟩ := h
  rw [← hr.out]
  exact endOf_any _ _ Tk.isSp eSpace G s o tv nv w h.box ho hs (fun c => isSpace_any c w)
theorem endDigit (G o r : Nat) (s : ByteArray) (ts : List Tk.Tok) (ns : List (Nat × Nat)) (w : World) (h : SS w G s ts ns) (ho : o ≤ s.size) (hs : s.size ≤ 70000) (hr : Hid (Tk.run Tk.isDg s.data.toList o = r)) :
    Calls Tryd.prog 52 #[.pointer (some ⟨G, 0, none⟩), .int .i64 o, .func (.func 36) #[] #[]] w fun e w' => e = .returned (.int .i64 r) ∧ w = w' := by
  obtain ⟨tv, nv, h⟩ := h
  rw [← hr.out]
  exact endOf_any _ _ Tk.isDg eDigit G s o tv nv w h.box ho hs (fun c => isDigit_any c w)
theorem endNote (G o r : Nat) (s : ByteArray) (ts : List Tk.Tok) (ns : List (Nat × Nat)) (w : World) (h : SS w G s ts ns) (ho : o ≤ s.size) (hs : s.size ≤ 70000) (hr : Hid (Tk.run Tk.notLf s.data.toList o = r)) :
    Calls Tryd.prog 52 #[.pointer (some ⟨G, 0, none⟩), .int .i64 o, .func (.func 55) #[] #[]] w fun e w' => e = .returned (.int .i64 r) ∧ w = w' := by
  obtain ⟨tv, nv, h⟩ := h
  rw [← hr.out]
  exact endOf_any _ _ Tk.notLf eNotLf G s o tv nv w h.box ho hs (fun c => notLf_any c w)
theorem endName (G B o r : Nat) (s : ByteArray) (ts : List Tk.Tok) (ns : List (Nat × Nat)) (w : World) (h : SS w G s ts ns) (hB : w.cell? ⟨B, 0, none⟩ = some (.pointer (some ⟨G, 0, none⟩))) (ho : o ≤ s.size) (hs : s.size ≤ 70000) (hr : Hid (Tk.run Tk.inNm s.data.toList o = r)) :
    Calls Tryd.prog 52 #[.pointer (some ⟨G, 0, none⟩), .int .i64 o, .func (.func 56) #[] #[.pointer (some ⟨B, 0, none⟩)]] w fun e w' => e = .returned (.int .i64 r) ∧ w = w' := by
  obtain ⟨tv, nv, h⟩ := h
  rw [← hr.out]
  exact endOf_any _ _ Tk.inNm eInNm G s o tv nv w h.box ho hs (fun c => inNm_any c G B s tv nv w h.box hB)

set_option maxRecDepth 100000 in
set_option maxHeartbeats 3200000 in
theorem skipSpace_any (G o : Nat) (s : ByteArray) (ts : List Tk.Tok) (ns : List (Nat × Nat)) (x : Option Tk.St) (w : World) (h : SS w G s ts ns) (ho : o < s.size) (hs : s.size ≤ 70000) (hx : Hid (Tk.spaceF s.data.toList o = x)) :
    Calls Tryd.prog 37 #[.pointer (some ⟨G, 0, none⟩), .int .i64 o] w (Part x G o s ts ns w) := by
  obtain ⟨r, hr⟩ : ∃ r, Tk.run Tk.isSp s.data.toList o = r := ⟨_, rfl⟩
  have hx1 := hx.out
  unfold Tk.spaceF at hx1
  rw [hr] at hx1
  have hge := Tk.run_ge Tk.isSp s.data.toList o
  rw [hr] at hge
  have HR := Lib.hid hr
  have HS := Lib.hid h
  have key : Part x G o s ts ns w (.returned (.tuple #[.int .i64 r, .int .i64 0])) w := by
    have hF : Far G w w := Far.refl (Nat.le_of_lt h.lt)
    by_cases hlt : o < r
    · rw [if_pos hlt] at hx1
      subst hx1
      exact ⟨rfl, h, hF⟩
    · obtain rfl : r = o := by omega
      rw [if_neg (Nat.lt_irrefl _)] at hx1
      subst hx1
      exact ⟨rfl, h, hF⟩
  have HK := Lib.hid key
  clear hr hx hx1 h key hge
  go_enter Tryd.func37, Tryd.ntmps37
  go_wp2_with (go_at_call 52; refine (endSpace G o r s ts ns _ HS.out (Nat.le_of_lt ho) hs HR).mono ?_; rintro e w' ⟨rfl, rfl⟩)
  go_ret2
  exact HK.out

theorem drop_ext (s : ByteArray) (o : Nat) (h : o ≤ s.size) : (s.extract o s.size).data.toList = s.data.toList.drop o := by
  rw [Lib.extract_data, List.take_of_length_le]
  rw [List.length_drop, ← Lib.size_eq]; exact Nat.le_refl _

theorem prefixAt (s p : ByteArray) (o : Nat) (b : Bool) (w : World) (ho : o ≤ s.size) (hb : Hid (p.data.toList.isPrefixOf (s.data.toList.drop o) = b)) :
    Calls Tryd.prog 54 #[.string (s.extract o s.size), .string p] w fun e w' => e = .returned (.bool b) ∧ w = w' := by
  refine (Tryd.strings_HasPrefix _ _ _).mono ?_
  rintro e w' ⟨rfl, rfl⟩
  refine ⟨?_, rfl⟩
  rw [drop_ext s o ho]
  exact congrArg (fun b => Ending.returned (.bool b)) hb.out

set_option maxRecDepth 100000 in
set_option maxHeartbeats 6400000 in
theorem addComment_any (G o : Nat) (s : ByteArray) (ts : List Tk.Tok) (ns : List (Nat × Nat)) (x : Option Tk.St) (w : World) (h : SS w G s ts ns) (ho : o < s.size) (hs : s.size ≤ 70000) (hn : ns.length ≤ 70000) (hx : Hid (Tk.noteF s.data.toList o = x)) :
    Calls Tryd.prog 38 #[.pointer (some ⟨G, 0, none⟩), .int .i64 o] w (Part x G o s ts ns w) := by
  have hx1 := hx.out
  unfold Tk.noteF at hx1
  obtain ⟨b, hb⟩ : ∃ b, ([45, 45] : List UInt8).isPrefixOf (s.data.toList.drop o) = b := ⟨_, rfl⟩
  rw [hb] at hx1
  have HP : Hid ((⟨#[45, 45]⟩ : ByteArray).data.toList.isPrefixOf (s.data.toList.drop o) = b) := Lib.hid hb
  have HS := Lib.hid h
  have hoi : (o : Int) ≤ s.size := by omega
  have hF : Far G w w := Far.refl (Nat.le_of_lt h.lt)
  have HF := Lib.hid hF
  obtain ⟨tv, nv, hsb⟩ := h
  have HSB := Lib.hid hsb
  obtain ⟨c0, c1, c2⟩ := hsb.box.cell
  have f2 := hsb.box.froz 258
  have hG := hsb.box.lt
  clear hb hx hF hsb
  cases b with
  | false =>
    rw [if_neg (by decide)] at hx1
    subst hx1
    go_enter Tryd.func38, Tryd.ntmps38
    go_wp2_with (go_at_call 54; refine (prefixAt s _ o false _ (Nat.le_of_lt ho) HP).mono ?_; rintro e w' ⟨rfl, rfl⟩)
    go_ret2
    exact ⟨rfl, HS.out, HF.out⟩
  | true =>
    rw [if_pos rfl] at hx1
    obtain ⟨r, hr⟩ : ∃ r, Tk.run Tk.notLf s.data.toList o = r := ⟨_, rfl⟩
    rw [hr] at hx1
    have HR := Lib.hid hr
    subst hx1
    have HN := Lib.hid (And.intro trivial hn)
    have hA := (Below.refl w.heap.size w).alloc (Nat.le_refl _) (.cells #[.int .i64 o, .int .i64 r] 33)
    have hS2 := HSB.out.keep hA
    have HS2 := Lib.hid hS2
    have HA := Lib.hid hA
    have hgl := hS2.box.lt
    obtain ⟨d0, d1, d2⟩ := hS2.box.cell
    have f3 := hS2.box.froz 258
    obtain ⟨i0, hi, hz0, hz1, hz2⟩ := info_parts infoSpan
    have HI := Lib.hid (And.intro hi (And.intro hz0 (And.intro hz1 hz2)))
    have HNEW := Lib.hid (two_cells w (.int .i64 o) (.int .i64 r) 33)
    clear hr hn hA hS2 hi hz0 hz1 hz2
    go_enter Tryd.func38, Tryd.ntmps38
    go_wp2_with (first | (go_at_call 54; refine (prefixAt s _ o true _ (Nat.le_of_lt ho) HP).mono ?_; rintro e w' ⟨rfl, rfl⟩) | (go_at_call 52; refine (endNote G o r s ts ns _ HS.out (Nat.le_of_lt ho) hs HR).mono ?_; rintro e w' ⟨rfl, rfl⟩) | (at_builtin; refine wpList_append_lies _ rfl _ _ 24 rfl (G + 1) 33 i0 (.agg #[.int .i64 0, .int .i64 0]) 2 16 Tryd.underlying24 HI.out.1 HI.out.2.1 HI.out.2.2.1 HI.out.2.2.2 rfl (by decide) nv ns.length (flatNote ns) rfl HS2.out.notes _ 1 1 (noteCells (o, r)) rfl rfl HNEW.out (by simp [noteCells, Value.oneCell']) (by decide) (by have := HN.out.2; unfold maxLen; omega) (by have := HN.out.2; omega) (by exact hgl) _ rfl ?_; intro g cap w4 hown hgrow _ _; refine hold ?_))
    have hrow : NoteRow (G + 1) w4 (.slice (some ⟨g, 0, none⟩) (ns.length + 1) cap) (ns ++ [(o, r)]) := by
      unfold NoteRow; rw [flatNote_snoc, List.length_append]; exact hown
    have hne : nv.ownBlock ≠ some G := fun e => by have := (own_type HS2.out.notes e).choose_spec.2.1; omega
    have hB4 := HS2.out.box.same (hgrow.block _ HS2.out.box.lt (fun e => hne e.symm))
    have HPU := Lib.hid (HS2.out.pushN hgrow hrow)
    have HW5 := Lib.hid ((Far.of_below (Nat.le_of_lt hG) HA.out).trans (Far.push (o := 258) (v := .slice (some ⟨g, 0, none⟩) (ns.length + 1) cap) HS2.out.box.lt hgrow (fun j e => by obtain ⟨c, h1, h2, _⟩ := own_type HS2.out.notes e; exact ⟨by omega, .inr ⟨c, _, h1⟩⟩)))
    clear d0 d1 d2 f3 c0 c1 c2 f2
    obtain ⟨d0, d1, d2⟩ := hB4.cell
    have f3 := hB4.froz 258
    clear hrow hne hB4 hgrow hown
    refine go_on ?_
    go_wp2
    go_ret2
    exact ⟨rfl, ⟨_, _, HPU.out⟩, HW5.out⟩

theorem getD_at (s : ByteArray) (o : Nat) (h : o < s.size) : s.data.toList.getD o 0 = s[o] := by
  rw [List.getD_eq_getElem?_getD, List.getElem?_eq_getElem (by simpa using h), Option.getD_some]; rfl
theorem ext_at (s : ByteArray) (a b : Nat) : (s.extract a b).data.toList = Tk.ext s.data.toList a b := by
  rw [Lib.extract_data]; rfl

/-- The box of the receiver, and the scanner behind it. -/
def WB (W : World) (B G : Nat) (s : ByteArray) (ts : List Tk.Tok) (ns : List (Nat × Nat)) : Prop := W.heap[B]? = some (.cells #[.pointer (some ⟨G, 0, none⟩)] 76 (0, 0)) ∧ SS W G s ts ns
theorem WB.cells {W : World} {B G : Nat} {s : ByteArray} {ts : List Tk.Tok} {ns : List (Nat × Nat)} (h : WB W B G s ts ns) : W.cell? ⟨B, 0, none⟩ = some (.pointer (some ⟨G, 0, none⟩)) ∧ W.cell? ⟨G, 0, none⟩ = some (.string s) := by
  obtain ⟨h1, tv, nv, h2⟩ := h
  exact ⟨by rw [cell_of_row _ _ _ _ _ _ h1]; rfl, h2.box.cell.1⟩
theorem WB.keep {W W' : World} {B G : Nat} {s : ByteArray} {ts : List Tk.Tok} {ns : List (Nat × Nat)} (h : WB W B G s ts ns) (hb : Below W.heap.size W W') : WB W' B G s ts ns :=
  ⟨(hb.block B (Array.getElem?_eq_some_iff.1 h.1).1).trans h.1, h.2.keep hb⟩

set_option maxRecDepth 100000 in
set_option maxHeartbeats 25600000 in
theorem addWord_any (G o : Nat) (s : ByteArray) (ts : List Tk.Tok) (ns : List (Nat × Nat)) (x : Option Tk.St) (w : World) (h : SS w G s ts ns) (ho : o < s.size) (hs : s.size ≤ 70000) (hl : ts.length ≤ 70000) (hx : Hid (Tk.wordF s.data.toList ts o = x)) :
    Calls Tryd.prog 39 #[.pointer (some ⟨G, 0, none⟩), .int .i64 o] w (Part x G o s ts ns w) := by
  have hx1 := hx.out
  unfold Tk.wordF at hx1
  rw [getD_at s o ho] at hx1
  obtain ⟨d, hd⟩ : ∃ d, Tk.isDg s[o] = d := ⟨_, rfl⟩
  rw [hd] at hx1
  have hA := (Below.refl w.heap.size w).alloc (Nat.le_refl _) (.cells #[.pointer (some ⟨G, 0, none⟩)] 76)
  have hWB : WB (w.alloc (.cells #[.pointer (some ⟨G, 0, none⟩)] 76)) w.heap.size G s ts ns := ⟨heap_alloc_new _ _, h.keep hA⟩
  have HWB := Lib.hid hWB
  have hFA : Far G w (w.alloc (.cells #[.pointer (some ⟨G, 0, none⟩)] 76)) := Far.of_below (Nat.le_of_lt h.lt) hA
  have HFA := Lib.hid hFA
  have hG := h.lt
  have hoi : (o : Int) < s.size := by omega
  have HDC : Hid (∀ W : World, Calls Tryd.prog 36 #[.int .u8 s[o].toNat] W fun e w' => e = .returned (.bool d) ∧ W = w') := Lib.hid fun W => by have := isDigit_any s[o] W; rw [hd] at this; exact this
  obtain ⟨c0, c1⟩ := hWB.cells
  have HL := Lib.hid (And.intro hl hs)
  clear hA hWB hFA h hx hd hl
  cases d with
  | true =>
    rw [if_pos rfl] at hx1
    subst hx1
    go_enter Tryd.func39, Tryd.ntmps39
    go_wp2_with (go_at_call 36; refine (HDC.out _).mono ?_; rintro e w' ⟨rfl, rfl⟩)
    go_ret2
    exact ⟨rfl, HWB.out.2, HFA.out⟩
  | false =>
    rw [if_neg (by decide)] at hx1
    obtain ⟨r, hr⟩ : ∃ r, Tk.run Tk.inNm s.data.toList o = r := ⟨_, rfl⟩
    have hge := Tk.run_ge Tk.inNm s.data.toList o
    have hle := Tk.run_le Tk.inNm s.data.toList o (by rw [← Lib.size_eq]; omega)
    rw [← Lib.size_eq] at hle
    rw [hr] at hx1 hge hle
    have HR := Lib.hid hr
    clear hr
    by_cases h1 : r = o
    · obtain rfl : o = r := h1.symm
      rw [if_pos rfl] at hx1
      subst hx1
      clear hge hle
      go_enter Tryd.func39, Tryd.ntmps39
      go_wp2_with (first | (go_at_call 36; refine (HDC.out _).mono ?_; rintro e w' ⟨rfl, rfl⟩) | (go_at_call 52; refine (endName G _ o o s ts ns _ HWB.out.2 HWB.out.cells.1 (Nat.le_of_lt ho) HL.out.2 HR).mono ?_; rintro e w' ⟨rfl, rfl⟩))
      go_ret2
      exact ⟨rfl, HWB.out.2, HFA.out⟩
    · have e1 : ((r : Int) == o) = false := by simp; omega
      rw [if_neg h1] at hx1
      have hor : o < r := by omega
      by_cases h2 : s[o] = 95 ∧ o + 1 < r
      · rw [if_pos h2] at hx1
        subst hx1
        have e2 : ((s[o].toNat : Int) == 95) = true := by rw [h2.1]; rfl
        have e3 : (o : Int) + 1 < r := by omega
        clear h1 h2 hge hle
        go_enter Tryd.func39, Tryd.ntmps39
        go_wp2_with (first | (go_at_call 36; refine (HDC.out _).mono ?_; rintro e w' ⟨rfl, rfl⟩) | (go_at_call 52; refine (endName G _ o r s ts ns _ HWB.out.2 HWB.out.cells.1 (Nat.le_of_lt ho) HL.out.2 HR).mono ?_; rintro e w' ⟨rfl, rfl⟩))
        go_ret2
        exact ⟨rfl, HWB.out.2, HFA.out⟩
      · rw [if_neg h2] at hx1
        obtain ⟨u, hu⟩ : ∃ u, ((s[o].toNat : Int) == 95) = u := ⟨_, rfl⟩
        have hu2 : u = true → ¬ (o : Int) + 1 < r := by
          rintro rfl hh
          refine h2 ⟨?_, by omega⟩
          apply UInt8.toNat_inj.1
          show s[o].toNat = 95
          have : (s[o].toNat : Int) = 95 := by simpa using hu
          omega
        clear h1 h2
        by_cases h3 : o + 32 < r
        · obtain rfl : u = false := by
            cases u with
            | false => rfl
            | true => exact absurd (hu2 rfl) (by omega)
          rw [if_pos h3] at hx1
          subst hx1
          have e4 : (32 : Int) < (r : Int) - o := by omega
          clear hu2 h3 hge
          go_enter Tryd.func39, Tryd.ntmps39
          go_wp2_with (first | (go_at_call 36; refine (HDC.out _).mono ?_; rintro e w' ⟨rfl, rfl⟩) | (go_at_call 52; refine (endName G _ o r s ts ns _ HWB.out.2 HWB.out.cells.1 (Nat.le_of_lt ho) HL.out.2 HR).mono ?_; rintro e w' ⟨rfl, rfl⟩))
          go_ret2
          exact ⟨rfl, HWB.out.2, HFA.out⟩
        · rw [if_neg h3] at hx1
          have e4 : ¬ (32 : Int) < (r : Int) - o := by omega
          obtain ⟨f, hf⟩ : ∃ f, Tk.fol ts o = f := ⟨_, rfl⟩
          rw [hf] at hx1
          have HFO := Lib.hid hf
          clear hf h3
          have hcase : ∃ v : Prop, (u = true ∧ ¬ (o : Int) + 1 < r) ∨ u = false := ⟨True, by cases u with
            | false => exact .inr rfl
            | true => exact .inl ⟨rfl, hu2 rfl⟩⟩
          have HU := Lib.hid hcase
          clear hcase hu2
          cases f with
          | true =>
            rw [if_pos rfl] at hx1
            subst hx1
            obtain ⟨_, ⟨rfl, e3⟩ | rfl⟩ := HU.out
            all_goals
              go_enter Tryd.func39, Tryd.ntmps39
              go_wp2_with (first | (go_at_call 36; refine (HDC.out _).mono ?_; rintro e w' ⟨rfl, rfl⟩) | (go_at_call 52; refine (endName G _ o r s ts ns _ HWB.out.2 HWB.out.cells.1 (Nat.le_of_lt ho) HL.out.2 HR).mono ?_; rintro e w' ⟨rfl, rfl⟩) | (go_at_call 57; refine (follows_any G o s ts ns true _ HWB.out.2 HL.out.1 HFO).mono ?_; rintro e w1 ⟨rfl, hb⟩; refine hold ?_))
              have hWB1 := HWB.out.keep hb
              have HF1 := Lib.hid (HFA.out.trans (Far.of_below (by have := HWB.out.2.lt; omega) hb))
              have HW1 := Lib.hid hWB1
              clear c0 c1 hb
              obtain ⟨c0, c1⟩ := hWB1.cells
              clear hWB1
              refine go_on ?_
              go_wp2
              go_ret2
              exact ⟨rfl, HW1.out.2, HF1.out⟩
          | false =>
            rw [if_neg (by decide)] at hx1
            subst hx1
            have HKD : Hid (Tk.wordKind (s.extract o r).data.toList = Tk.wordKind (Tk.ext s.data.toList o r)) := Lib.hid (by rw [ext_at])
            generalize Tk.wordKind (Tk.ext s.data.toList o r) = kd at HKD ⊢
            have hkd : kd ≤ 6 := by
              rw [← HKD.out]; unfold Tk.wordKind
              split
              · omega
              · split
                · omega
                · split <;> omega
            have HXS : Hid (0 < (s.extract o r).size) := Lib.hid (by rw [ByteArray.size_extract]; omega)
            have h1i : (o : Int) ≤ r := by omega
            have h2i : (r : Int) ≤ s.size := by omega
            obtain ⟨_, ⟨rfl, e3⟩ | rfl⟩ := HU.out
            all_goals
              go_enter Tryd.func39, Tryd.ntmps39
              go_wp2_with (first | (go_at_call 36; refine (HDC.out _).mono ?_; rintro e w' ⟨rfl, rfl⟩) | (go_at_call 52; refine (endName G _ o r s ts ns _ HWB.out.2 HWB.out.cells.1 (Nat.le_of_lt ho) HL.out.2 HR).mono ?_; rintro e w' ⟨rfl, rfl⟩) | (go_at_call 57; refine (follows_any G o s ts ns false _ HWB.out.2 HL.out.1 HFO).mono ?_; rintro e w1 ⟨rfl, hb⟩; refine hold ?_))
              have hWB1 := HWB.out.keep hb
              have HF1 := Lib.hid (HFA.out.trans (Far.of_below (by have := HWB.out.2.lt; omega) hb))
              have HW1 := Lib.hid hWB1
              clear c0 c1 hb
              obtain ⟨c0, c1⟩ := hWB1.cells
              clear hWB1
              refine go_on ?_
              go_wp2_with fail
              have c1' : w1.drew.cell? ⟨w.heap.size, 0, none⟩ = some (.pointer (some ⟨G, 0, none⟩)) ∧ w1.drew.cell? ⟨G, 0, none⟩ = some (.string s) := ⟨c0, c1⟩
              clear c0 c1
              refine region_plainX (S := fun W' => W'.cell? ⟨w.heap.size, 0, none⟩ = some (.pointer (some ⟨G, 0, none⟩)) ∧ W'.cell? ⟨G, 0, none⟩ = some (.string s)) (m := 99) (by kernel_rfl) ?_
              refine x_take0 (i := 0) (v := (.pointer (some ⟨G, 0, none⟩))) rfl rfl (by kernel_rfl) (by kernel_rfl) (by kernel_rfl) (fun _ _ _ h => h) (.inl ⟨by rfl, ?_⟩) c1' ?_
              · intro w hSw; (try dsimp only at hSw); obtain ⟨hs1, hs2⟩ := hSw; go_simp
              simp only [Act.put, List.setIfInBounds_toArray, List.set_cons_zero, List.set_cons_succ]
              refine x_take0 (i := 1) (v := (.pointer (some ⟨G, 0, none⟩))) rfl rfl (by kernel_rfl) (by kernel_rfl) (by kernel_rfl) (fun _ _ _ h => h) (.inl ⟨by rfl, ?_⟩) c1' ?_
              · intro w hSw; (try dsimp only at hSw); obtain ⟨hs1, hs2⟩ := hSw; go_simp
              simp only [Act.put, List.setIfInBounds_toArray, List.set_cons_zero, List.set_cons_succ]
              refine x_take0 (i := 2) (v := (.pointer (some ⟨G, 0, none⟩))) rfl rfl (by kernel_rfl) (by kernel_rfl) (by kernel_rfl) (fun _ _ _ h => h) (.inl ⟨by rfl, ?_⟩) c1' ?_
              · intro w hSw; (try dsimp only at hSw); obtain ⟨hs1, hs2⟩ := hSw; go_simp
              simp only [Act.put, List.setIfInBounds_toArray, List.set_cons_zero, List.set_cons_succ]
              refine x_take0 (i := 3) (v := (.pointer (some ⟨G, 0, none⟩))) rfl rfl (by kernel_rfl) (by kernel_rfl) (by kernel_rfl) (fun _ _ _ h => h) (.inl ⟨by rfl, ?_⟩) c1' ?_
              · intro w hSw; (try dsimp only at hSw); obtain ⟨hs1, hs2⟩ := hSw; go_simp
              simp only [Act.put, List.setIfInBounds_toArray, List.set_cons_zero, List.set_cons_succ]
              refine x_take0 (i := 4) (v := .string s) rfl rfl (by kernel_rfl) (by kernel_rfl) (by kernel_rfl) (fun _ _ _ h => h) (.inl ⟨by rfl, ?_⟩) c1' ?_
              · intro w hSw; (try dsimp only at hSw); obtain ⟨hs1, hs2⟩ := hSw; go_simp
              simp only [Act.put, List.setIfInBounds_toArray, List.set_cons_zero, List.set_cons_succ]
              refine x_take0 (i := 5) (v := .int .i64 o) rfl rfl (by kernel_rfl) (by kernel_rfl) (by kernel_rfl) (fun _ _ _ h => h) (.inl ⟨by rfl, ?_⟩) c1' ?_
              · intro w hSw; (try dsimp only at hSw); obtain ⟨hs1, hs2⟩ := hSw; go_simp
              simp only [Act.put, List.setIfInBounds_toArray, List.set_cons_zero, List.set_cons_succ]
              refine x_take0 (i := 6) (v := .int .i64 r) rfl rfl (by kernel_rfl) (by kernel_rfl) (by kernel_rfl) (fun _ _ _ h => h) (.inl ⟨by rfl, ?_⟩) c1' ?_
              · intro w hSw; (try dsimp only at hSw); obtain ⟨hs1, hs2⟩ := hSw; go_simp
              simp only [Act.put, List.setIfInBounds_toArray, List.set_cons_zero, List.set_cons_succ]
              refine x_take0 (i := 7) (v := .string (s.extract o r)) rfl rfl (by kernel_rfl) (by kernel_rfl) (by kernel_rfl) (fun _ _ _ h => h) (.inl ⟨by rfl, ?_⟩) c1' ?_
              · intro w hSw; (try dsimp only at hSw); obtain ⟨hs1, hs2⟩ := hSw; go_simp
              simp only [Act.put, List.setIfInBounds_toArray, List.set_cons_zero, List.set_cons_succ]
              refine x_take0 (i := 9) (v := .int .i64 o) rfl rfl (by kernel_rfl) (by kernel_rfl) (by kernel_rfl) (fun _ _ _ h => h) (.inl ⟨by rfl, ?_⟩) c1' ?_
              · intro w hSw; (try dsimp only at hSw); obtain ⟨hs1, hs2⟩ := hSw; go_simp
              simp only [Act.put, List.setIfInBounds_toArray, List.set_cons_zero, List.set_cons_succ]
              refine x_take0 (i := 10) (v := .int .i64 r) rfl rfl (by kernel_rfl) (by kernel_rfl) (by kernel_rfl) (fun _ _ _ h => h) (.inl ⟨by rfl, ?_⟩) c1' ?_
              · intro w hSw; (try dsimp only at hSw); obtain ⟨hs1, hs2⟩ := hSw; go_simp
              simp only [Act.put, List.setIfInBounds_toArray, List.set_cons_zero, List.set_cons_succ]
              refine x_one (i := 8) (by kernel_rfl) rfl (fun K' hK' => ?_)
              go_simp
              refine (wordKind_any _ kd _ HXS.out HKD).mono ?_
              rintro e w2 ⟨rfl, rfl⟩
              dsimp only
              refine hK'.out _ _ (fun _ => c1') ?_
              clear hK' K'
              refine x_one (i := 11) (by kernel_rfl) rfl (fun K' hK' => ?_)
              go_simp
              have hD : Below w1.heap.size w1 w1.drew := (Below.refl _ _).drew
              have hWD := HW1.out.keep hD
              have hGW := hWD.2.lt
              refine (add_any G kd o r s ts ns _ hWD.2 (Nat.le_of_lt hor) hle HL.out.2 hkd HL.out.1).mono ?_
              rintro e w3 ⟨rfl, hS3, hF3⟩
              have c3 : w3.cell? ⟨w.heap.size, 0, none⟩ = some (.pointer (some ⟨G, 0, none⟩)) ∧ w3.cell? ⟨G, 0, none⟩ = some (.string s) := by
                refine ⟨?_, ?_⟩
                · have hk := hF3.high w.heap.size (Array.getElem?_eq_some_iff.1 hWD.1).1 (by omega) (fun c f e => by rw [hWD.1] at e; cases e) (fun c f e => by rw [hWD.1] at e; cases e)
                  rw [cell_of_row _ _ _ _ _ _ (hk.trans hWD.1)]; rfl
                · obtain ⟨tv, nv, hs3⟩ := hS3
                  exact hs3.box.cell.1
              have HS3 := Lib.hid hS3
              have HF3 := Lib.hid (HF1.out.trans ((Far.of_below (by have := HW1.out.2.lt; omega) hD).trans hF3))
              dsimp only
              refine hK'.out _ _ (fun _ => c3) ?_
              clear hK' K' hF3 hS3 hWD hD c1'
              (try simp only [Act.put, List.setIfInBounds_toArray, List.set_cons_zero, List.set_cons_succ])
              refine x_take0 (i := 12) (oi := ⟨some 4, _, _, _, _, _⟩) (v := .int .i64 r) rfl rfl (by kernel_rfl) (by kernel_rfl) (by kernel_rfl) (fun _ _ _ h => h) (.inl ⟨by rfl, ?_⟩) c3 ?_
              · intro w hSw; go_simp
              (try simp only [Act.put, List.setIfInBounds_toArray, List.set_cons_zero, List.set_cons_succ])
              refine x_take0 (i := 13) (oi := ⟨some 5, _, _, _, _, _⟩) (v := .int .i64 0) rfl rfl (by kernel_rfl) (by kernel_rfl) (by kernel_rfl) (fun _ _ _ h => h) (.inl ⟨by rfl, ?_⟩) c3 ?_
              · intro w hSw; go_simp
              (try simp only [Act.put, List.setIfInBounds_toArray, List.set_cons_zero, List.set_cons_succ])
              refine x_done (by kernel_rfl) ?_ _
              go_wp2
              go_ret2
              exact ⟨rfl, HS3.out, HF3.out⟩

end Go.Proofs.YtpoddcegfhgdeaaDoor
