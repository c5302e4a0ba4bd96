/- What Excerpt and its closure do. -/
import Derived.Test.YtbhbjjkpbdplpaaW1
import Derived.Test.YtbhbjjkpbdplpaaBld
set_option linter.unusedVariables false
set_option linter.unusedSimpArgs false
namespace Go.Proofs.Ytbhbjjkpbdplpaa
open Go.RowKit

theorem continues_any (c : UInt8) (w : World) :
    Calls Try.prog 28 #[.int .u8 c.toNat] w fun e w' => e = .returned (.bool (Ex.isCont c)) ∧ w = w' := by
  have hc : (c.toNat : Int) < 256 := by have := c.toNat_lt; omega
  have hc0 : (0 : Int) ≤ c.toNat := by omega
  by_cases h1 : 128 ≤ c.toNat
  · have h1' : (128 : Int) ≤ c.toNat := by omega
    by_cases h2 : c.toNat ≤ 191
    · have h2' : (c.toNat : Int) ≤ 191 := by omega
      have HF : Hid (Ex.isCont c = true) := Lib.hid (by simp [Ex.isCont, h1, h2])
      clear h1 h2
      go_enter Try.func28, Try.ntmps28
      go_wp2
      go_ret
      exact ⟨by rw [HF.out]; rfl, rfl⟩
    · have h2' : ¬ (c.toNat : Int) ≤ 191 := by omega
      have HF : Hid (Ex.isCont c = false) := Lib.hid (by simp [Ex.isCont, h2])
      clear h1 h2
      go_enter Try.func28, Try.ntmps28
      go_wp2
      go_ret
      exact ⟨by rw [HF.out]; rfl, rfl⟩
  · have h1' : ¬ (128 : Int) ≤ c.toNat := by omega
    have hd : decide ((128 : Int) ≤ c.toNat) = false := by simpa using h1'
    have HF : Hid (Ex.isCont c = false) := Lib.hid (by simp [Ex.isCont, h1])
    clear h1
    go_enter Try.func28, Try.ntmps28
    go_wp2
    go_ret
    exact ⟨by rw [HF.out]; rfl, rfl⟩

theorem marginSign_any (c : UInt8) (w : World) :
    Calls Try.prog 29 #[.int .u8 c.toNat] w fun e w' => e = .returned (.int .u8 (Ex.sign c).toNat) ∧ w = w' := by
  by_cases h : c = 9
  · subst h
    go_enter Try.func29, Try.ntmps29
    go_wp2
    go_ret
    exact ⟨rfl, rfl⟩
  · have hb : ((c.toNat : Int) == 9) = false := by
      rw [beq_eq_false_iff_ne]
      intro e
      exact h (UInt8.toNat_inj.1 (by rw [show (9 : UInt8).toNat = 9 from rfl]; omega))
    have HF : Hid (Ex.sign c = 32) := Lib.hid (by simp [Ex.sign, h])
    clear h
    go_enter Try.func29, Try.ntmps29
    go_wp2
    go_ret
    exact ⟨by rw [HF.out]; rfl, rfl⟩

theorem caret_any (c : UInt8) (w : World) :
    Calls Try.prog 30 #[.int .u8 c.toNat] w fun e w' => e = .returned (.int .u8 (94 : UInt8).toNat) ∧ w = w' := by
  go_enter Try.func30, Try.ntmps30
  go_wp2
  go_ret
  exact ⟨rfl, rfl⟩

/-- The marks of a list of bytes. -/
def marks (g : UInt8 → UInt8) (l : List UInt8) : List UInt8 := (l.filter (fun b => !Ex.isCont b)).map g

theorem marks_snoc_cont (g : UInt8 → UInt8) (l : List UInt8) (c : UInt8) (h : Ex.isCont c = true) : marks g (l ++ [c]) = marks g l := by
  simp [marks, List.filter_append, List.filter_cons, h]

theorem marks_snoc (g : UInt8 → UInt8) (l : List UInt8) (c : UInt8) (h : Ex.isCont c = false) : marks g (l ++ [c]) = marks g l ++ [g c] := by
  simp [marks, List.filter_append, List.filter_cons, h]

theorem marks_length (g : UInt8 → UInt8) (l : List UInt8) : (marks g l).length ≤ l.length := by
  have := List.length_filter_le (fun b => !Ex.isCont b) l
  simp [marks]; exact this

/-- The bytes from a on, k of them. -/
def part (s : ByteArray) (a k : Nat) : List UInt8 := (s.data.toList.drop a).take k

theorem part_succ (s : ByteArray) (a k : Nat) (h : a + k < s.size) : part s a (k + 1) = part s a k ++ [s[a + k]] := by
  have h' : k < (s.data.toList.drop a).length := by rw [List.length_drop, Ex.size_len]; omega
  unfold part
  rw [List.take_add_one]
  congr 1
  rw [List.getElem?_drop, Ex.data_get s (a + k) h]
  have h2 : a + k < s.data.size := h
  rw [getElem!_pos s.data (a + k) h2]
  rfl

theorem part_length (s : ByteArray) (a k : Nat) : (part s a k).length ≤ k := List.length_take_le _ _

theorem byteCells_snoc (l : List UInt8) (c : UInt8) : Lib.byteCells l ++ [.int .u8 c.toNat] = Lib.byteCells (l ++ [c]) := by simp [Lib.byteCells]

set_option maxHeartbeats 1600000 in
theorem mark_margin (B Bs : Nat) (l : List UInt8) (s : ByteArray) (a b : Nat) (hab : a ≤ b) (hbs : b ≤ s.size) (hs : s.size ≤ 4000) (hl : l.length ≤ 10000) (w : World)
    (hB : Lib.IsBuilder 52 5 B B (Lib.byteCells l) w) (hsz : B < w.heap.size) (hBs : Bs < B) (hcs : w.cell? ⟨Bs, 0, none⟩ = some (.string s)) :
    Calls Try.prog 27 #[.int .i64 a, .int .i64 b, .func (.func 29) #[] #[], .pointer (some ⟨Bs, 0, none⟩), .pointer (some ⟨B, 0, none⟩)] w fun e w' =>
      e = .returned (.int .i64 (marks Ex.sign (part s a (b - a))).length) ∧ Lib.IsBuilder 52 5 B B (Lib.byteCells (l ++ marks Ex.sign (part s a (b - a)))) w' ∧ Below B w w' := by
  have hab' : (a : Int) ≤ b := by omega
  go_enter Try.func27, Try.ntmps27
  go_wp2
  go_loopw [9, 10, 11, 15] (fun c i x j wr => ∃ k n : Nat, k ≤ b - a ∧ j = .int .i64 k ∧ c = .int .i64 n ∧ n ≤ k ∧ Hid (n = (marks Ex.sign (part s a k)).length) ∧
      Hid (Lib.IsBuilder 52 5 B B (Lib.byteCells (l ++ marks Ex.sign (part s a k))) wr) ∧ Hid (Below B w wr)) (fun _ _ _ j _ => b - a - (intOf j).toNat)
  case atStart => exact ⟨0, 0, by omega, rfl, rfl, by omega, Lib.hid rfl, Lib.hid (by simpa [part, marks] using hB), Lib.hid (Below.refl _ _)⟩
  case round =>
    obtain ⟨k, n, hk, rfl, rfl, hn, HN, HB, HW⟩ := hrel
    have hc : wr.cell? ⟨Bs, 0, none⟩ = some (.string s) := (HW.out.cell (p := ⟨Bs, 0, none⟩) hBs).trans hcs
    have hsw : B ≤ wr.heap.size := by have := HW.out.size; omega
    by_cases hlt : k < b - a
    · have hks : a + k < s.size := by omega
      have hks' : (a : Int) + k < s.size := by omega
      have hlt' : (k : Int) < b - a := by omega
      have HP := Lib.hid (part_succ s a k hks)
      have hlen : (Lib.byteCells (l ++ marks Ex.sign (part s a k))).length + 1 ≤ 140737488355328 := by
        have h1 := marks_length Ex.sign (part s a k)
        have h2 := part_length s a k
        rw [Lib.byteCells_length, List.length_append]; omega
      by_cases hcont : Ex.isCont s[a + k] = true
      · have H1 := Lib.hid hcont
        have HM : Hid (marks Ex.sign (part s a (k + 1)) = marks Ex.sign (part s a k)) := Lib.hid (by rw [HP.out]; exact marks_snoc_cont _ _ _ hcont)
        clear hcont
        go_wp2_with fail
        refine (continues_any _ _).mono ?_
        rintro e w' ⟨rfl, rfl⟩
        rw [H1.out]
        go_wp2
        go_roundw
        case rel => exact ⟨k + 1, n, by omega, by go_num, rfl, by omega, Lib.hid (by rw [HM.out]; exact HN.out), Lib.hid (by rw [HM.out]; exact HB.out), HW⟩
        case measure => simp [intOf]; omega
      · have hcont' : Ex.isCont s[a + k] = false := by simpa using hcont
        have H1 := Lib.hid hcont'
        have HM : Hid (marks Ex.sign (part s a (k + 1)) = marks Ex.sign (part s a k) ++ [Ex.sign s[a + k]]) := Lib.hid (by rw [HP.out]; exact marks_snoc _ _ _ hcont')
        clear hcont hcont'
        go_wp2_with fail
        refine (continues_any _ _).mono ?_
        rintro e w' ⟨rfl, rfl⟩
        rw [H1.out]
        go_wp2_with fail
        refine (marginSign_any _ _).mono ?_
        rintro e w' ⟨rfl, rfl⟩
        go_wp2_with fail
        refine (WriteByte_any B B _ _ _ HB.out hlen hsw).mono ?_
        rintro e w2 ⟨rfl, hB2, hb2⟩
        have HB2 : Hid (Lib.IsBuilder 52 5 B B (Lib.byteCells (l ++ marks Ex.sign (part s a (k + 1)))) w2) := Lib.hid (by
          rw [HM.out, ← List.append_assoc, ← byteCells_snoc]; exact .inr hB2)
        have HW2 := Lib.hid (HW.out.trans hb2)
        clear hB2 hb2
        go_wp2
        go_roundw
        case rel => exact ⟨k + 1, n + 1, by omega, by go_num, by go_num, by omega, Lib.hid (by rw [HM.out, List.length_append, ← HN.out]; rfl), HB2, HW2⟩
        case measure => simp [intOf]; omega
    · have hke : k = b - a := by omega
      have HF : Hid ((n : Int) = (marks Ex.sign (part s a (b - a))).length) := Lib.hid (by rw [HN.out, hke])
      have HB' : Hid (Lib.IsBuilder 52 5 B B (Lib.byteCells (l ++ marks Ex.sign (part s a (b - a)))) wr) := Lib.hid (by rw [← hke]; exact HB.out)
      have hge : (b : Int) - a ≤ k := by omega
      clear hke
      go_wp2
      go_ret
      exact ⟨ret_int HF.out, HB'.out, HW.out⟩

set_option maxHeartbeats 1600000 in
theorem mark_caret (B Bs : Nat) (l : List UInt8) (s : ByteArray) (a b : Nat) (hab : a ≤ b) (hbs : b ≤ s.size) (hs : s.size ≤ 4000) (hl : l.length ≤ 10000) (w : World)
    (hB : Lib.IsBuilder 52 5 B B (Lib.byteCells l) w) (hsz : B < w.heap.size) (hBs : Bs < B) (hcs : w.cell? ⟨Bs, 0, none⟩ = some (.string s)) :
    Calls Try.prog 27 #[.int .i64 a, .int .i64 b, .func (.func 30) #[] #[], .pointer (some ⟨Bs, 0, none⟩), .pointer (some ⟨B, 0, none⟩)] w fun e w' =>
      e = .returned (.int .i64 (marks (fun _ => 94) (part s a (b - a))).length) ∧ Lib.IsBuilder 52 5 B B (Lib.byteCells (l ++ marks (fun _ => 94) (part s a (b - a)))) w' ∧ Below B w w' := by
  have hab' : (a : Int) ≤ b := by omega
  go_enter Try.func27, Try.ntmps27
  go_wp2
  go_loopw [9, 10, 11, 15] (fun c i x j wr => ∃ k n : Nat, k ≤ b - a ∧ j = .int .i64 k ∧ c = .int .i64 n ∧ n ≤ k ∧ Hid (n = (marks (fun _ => 94) (part s a k)).length) ∧
      Hid (Lib.IsBuilder 52 5 B B (Lib.byteCells (l ++ marks (fun _ => 94) (part s a k))) wr) ∧ Hid (Below B w wr)) (fun _ _ _ j _ => b - a - (intOf j).toNat)
  case atStart => exact ⟨0, 0, by omega, rfl, rfl, by omega, Lib.hid rfl, Lib.hid (by simpa [part, marks] using hB), Lib.hid (Below.refl _ _)⟩
  case round =>
    obtain ⟨k, n, hk, rfl, rfl, hn, HN, HB, HW⟩ := hrel
    have hc : wr.cell? ⟨Bs, 0, none⟩ = some (.string s) := (HW.out.cell (p := ⟨Bs, 0, none⟩) hBs).trans hcs
    have hsw : B ≤ wr.heap.size := by have := HW.out.size; omega
    by_cases hlt : k < b - a
    · have hks : a + k < s.size := by omega
      have hks' : (a : Int) + k < s.size := by omega
      have hlt' : (k : Int) < b - a := by omega
      have HP := Lib.hid (part_succ s a k hks)
      have hlen : (Lib.byteCells (l ++ marks (fun _ => 94) (part s a k))).length + 1 ≤ 140737488355328 := by
        have h1 := marks_length (fun _ => 94) (part s a k)
        have h2 := part_length s a k
        rw [Lib.byteCells_length, List.length_append]; omega
      by_cases hcont : Ex.isCont s[a + k] = true
      · have H1 := Lib.hid hcont
        have HM : Hid (marks (fun _ => 94) (part s a (k + 1)) = marks (fun _ => 94) (part s a k)) := Lib.hid (by rw [HP.out]; exact marks_snoc_cont _ _ _ hcont)
        clear hcont
        go_wp2_with fail
        refine (continues_any _ _).mono ?_
        rintro e w' ⟨rfl, rfl⟩
        rw [H1.out]
        go_wp2
        go_roundw
        case rel => exact ⟨k + 1, n, by omega, by go_num, rfl, by omega, Lib.hid (by rw [HM.out]; exact HN.out), Lib.hid (by rw [HM.out]; exact HB.out), HW⟩
        case measure => simp [intOf]; omega
      · have hcont' : Ex.isCont s[a + k] = false := by simpa using hcont
        have H1 := Lib.hid hcont'
        have HM : Hid (marks (fun _ => 94) (part s a (k + 1)) = marks (fun _ => 94) (part s a k) ++ [(fun _ => 94) s[a + k]]) := Lib.hid (by rw [HP.out]; exact marks_snoc _ _ _ hcont')
        clear hcont hcont'
        go_wp2_with fail
        refine (continues_any _ _).mono ?_
        rintro e w' ⟨rfl, rfl⟩
        rw [H1.out]
        go_wp2_with fail
        refine (caret_any _ _).mono ?_
        rintro e w' ⟨rfl, rfl⟩
        go_wp2_with fail
        refine (WriteByte_any B B _ _ _ HB.out hlen hsw).mono ?_
        rintro e w2 ⟨rfl, hB2, hb2⟩
        have HB2 : Hid (Lib.IsBuilder 52 5 B B (Lib.byteCells (l ++ marks (fun _ => 94) (part s a (k + 1)))) w2) := Lib.hid (by
          rw [HM.out, ← List.append_assoc, ← byteCells_snoc]; exact .inr hB2)
        have HW2 := Lib.hid (HW.out.trans hb2)
        clear hB2 hb2
        go_wp2
        go_roundw
        case rel => exact ⟨k + 1, n + 1, by omega, by go_num, by go_num, by omega, Lib.hid (by rw [HM.out, List.length_append, ← HN.out]; rfl), HB2, HW2⟩
        case measure => simp [intOf]; omega
    · have hke : k = b - a := by omega
      have HF : Hid ((n : Int) = (marks (fun _ => 94) (part s a (b - a))).length) := Lib.hid (by rw [HN.out, hke])
      have HB' : Hid (Lib.IsBuilder 52 5 B B (Lib.byteCells (l ++ marks (fun _ => 94) (part s a (b - a)))) wr) := Lib.hid (by rw [← hke]; exact HB.out)
      have hge : (b : Int) - a ≤ k := by omega
      clear hke
      go_wp2
      go_ret
      exact ⟨ret_int HF.out, HB'.out, HW.out⟩

end Go.Proofs.Ytbhbjjkpbdplpaa
