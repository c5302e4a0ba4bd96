/- What the part for signs does. -/
import Derived.Test.YtpoddcegfhgdeaaDoorY9
set_option linter.unusedVariables false
set_option linter.unusedSimpArgs false
namespace Go.Proofs.YtpoddcegfhgdeaaDoor
open Go.RowKit

theorem run_index_arr {P : Program} (w : World) (t e : TypeId) (n : Nat) (cs : Array Value) (i : Int) (j : Nat) (v : Value) (h : P.underlying t = some (.array n e)) (ha : ∀ w, (isAgg e).run P w = .ok false w) (hs : ∀ w, (Go.sizeOf e).run P w = .ok 1 w) (hi : i < n) (hj : i = j) (hv : cs[j]? = some v) :
    (Instr.index t (.agg cs) (.int .i64 i)).run P w = .ok v w := by
  subst hj
  have hin : (0 ≤ (j : Int) ∧ (j : Int) < (n : Int)) := by omega
  have hjn : j < n := by omega
  simp [Instr.index, run_underlying h, asIntOf, hin, go_sem, Go.part, ha, hs, Sem.run_bind, hv, hjn]

theorem prefix_len (p l : List UInt8) (h : p.isPrefixOf l = true) : p.length ≤ l.length := by
  rw [List.isPrefixOf_iff_prefix] at h
  exact h.length_le

set_option maxRecDepth 100000 in
set_option maxHeartbeats 51200000 in
theorem addSign_any (G o : Nat) (s : ByteArray) (ts : List Tk.Tok) (ns : List (Nat × Nat)) (x : Option Tk.St) (w : World) (h : SS w G s ts ns) (ho : o < s.size) (hs : s.size ≤ 70000) (hl : ts.length ≤ 70000) (hx : Hid (Tk.signF s.data.toList o = x)) :
    Calls Tryd.prog 41 #[.pointer (some ⟨G, 0, none⟩), .int .i64 o] w (Part x G o s ts ns w) := by
  have hoi : (o : Int) ≤ s.size := by omega
  have HS := Lib.hid h
  have HL := Lib.hid (And.intro hl hs)
  have hF0 : Far G w w := Far.refl (Nat.le_of_lt h.lt)
  have HF0 := Lib.hid hF0
  obtain ⟨c0, c1⟩ : w.cell? ⟨G, 0, none⟩ = some (.string s) ∧ True := by
    obtain ⟨tv, nv, h⟩ := h
    exact ⟨h.box.cell.1, trivial⟩
  have HLEN : Hid (∀ p : List UInt8, p.isPrefixOf (s.data.toList.drop o) = true → o + p.length ≤ s.size) := Lib.hid fun p hp => by
    have := prefix_len _ _ hp
    rw [List.length_drop, ← Lib.size_eq] at this
    omega
  clear h hl hF0 c1
  go_enter Tryd.func41, Tryd.ntmps41
  go_wp2
  go_loop [9] (fun i => ∃ k : Nat, k ≤ 15 ∧ i = .int .i64 k ∧ Hid ((Tk.signs.drop k).find? (fun p => p.isPrefixOf (s.data.toList.drop o)) = Tk.signs.find? (fun p => p.isPrefixOf (s.data.toList.drop o)))) (fun i => 15 - (intOf i).toNat)
  case atStart => exact ⟨0, Nat.zero_le _, rfl, Lib.hid rfl⟩
  case round =>
    obtain ⟨k, hk, rfl, HFI⟩ := hrel
    have hkk : k = 0 ∨ k = 1 ∨ k = 2 ∨ k = 3 ∨ k = 4 ∨ k = 5 ∨ k = 6 ∨ k = 7 ∨ k = 8 ∨ k = 9 ∨ k = 10 ∨ k = 11 ∨ k = 12 ∨ k = 13 ∨ k = 14 ∨ k = 15 := by omega
    clear hk
    rcases hkk with rfl | rfl | rfl | rfl | rfl | rfl | rfl | rfl | rfl | rfl | rfl | rfl | rfl | rfl | rfl | rfl
    · obtain ⟨b, hb⟩ : ∃ b, ([45, 62] : List UInt8).isPrefixOf (s.data.toList.drop o) = b := ⟨_, rfl⟩
      have HP : Hid ((⟨#[45, 62]⟩ : ByteArray).data.toList.isPrefixOf (s.data.toList.drop o) = b) := Lib.hid hb
      have hnx : ∀ W : World, (Instr.index 92 (.agg #[.string ⟨#[45, 62]⟩, .string ⟨#[60, 61]⟩, .string ⟨#[61, 61]⟩, .string ⟨#[40]⟩, .string ⟨#[41]⟩, .string ⟨#[44]⟩, .string ⟨#[124]⟩, .string ⟨#[61]⟩, .string ⟨#[58]⟩, .string ⟨#[60]⟩, .string ⟨#[43]⟩, .string ⟨#[45]⟩, .string ⟨#[42]⟩, .string ⟨#[47]⟩, .string ⟨#[37]⟩]) (.int .i64 0)).run Tryd.prog W = .ok (.string ⟨#[45, 62]⟩) W := fun W => run_index_arr W _ _ _ _ _ 0 _ Tryd.underlying92 Tryd.isAgg9 Tryd.sizeOf9 (by decide) rfl rfl
      have hfi := HFI.out
      rw [show Tk.signs.drop 0 = [45, 62] :: Tk.signs.drop 1 from rfl, List.find?_cons, hb] at hfi
      cases b with
      | true =>
        obtain ⟨r, hr⟩ : ∃ r, o + 2 = r := ⟨_, rfl⟩
        have hle := HLEN.out _ hb
        have hle2 : r ≤ s.size := by rw [← hr]; exact hle
        have hd1 : (o : Int) + 2 = r := by omega
        have hxx : x = some (.tok 4 r) := by
          rw [← hx.out]; unfold Tk.signF; rw [← hfi, ← hr]; rfl
        subst hxx
        have hor : o ≤ r := by omega
        clear hr hb hfi hle HFI hx
        go_wp2_with (first | (go_at_call 54; refine (prefixAt s _ o true _ (Nat.le_of_lt ho) HP).mono ?_; rintro e w' ⟨rfl, rfl⟩) | fail)
        refine (add_any G 4 o r s ts ns _ HS.out hor hle2 HL.out.2 (by omega) HL.out.1).mono ?_
        rintro e w3 ⟨rfl, hS3, hF3⟩
        have HS3 := Lib.hid hS3
        have HF3 := Lib.hid hF3
        clear hS3 hF3
        go_wp2
        go_ret2
        exact ⟨rfl, HS3.out, HF3.out⟩
      | false =>
        have HFI2 := Lib.hid hfi
        clear hb hfi HFI
        go_wp2_with (first | (go_at_call 54; refine (prefixAt s _ o false _ (Nat.le_of_lt ho) HP).mono ?_; rintro e w' ⟨rfl, rfl⟩) | fail)
        go_round
        case rel => exact ⟨1, by omega, by go_num, HFI2⟩
        case measure => simp [intOf]
    · obtain ⟨b, hb⟩ : ∃ b, ([60, 61] : List UInt8).isPrefixOf (s.data.toList.drop o) = b := ⟨_, rfl⟩
      have HP : Hid ((⟨#[60, 61]⟩ : ByteArray).data.toList.isPrefixOf (s.data.toList.drop o) = b) := Lib.hid hb
      have hnx : ∀ W : World, (Instr.index 92 (.agg #[.string ⟨#[45, 62]⟩, .string ⟨#[60, 61]⟩, .string ⟨#[61, 61]⟩, .string ⟨#[40]⟩, .string ⟨#[41]⟩, .string ⟨#[44]⟩, .string ⟨#[124]⟩, .string ⟨#[61]⟩, .string ⟨#[58]⟩, .string ⟨#[60]⟩, .string ⟨#[43]⟩, .string ⟨#[45]⟩, .string ⟨#[42]⟩, .string ⟨#[47]⟩, .string ⟨#[37]⟩]) (.int .i64 1)).run Tryd.prog W = .ok (.string ⟨#[60, 61]⟩) W := fun W => run_index_arr W _ _ _ _ _ 1 _ Tryd.underlying92 Tryd.isAgg9 Tryd.sizeOf9 (by decide) rfl rfl
      have hfi := HFI.out
      rw [show Tk.signs.drop 1 = [60, 61] :: Tk.signs.drop 2 from rfl, List.find?_cons, hb] at hfi
      cases b with
      | true =>
        obtain ⟨r, hr⟩ : ∃ r, o + 2 = r := ⟨_, rfl⟩
        have hle := HLEN.out _ hb
        have hle2 : r ≤ s.size := by rw [← hr]; exact hle
        have hd1 : (o : Int) + 2 = r := by omega
        have hxx : x = some (.tok 4 r) := by
          rw [← hx.out]; unfold Tk.signF; rw [← hfi, ← hr]; rfl
        subst hxx
        have hor : o ≤ r := by omega
        clear hr hb hfi hle HFI hx
        go_wp2_with (first | (go_at_call 54; refine (prefixAt s _ o true _ (Nat.le_of_lt ho) HP).mono ?_; rintro e w' ⟨rfl, rfl⟩) | fail)
        refine (add_any G 4 o r s ts ns _ HS.out hor hle2 HL.out.2 (by omega) HL.out.1).mono ?_
        rintro e w3 ⟨rfl, hS3, hF3⟩
        have HS3 := Lib.hid hS3
        have HF3 := Lib.hid hF3
        clear hS3 hF3
        go_wp2
        go_ret2
        exact ⟨rfl, HS3.out, HF3.out⟩
      | false =>
        have HFI2 := Lib.hid hfi
        clear hb hfi HFI
        go_wp2_with (first | (go_at_call 54; refine (prefixAt s _ o false _ (Nat.le_of_lt ho) HP).mono ?_; rintro e w' ⟨rfl, rfl⟩) | fail)
        go_round
        case rel => exact ⟨2, by omega, by go_num, HFI2⟩
        case measure => simp [intOf]
    · obtain ⟨b, hb⟩ : ∃ b, ([61, 61] : List UInt8).isPrefixOf (s.data.toList.drop o) = b := ⟨_, rfl⟩
      have HP : Hid ((⟨#[61, 61]⟩ : ByteArray).data.toList.isPrefixOf (s.data.toList.drop o) = b) := Lib.hid hb
      have hnx : ∀ W : World, (Instr.index 92 (.agg #[.string ⟨#[45, 62]⟩, .string ⟨#[60, 61]⟩, .string ⟨#[61, 61]⟩, .string ⟨#[40]⟩, .string ⟨#[41]⟩, .string ⟨#[44]⟩, .string ⟨#[124]⟩, .string ⟨#[61]⟩, .string ⟨#[58]⟩, .string ⟨#[60]⟩, .string ⟨#[43]⟩, .string ⟨#[45]⟩, .string ⟨#[42]⟩, .string ⟨#[47]⟩, .string ⟨#[37]⟩]) (.int .i64 2)).run Tryd.prog W = .ok (.string ⟨#[61, 61]⟩) W := fun W => run_index_arr W _ _ _ _ _ 2 _ Tryd.underlying92 Tryd.isAgg9 Tryd.sizeOf9 (by decide) rfl rfl
      have hfi := HFI.out
      rw [show Tk.signs.drop 2 = [61, 61] :: Tk.signs.drop 3 from rfl, List.find?_cons, hb] at hfi
      cases b with
      | true =>
        obtain ⟨r, hr⟩ : ∃ r, o + 2 = r := ⟨_, rfl⟩
        have hle := HLEN.out _ hb
        have hle2 : r ≤ s.size := by rw [← hr]; exact hle
        have hd1 : (o : Int) + 2 = r := by omega
        have hxx : x = some (.tok 4 r) := by
          rw [← hx.out]; unfold Tk.signF; rw [← hfi, ← hr]; rfl
        subst hxx
        have hor : o ≤ r := by omega
        clear hr hb hfi hle HFI hx
        go_wp2_with (first | (go_at_call 54; refine (prefixAt s _ o true _ (Nat.le_of_lt ho) HP).mono ?_; rintro e w' ⟨rfl, rfl⟩) | fail)
        refine (add_any G 4 o r s ts ns _ HS.out hor hle2 HL.out.2 (by omega) HL.out.1).mono ?_
        rintro e w3 ⟨rfl, hS3, hF3⟩
        have HS3 := Lib.hid hS3
        have HF3 := Lib.hid hF3
        clear hS3 hF3
        go_wp2
        go_ret2
        exact ⟨rfl, HS3.out, HF3.out⟩
      | false =>
        have HFI2 := Lib.hid hfi
        clear hb hfi HFI
        go_wp2_with (first | (go_at_call 54; refine (prefixAt s _ o false _ (Nat.le_of_lt ho) HP).mono ?_; rintro e w' ⟨rfl, rfl⟩) | fail)
        go_round
        case rel => exact ⟨3, by omega, by go_num, HFI2⟩
        case measure => simp [intOf]
    · obtain ⟨b, hb⟩ : ∃ b, ([40] : List UInt8).isPrefixOf (s.data.toList.drop o) = b := ⟨_, rfl⟩
      have HP : Hid ((⟨#[40]⟩ : ByteArray).data.toList.isPrefixOf (s.data.toList.drop o) = b) := Lib.hid hb
      have hnx : ∀ W : World, (Instr.index 92 (.agg #[.string ⟨#[45, 62]⟩, .string ⟨#[60, 61]⟩, .string ⟨#[61, 61]⟩, .string ⟨#[40]⟩, .string ⟨#[41]⟩, .string ⟨#[44]⟩, .string ⟨#[124]⟩, .string ⟨#[61]⟩, .string ⟨#[58]⟩, .string ⟨#[60]⟩, .string ⟨#[43]⟩, .string ⟨#[45]⟩, .string ⟨#[42]⟩, .string ⟨#[47]⟩, .string ⟨#[37]⟩]) (.int .i64 3)).run Tryd.prog W = .ok (.string ⟨#[40]⟩) W := fun W => run_index_arr W _ _ _ _ _ 3 _ Tryd.underlying92 Tryd.isAgg9 Tryd.sizeOf9 (by decide) rfl rfl
      have hfi := HFI.out
      rw [show Tk.signs.drop 3 = [40] :: Tk.signs.drop 4 from rfl, List.find?_cons, hb] at hfi
      cases b with
      | true =>
        obtain ⟨r, hr⟩ : ∃ r, o + 1 = r := ⟨_, rfl⟩
        have hle := HLEN.out _ hb
        have hle2 : r ≤ s.size := by rw [← hr]; exact hle
        have hd1 : (o : Int) + 1 = r := by omega
        have hxx : x = some (.tok 4 r) := by
          rw [← hx.out]; unfold Tk.signF; rw [← hfi, ← hr]; rfl
        subst hxx
        have hor : o ≤ r := by omega
        clear hr hb hfi hle HFI hx
        go_wp2_with (first | (go_at_call 54; refine (prefixAt s _ o true _ (Nat.le_of_lt ho) HP).mono ?_; rintro e w' ⟨rfl, rfl⟩) | fail)
        refine (add_any G 4 o r s ts ns _ HS.out hor hle2 HL.out.2 (by omega) HL.out.1).mono ?_
        rintro e w3 ⟨rfl, hS3, hF3⟩
        have HS3 := Lib.hid hS3
        have HF3 := Lib.hid hF3
        clear hS3 hF3
        go_wp2
        go_ret2
        exact ⟨rfl, HS3.out, HF3.out⟩
      | false =>
        have HFI2 := Lib.hid hfi
        clear hb hfi HFI
        go_wp2_with (first | (go_at_call 54; refine (prefixAt s _ o false _ (Nat.le_of_lt ho) HP).mono ?_; rintro e w' ⟨rfl, rfl⟩) | fail)
        go_round
        case rel => exact ⟨4, by omega, by go_num, HFI2⟩
        case measure => simp [intOf]
    · obtain ⟨b, hb⟩ : ∃ b, ([41] : List UInt8).isPrefixOf (s.data.toList.drop o) = b := ⟨_, rfl⟩
      have HP : Hid ((⟨#[41]⟩ : ByteArray).data.toList.isPrefixOf (s.data.toList.drop o) = b) := Lib.hid hb
      have hnx : ∀ W : World, (Instr.index 92 (.agg #[.string ⟨#[45, 62]⟩, .string ⟨#[60, 61]⟩, .string ⟨#[61, 61]⟩, .string ⟨#[40]⟩, .string ⟨#[41]⟩, .string ⟨#[44]⟩, .string ⟨#[124]⟩, .string ⟨#[61]⟩, .string ⟨#[58]⟩, .string ⟨#[60]⟩, .string ⟨#[43]⟩, .string ⟨#[45]⟩, .string ⟨#[42]⟩, .string ⟨#[47]⟩, .string ⟨#[37]⟩]) (.int .i64 4)).run Tryd.prog W = .ok (.string ⟨#[41]⟩) W := fun W => run_index_arr W _ _ _ _ _ 4 _ Tryd.underlying92 Tryd.isAgg9 Tryd.sizeOf9 (by decide) rfl rfl
      have hfi := HFI.out
      rw [show Tk.signs.drop 4 = [41] :: Tk.signs.drop 5 from rfl, List.find?_cons, hb] at hfi
      cases b with
      | true =>
        obtain ⟨r, hr⟩ : ∃ r, o + 1 = r := ⟨_, rfl⟩
        have hle := HLEN.out _ hb
        have hle2 : r ≤ s.size := by rw [← hr]; exact hle
        have hd1 : (o : Int) + 1 = r := by omega
        have hxx : x = some (.tok 4 r) := by
          rw [← hx.out]; unfold Tk.signF; rw [← hfi, ← hr]; rfl
        subst hxx
        have hor : o ≤ r := by omega
        clear hr hb hfi hle HFI hx
        go_wp2_with (first | (go_at_call 54; refine (prefixAt s _ o true _ (Nat.le_of_lt ho) HP).mono ?_; rintro e w' ⟨rfl, rfl⟩) | fail)
        refine (add_any G 4 o r s ts ns _ HS.out hor hle2 HL.out.2 (by omega) HL.out.1).mono ?_
        rintro e w3 ⟨rfl, hS3, hF3⟩
        have HS3 := Lib.hid hS3
        have HF3 := Lib.hid hF3
        clear hS3 hF3
        go_wp2
        go_ret2
        exact ⟨rfl, HS3.out, HF3.out⟩
      | false =>
        have HFI2 := Lib.hid hfi
        clear hb hfi HFI
        go_wp2_with (first | (go_at_call 54; refine (prefixAt s _ o false _ (Nat.le_of_lt ho) HP).mono ?_; rintro e w' ⟨rfl, rfl⟩) | fail)
        go_round
        case rel => exact ⟨5, by omega, by go_num, HFI2⟩
        case measure => simp [intOf]
    · obtain ⟨b, hb⟩ : ∃ b, ([44] : List UInt8).isPrefixOf (s.data.toList.drop o) = b := ⟨_, rfl⟩
      have HP : Hid ((⟨#[44]⟩ : ByteArray).data.toList.isPrefixOf (s.data.toList.drop o) = b) := Lib.hid hb
      have hnx : ∀ W : World, (Instr.index 92 (.agg #[.string ⟨#[45, 62]⟩, .string ⟨#[60, 61]⟩, .string ⟨#[61, 61]⟩, .string ⟨#[40]⟩, .string ⟨#[41]⟩, .string ⟨#[44]⟩, .string ⟨#[124]⟩, .string ⟨#[61]⟩, .string ⟨#[58]⟩, .string ⟨#[60]⟩, .string ⟨#[43]⟩, .string ⟨#[45]⟩, .string ⟨#[42]⟩, .string ⟨#[47]⟩, .string ⟨#[37]⟩]) (.int .i64 5)).run Tryd.prog W = .ok (.string ⟨#[44]⟩) W := fun W => run_index_arr W _ _ _ _ _ 5 _ Tryd.underlying92 Tryd.isAgg9 Tryd.sizeOf9 (by decide) rfl rfl
      have hfi := HFI.out
      rw [show Tk.signs.drop 5 = [44] :: Tk.signs.drop 6 from rfl, List.find?_cons, hb] at hfi
      cases b with
      | true =>
        obtain ⟨r, hr⟩ : ∃ r, o + 1 = r := ⟨_, rfl⟩
        have hle := HLEN.out _ hb
        have hle2 : r ≤ s.size := by rw [← hr]; exact hle
        have hd1 : (o : Int) + 1 = r := by omega
        have hxx : x = some (.tok 4 r) := by
          rw [← hx.out]; unfold Tk.signF; rw [← hfi, ← hr]; rfl
        subst hxx
        have hor : o ≤ r := by omega
        clear hr hb hfi hle HFI hx
        go_wp2_with (first | (go_at_call 54; refine (prefixAt s _ o true _ (Nat.le_of_lt ho) HP).mono ?_; rintro e w' ⟨rfl, rfl⟩) | fail)
        refine (add_any G 4 o r s ts ns _ HS.out hor hle2 HL.out.2 (by omega) HL.out.1).mono ?_
        rintro e w3 ⟨rfl, hS3, hF3⟩
        have HS3 := Lib.hid hS3
        have HF3 := Lib.hid hF3
        clear hS3 hF3
        go_wp2
        go_ret2
        exact ⟨rfl, HS3.out, HF3.out⟩
      | false =>
        have HFI2 := Lib.hid hfi
        clear hb hfi HFI
        go_wp2_with (first | (go_at_call 54; refine (prefixAt s _ o false _ (Nat.le_of_lt ho) HP).mono ?_; rintro e w' ⟨rfl, rfl⟩) | fail)
        go_round
        case rel => exact ⟨6, by omega, by go_num, HFI2⟩
        case measure => simp [intOf]
    · obtain ⟨b, hb⟩ : ∃ b, ([124] : List UInt8).isPrefixOf (s.data.toList.drop o) = b := ⟨_, rfl⟩
      have HP : Hid ((⟨#[124]⟩ : ByteArray).data.toList.isPrefixOf (s.data.toList.drop o) = b) := Lib.hid hb
      have hnx : ∀ W : World, (Instr.index 92 (.agg #[.string ⟨#[45, 62]⟩, .string ⟨#[60, 61]⟩, .string ⟨#[61, 61]⟩, .string ⟨#[40]⟩, .string ⟨#[41]⟩, .string ⟨#[44]⟩, .string ⟨#[124]⟩, .string ⟨#[61]⟩, .string ⟨#[58]⟩, .string ⟨#[60]⟩, .string ⟨#[43]⟩, .string ⟨#[45]⟩, .string ⟨#[42]⟩, .string ⟨#[47]⟩, .string ⟨#[37]⟩]) (.int .i64 6)).run Tryd.prog W = .ok (.string ⟨#[124]⟩) W := fun W => run_index_arr W _ _ _ _ _ 6 _ Tryd.underlying92 Tryd.isAgg9 Tryd.sizeOf9 (by decide) rfl rfl
      have hfi := HFI.out
      rw [show Tk.signs.drop 6 = [124] :: Tk.signs.drop 7 from rfl, List.find?_cons, hb] at hfi
      cases b with
      | true =>
        obtain ⟨r, hr⟩ : ∃ r, o + 1 = r := ⟨_, rfl⟩
        have hle := HLEN.out _ hb
        have hle2 : r ≤ s.size := by rw [← hr]; exact hle
        have hd1 : (o : Int) + 1 = r := by omega
        have hxx : x = some (.tok 4 r) := by
          rw [← hx.out]; unfold Tk.signF; rw [← hfi, ← hr]; rfl
        subst hxx
        have hor : o ≤ r := by omega
        clear hr hb hfi hle HFI hx
        go_wp2_with (first | (go_at_call 54; refine (prefixAt s _ o true _ (Nat.le_of_lt ho) HP).mono ?_; rintro e w' ⟨rfl, rfl⟩) | fail)
        refine (add_any G 4 o r s ts ns _ HS.out hor hle2 HL.out.2 (by omega) HL.out.1).mono ?_
        rintro e w3 ⟨rfl, hS3, hF3⟩
        have HS3 := Lib.hid hS3
        have HF3 := Lib.hid hF3
        clear hS3 hF3
        go_wp2
        go_ret2
        exact ⟨rfl, HS3.out, HF3.out⟩
      | false =>
        have HFI2 := Lib.hid hfi
        clear hb hfi HFI
        go_wp2_with (first | (go_at_call 54; refine (prefixAt s _ o false _ (Nat.le_of_lt ho) HP).mono ?_; rintro e w' ⟨rfl, rfl⟩) | fail)
        go_round
        case rel => exact ⟨7, by omega, by go_num, HFI2⟩
        case measure => simp [intOf]
    · obtain ⟨b, hb⟩ : ∃ b, ([61] : List UInt8).isPrefixOf (s.data.toList.drop o) = b := ⟨_, rfl⟩
      have HP : Hid ((⟨#[61]⟩ : ByteArray).data.toList.isPrefixOf (s.data.toList.drop o) = b) := Lib.hid hb
      have hnx : ∀ W : World, (Instr.index 92 (.agg #[.string ⟨#[45, 62]⟩, .string ⟨#[60, 61]⟩, .string ⟨#[61, 61]⟩, .string ⟨#[40]⟩, .string ⟨#[41]⟩, .string ⟨#[44]⟩, .string ⟨#[124]⟩, .string ⟨#[61]⟩, .string ⟨#[58]⟩, .string ⟨#[60]⟩, .string ⟨#[43]⟩, .string ⟨#[45]⟩, .string ⟨#[42]⟩, .string ⟨#[47]⟩, .string ⟨#[37]⟩]) (.int .i64 7)).run Tryd.prog W = .ok (.string ⟨#[61]⟩) W := fun W => run_index_arr W _ _ _ _ _ 7 _ Tryd.underlying92 Tryd.isAgg9 Tryd.sizeOf9 (by decide) rfl rfl
      have hfi := HFI.out
      rw [show Tk.signs.drop 7 = [61] :: Tk.signs.drop 8 from rfl, List.find?_cons, hb] at hfi
      cases b with
      | true =>
        obtain ⟨r, hr⟩ : ∃ r, o + 1 = r := ⟨_, rfl⟩
        have hle := HLEN.out _ hb
        have hle2 : r ≤ s.size := by rw [← hr]; exact hle
        have hd1 : (o : Int) + 1 = r := by omega
        have hxx : x = some (.tok 4 r) := by
          rw [← hx.out]; unfold Tk.signF; rw [← hfi, ← hr]; rfl
        subst hxx
        have hor : o ≤ r := by omega
        clear hr hb hfi hle HFI hx
        go_wp2_with (first | (go_at_call 54; refine (prefixAt s _ o true _ (Nat.le_of_lt ho) HP).mono ?_; rintro e w' ⟨rfl, rfl⟩) | fail)
        refine (add_any G 4 o r s ts ns _ HS.out hor hle2 HL.out.2 (by omega) HL.out.1).mono ?_
        rintro e w3 ⟨rfl, hS3, hF3⟩
        have HS3 := Lib.hid hS3
        have HF3 := Lib.hid hF3
        clear hS3 hF3
        go_wp2
        go_ret2
        exact ⟨rfl, HS3.out, HF3.out⟩
      | false =>
        have HFI2 := Lib.hid hfi
        clear hb hfi HFI
        go_wp2_with (first | (go_at_call 54; refine (prefixAt s _ o false _ (Nat.le_of_lt ho) HP).mono ?_; rintro e w' ⟨rfl, rfl⟩) | fail)
        go_round
        case rel => exact ⟨8, by omega, by go_num, HFI2⟩
        case measure => simp [intOf]
    · obtain ⟨b, hb⟩ : ∃ b, ([58] : List UInt8).isPrefixOf (s.data.toList.drop o) = b := ⟨_, rfl⟩
      have HP : Hid ((⟨#[58]⟩ : ByteArray).data.toList.isPrefixOf (s.data.toList.drop o) = b) := Lib.hid hb
      have hnx : ∀ W : World, (Instr.index 92 (.agg #[.string ⟨#[45, 62]⟩, .string ⟨#[60, 61]⟩, .string ⟨#[61, 61]⟩, .string ⟨#[40]⟩, .string ⟨#[41]⟩, .string ⟨#[44]⟩, .string ⟨#[124]⟩, .string ⟨#[61]⟩, .string ⟨#[58]⟩, .string ⟨#[60]⟩, .string ⟨#[43]⟩, .string ⟨#[45]⟩, .string ⟨#[42]⟩, .string ⟨#[47]⟩, .string ⟨#[37]⟩]) (.int .i64 8)).run Tryd.prog W = .ok (.string ⟨#[58]⟩) W := fun W => run_index_arr W _ _ _ _ _ 8 _ Tryd.underlying92 Tryd.isAgg9 Tryd.sizeOf9 (by decide) rfl rfl
      have hfi := HFI.out
      rw [show Tk.signs.drop 8 = [58] :: Tk.signs.drop 9 from rfl, List.find?_cons, hb] at hfi
      cases b with
      | true =>
        obtain ⟨r, hr⟩ : ∃ r, o + 1 = r := ⟨_, rfl⟩
        have hle := HLEN.out _ hb
        have hle2 : r ≤ s.size := by rw [← hr]; exact hle
        have hd1 : (o : Int) + 1 = r := by omega
        have hxx : x = some (.tok 4 r) := by
          rw [← hx.out]; unfold Tk.signF; rw [← hfi, ← hr]; rfl
        subst hxx
        have hor : o ≤ r := by omega
        clear hr hb hfi hle HFI hx
        go_wp2_with (first | (go_at_call 54; refine (prefixAt s _ o true _ (Nat.le_of_lt ho) HP).mono ?_; rintro e w' ⟨rfl, rfl⟩) | fail)
        refine (add_any G 4 o r s ts ns _ HS.out hor hle2 HL.out.2 (by omega) HL.out.1).mono ?_
        rintro e w3 ⟨rfl, hS3, hF3⟩
        have HS3 := Lib.hid hS3
        have HF3 := Lib.hid hF3
        clear hS3 hF3
        go_wp2
        go_ret2
        exact ⟨rfl, HS3.out, HF3.out⟩
      | false =>
        have HFI2 := Lib.hid hfi
        clear hb hfi HFI
        go_wp2_with (first | (go_at_call 54; refine (prefixAt s _ o false _ (Nat.le_of_lt ho) HP).mono ?_; rintro e w' ⟨rfl, rfl⟩) | fail)
        go_round
        case rel => exact ⟨9, by omega, by go_num, HFI2⟩
        case measure => simp [intOf]
    · obtain ⟨b, hb⟩ : ∃ b, ([60] : List UInt8).isPrefixOf (s.data.toList.drop o) = b := ⟨_, rfl⟩
      have HP : Hid ((⟨#[60]⟩ : ByteArray).data.toList.isPrefixOf (s.data.toList.drop o) = b) := Lib.hid hb
      have hnx : ∀ W : World, (Instr.index 92 (.agg #[.string ⟨#[45, 62]⟩, .string ⟨#[60, 61]⟩, .string ⟨#[61, 61]⟩, .string ⟨#[40]⟩, .string ⟨#[41]⟩, .string ⟨#[44]⟩, .string ⟨#[124]⟩, .string ⟨#[61]⟩, .string ⟨#[58]⟩, .string ⟨#[60]⟩, .string ⟨#[43]⟩, .string ⟨#[45]⟩, .string ⟨#[42]⟩, .string ⟨#[47]⟩, .string ⟨#[37]⟩]) (.int .i64 9)).run Tryd.prog W = .ok (.string ⟨#[60]⟩) W := fun W => run_index_arr W _ _ _ _ _ 9 _ Tryd.underlying92 Tryd.isAgg9 Tryd.sizeOf9 (by decide) rfl rfl
      have hfi := HFI.out
      rw [show Tk.signs.drop 9 = [60] :: Tk.signs.drop 10 from rfl, List.find?_cons, hb] at hfi
      cases b with
      | true =>
        obtain ⟨r, hr⟩ : ∃ r, o + 1 = r := ⟨_, rfl⟩
        have hle := HLEN.out _ hb
        have hle2 : r ≤ s.size := by rw [← hr]; exact hle
        have hd1 : (o : Int) + 1 = r := by omega
        have hxx : x = some (.tok 4 r) := by
          rw [← hx.out]; unfold Tk.signF; rw [← hfi, ← hr]; rfl
        subst hxx
        have hor : o ≤ r := by omega
        clear hr hb hfi hle HFI hx
        go_wp2_with (first | (go_at_call 54; refine (prefixAt s _ o true _ (Nat.le_of_lt ho) HP).mono ?_; rintro e w' ⟨rfl, rfl⟩) | fail)
        refine (add_any G 4 o r s ts ns _ HS.out hor hle2 HL.out.2 (by omega) HL.out.1).mono ?_
        rintro e w3 ⟨rfl, hS3, hF3⟩
        have HS3 := Lib.hid hS3
        have HF3 := Lib.hid hF3
        clear hS3 hF3
        go_wp2
        go_ret2
        exact ⟨rfl, HS3.out, HF3.out⟩
      | false =>
        have HFI2 := Lib.hid hfi
        clear hb hfi HFI
        go_wp2_with (first | (go_at_call 54; refine (prefixAt s _ o false _ (Nat.le_of_lt ho) HP).mono ?_; rintro e w' ⟨rfl, rfl⟩) | fail)
        go_round
        case rel => exact ⟨10, by omega, by go_num, HFI2⟩
        case measure => simp [intOf]
    · obtain ⟨b, hb⟩ : ∃ b, ([43] : List UInt8).isPrefixOf (s.data.toList.drop o) = b := ⟨_, rfl⟩
      have HP : Hid ((⟨#[43]⟩ : ByteArray).data.toList.isPrefixOf (s.data.toList.drop o) = b) := Lib.hid hb
      have hnx : ∀ W : World, (Instr.index 92 (.agg #[.string ⟨#[45, 62]⟩, .string ⟨#[60, 61]⟩, .string ⟨#[61, 61]⟩, .string ⟨#[40]⟩, .string ⟨#[41]⟩, .string ⟨#[44]⟩, .string ⟨#[124]⟩, .string ⟨#[61]⟩, .string ⟨#[58]⟩, .string ⟨#[60]⟩, .string ⟨#[43]⟩, .string ⟨#[45]⟩, .string ⟨#[42]⟩, .string ⟨#[47]⟩, .string ⟨#[37]⟩]) (.int .i64 10)).run Tryd.prog W = .ok (.string ⟨#[43]⟩) W := fun W => run_index_arr W _ _ _ _ _ 10 _ Tryd.underlying92 Tryd.isAgg9 Tryd.sizeOf9 (by decide) rfl rfl
      have hfi := HFI.out
      rw [show Tk.signs.drop 10 = [43] :: Tk.signs.drop 11 from rfl, List.find?_cons, hb] at hfi
      cases b with
      | true =>
        obtain ⟨r, hr⟩ : ∃ r, o + 1 = r := ⟨_, rfl⟩
        have hle := HLEN.out _ hb
        have hle2 : r ≤ s.size := by rw [← hr]; exact hle
        have hd1 : (o : Int) + 1 = r := by omega
        have hxx : x = some (.tok 4 r) := by
          rw [← hx.out]; unfold Tk.signF; rw [← hfi, ← hr]; rfl
        subst hxx
        have hor : o ≤ r := by omega
        clear hr hb hfi hle HFI hx
        go_wp2_with (first | (go_at_call 54; refine (prefixAt s _ o true _ (Nat.le_of_lt ho) HP).mono ?_; rintro e w' ⟨rfl, rfl⟩) | fail)
        refine (add_any G 4 o r s ts ns _ HS.out hor hle2 HL.out.2 (by omega) HL.out.1).mono ?_
        rintro e w3 ⟨rfl, hS3, hF3⟩
        have HS3 := Lib.hid hS3
        have HF3 := Lib.hid hF3
        clear hS3 hF3
        go_wp2
        go_ret2
        exact ⟨rfl, HS3.out, HF3.out⟩
      | false =>
        have HFI2 := Lib.hid hfi
        clear hb hfi HFI
        go_wp2_with (first | (go_at_call 54; refine (prefixAt s _ o false _ (Nat.le_of_lt ho) HP).mono ?_; rintro e w' ⟨rfl, rfl⟩) | fail)
        go_round
        case rel => exact ⟨11, by omega, by go_num, HFI2⟩
        case measure => simp [intOf]
    · obtain ⟨b, hb⟩ : ∃ b, ([45] : List UInt8).isPrefixOf (s.data.toList.drop o) = b := ⟨_, rfl⟩
      have HP : Hid ((⟨#[45]⟩ : ByteArray).data.toList.isPrefixOf (s.data.toList.drop o) = b) := Lib.hid hb
      have hnx : ∀ W : World, (Instr.index 92 (.agg #[.string ⟨#[45, 62]⟩, .string ⟨#[60, 61]⟩, .string ⟨#[61, 61]⟩, .string ⟨#[40]⟩, .string ⟨#[41]⟩, .string ⟨#[44]⟩, .string ⟨#[124]⟩, .string ⟨#[61]⟩, .string ⟨#[58]⟩, .string ⟨#[60]⟩, .string ⟨#[43]⟩, .string ⟨#[45]⟩, .string ⟨#[42]⟩, .string ⟨#[47]⟩, .string ⟨#[37]⟩]) (.int .i64 11)).run Tryd.prog W = .ok (.string ⟨#[45]⟩) W := fun W => run_index_arr W _ _ _ _ _ 11 _ Tryd.underlying92 Tryd.isAgg9 Tryd.sizeOf9 (by decide) rfl rfl
      have hfi := HFI.out
      rw [show Tk.signs.drop 11 = [45] :: Tk.signs.drop 12 from rfl, List.find?_cons, hb] at hfi
      cases b with
      | true =>
        obtain ⟨r, hr⟩ : ∃ r, o + 1 = r := ⟨_, rfl⟩
        have hle := HLEN.out _ hb
        have hle2 : r ≤ s.size := by rw [← hr]; exact hle
        have hd1 : (o : Int) + 1 = r := by omega
        have hxx : x = some (.tok 4 r) := by
          rw [← hx.out]; unfold Tk.signF; rw [← hfi, ← hr]; rfl
        subst hxx
        have hor : o ≤ r := by omega
        clear hr hb hfi hle HFI hx
        go_wp2_with (first | (go_at_call 54; refine (prefixAt s _ o true _ (Nat.le_of_lt ho) HP).mono ?_; rintro e w' ⟨rfl, rfl⟩) | fail)
        refine (add_any G 4 o r s ts ns _ HS.out hor hle2 HL.out.2 (by omega) HL.out.1).mono ?_
        rintro e w3 ⟨rfl, hS3, hF3⟩
        have HS3 := Lib.hid hS3
        have HF3 := Lib.hid hF3
        clear hS3 hF3
        go_wp2
        go_ret2
        exact ⟨rfl, HS3.out, HF3.out⟩
      | false =>
        have HFI2 := Lib.hid hfi
        clear hb hfi HFI
        go_wp2_with (first | (go_at_call 54; refine (prefixAt s _ o false _ (Nat.le_of_lt ho) HP).mono ?_; rintro e w' ⟨rfl, rfl⟩) | fail)
        go_round
        case rel => exact ⟨12, by omega, by go_num, HFI2⟩
        case measure => simp [intOf]
    · obtain ⟨b, hb⟩ : ∃ b, ([42] : List UInt8).isPrefixOf (s.data.toList.drop o) = b := ⟨_, rfl⟩
      have HP : Hid ((⟨#[42]⟩ : ByteArray).data.toList.isPrefixOf (s.data.toList.drop o) = b) := Lib.hid hb
      have hnx : ∀ W : World, (Instr.index 92 (.agg #[.string ⟨#[45, 62]⟩, .string ⟨#[60, 61]⟩, .string ⟨#[61, 61]⟩, .string ⟨#[40]⟩, .string ⟨#[41]⟩, .string ⟨#[44]⟩, .string ⟨#[124]⟩, .string ⟨#[61]⟩, .string ⟨#[58]⟩, .string ⟨#[60]⟩, .string ⟨#[43]⟩, .string ⟨#[45]⟩, .string ⟨#[42]⟩, .string ⟨#[47]⟩, .string ⟨#[37]⟩]) (.int .i64 12)).run Tryd.prog W = .ok (.string ⟨#[42]⟩) W := fun W => run_index_arr W _ _ _ _ _ 12 _ Tryd.underlying92 Tryd.isAgg9 Tryd.sizeOf9 (by decide) rfl rfl
      have hfi := HFI.out
      rw [show Tk.signs.drop 12 = [42] :: Tk.signs.drop 13 from rfl, List.find?_cons, hb] at hfi
      cases b with
      | true =>
        obtain ⟨r, hr⟩ : ∃ r, o + 1 = r := ⟨_, rfl⟩
        have hle := HLEN.out _ hb
        have hle2 : r ≤ s.size := by rw [← hr]; exact hle
        have hd1 : (o : Int) + 1 = r := by omega
        have hxx : x = some (.tok 4 r) := by
          rw [← hx.out]; unfold Tk.signF; rw [← hfi, ← hr]; rfl
        subst hxx
        have hor : o ≤ r := by omega
        clear hr hb hfi hle HFI hx
        go_wp2_with (first | (go_at_call 54; refine (prefixAt s _ o true _ (Nat.le_of_lt ho) HP).mono ?_; rintro e w' ⟨rfl, rfl⟩) | fail)
        refine (add_any G 4 o r s ts ns _ HS.out hor hle2 HL.out.2 (by omega) HL.out.1).mono ?_
        rintro e w3 ⟨rfl, hS3, hF3⟩
        have HS3 := Lib.hid hS3
        have HF3 := Lib.hid hF3
        clear hS3 hF3
        go_wp2
        go_ret2
        exact ⟨rfl, HS3.out, HF3.out⟩
      | false =>
        have HFI2 := Lib.hid hfi
        clear hb hfi HFI
        go_wp2_with (first | (go_at_call 54; refine (prefixAt s _ o false _ (Nat.le_of_lt ho) HP).mono ?_; rintro e w' ⟨rfl, rfl⟩) | fail)
        go_round
        case rel => exact ⟨13, by omega, by go_num, HFI2⟩
        case measure => simp [intOf]
    · obtain ⟨b, hb⟩ : ∃ b, ([47] : List UInt8).isPrefixOf (s.data.toList.drop o) = b := ⟨_, rfl⟩
      have HP : Hid ((⟨#[47]⟩ : ByteArray).data.toList.isPrefixOf (s.data.toList.drop o) = b) := Lib.hid hb
      have hnx : ∀ W : World, (Instr.index 92 (.agg #[.string ⟨#[45, 62]⟩, .string ⟨#[60, 61]⟩, .string ⟨#[61, 61]⟩, .string ⟨#[40]⟩, .string ⟨#[41]⟩, .string ⟨#[44]⟩, .string ⟨#[124]⟩, .string ⟨#[61]⟩, .string ⟨#[58]⟩, .string ⟨#[60]⟩, .string ⟨#[43]⟩, .string ⟨#[45]⟩, .string ⟨#[42]⟩, .string ⟨#[47]⟩, .string ⟨#[37]⟩]) (.int .i64 13)).run Tryd.prog W = .ok (.string ⟨#[47]⟩) W := fun W => run_index_arr W _ _ _ _ _ 13 _ Tryd.underlying92 Tryd.isAgg9 Tryd.sizeOf9 (by decide) rfl rfl
      have hfi := HFI.out
      rw [show Tk.signs.drop 13 = [47] :: Tk.signs.drop 14 from rfl, List.find?_cons, hb] at hfi
      cases b with
      | true =>
        obtain ⟨r, hr⟩ : ∃ r, o + 1 = r := ⟨_, rfl⟩
        have hle := HLEN.out _ hb
        have hle2 : r ≤ s.size := by rw [← hr]; exact hle
        have hd1 : (o : Int) + 1 = r := by omega
        have hxx : x = some (.tok 4 r) := by
          rw [← hx.out]; unfold Tk.signF; rw [← hfi, ← hr]; rfl
        subst hxx
        have hor : o ≤ r := by omega
        clear hr hb hfi hle HFI hx
        go_wp2_with (first | (go_at_call 54; refine (prefixAt s _ o true _ (Nat.le_of_lt ho) HP).mono ?_; rintro e w' ⟨rfl, rfl⟩) | fail)
        refine (add_any G 4 o r s ts ns _ HS.out hor hle2 HL.out.2 (by omega) HL.out.1).mono ?_
        rintro e w3 ⟨rfl, hS3, hF3⟩
        have HS3 := Lib.hid hS3
        have HF3 := Lib.hid hF3
        clear hS3 hF3
        go_wp2
        go_ret2
        exact ⟨rfl, HS3.out, HF3.out⟩
      | false =>
        have HFI2 := Lib.hid hfi
        clear hb hfi HFI
        go_wp2_with (first | (go_at_call 54; refine (prefixAt s _ o false _ (Nat.le_of_lt ho) HP).mono ?_; rintro e w' ⟨rfl, rfl⟩) | fail)
        go_round
        case rel => exact ⟨14, by omega, by go_num, HFI2⟩
        case measure => simp [intOf]
    · obtain ⟨b, hb⟩ : ∃ b, ([37] : List UInt8).isPrefixOf (s.data.toList.drop o) = b := ⟨_, rfl⟩
      have HP : Hid ((⟨#[37]⟩ : ByteArray).data.toList.isPrefixOf (s.data.toList.drop o) = b) := Lib.hid hb
      have hnx : ∀ W : World, (Instr.index 92 (.agg #[.string ⟨#[45, 62]⟩, .string ⟨#[60, 61]⟩, .string ⟨#[61, 61]⟩, .string ⟨#[40]⟩, .string ⟨#[41]⟩, .string ⟨#[44]⟩, .string ⟨#[124]⟩, .string ⟨#[61]⟩, .string ⟨#[58]⟩, .string ⟨#[60]⟩, .string ⟨#[43]⟩, .string ⟨#[45]⟩, .string ⟨#[42]⟩, .string ⟨#[47]⟩, .string ⟨#[37]⟩]) (.int .i64 14)).run Tryd.prog W = .ok (.string ⟨#[37]⟩) W := fun W => run_index_arr W _ _ _ _ _ 14 _ Tryd.underlying92 Tryd.isAgg9 Tryd.sizeOf9 (by decide) rfl rfl
      have hfi := HFI.out
      rw [show Tk.signs.drop 14 = [37] :: Tk.signs.drop 15 from rfl, List.find?_cons, hb] at hfi
      cases b with
      | true =>
        obtain ⟨r, hr⟩ : ∃ r, o + 1 = r := ⟨_, rfl⟩
        have hle := HLEN.out _ hb
        have hle2 : r ≤ s.size := by rw [← hr]; exact hle
        have hd1 : (o : Int) + 1 = r := by omega
        have hxx : x = some (.tok 4 r) := by
          rw [← hx.out]; unfold Tk.signF; rw [← hfi, ← hr]; rfl
        subst hxx
        have hor : o ≤ r := by omega
        clear hr hb hfi hle HFI hx
        go_wp2_with (first | (go_at_call 54; refine (prefixAt s _ o true _ (Nat.le_of_lt ho) HP).mono ?_; rintro e w' ⟨rfl, rfl⟩) | fail)
        refine (add_any G 4 o r s ts ns _ HS.out hor hle2 HL.out.2 (by omega) HL.out.1).mono ?_
        rintro e w3 ⟨rfl, hS3, hF3⟩
        have HS3 := Lib.hid hS3
        have HF3 := Lib.hid hF3
        clear hS3 hF3
        go_wp2
        go_ret2
        exact ⟨rfl, HS3.out, HF3.out⟩
      | false =>
        have HFI2 := Lib.hid hfi
        clear hb hfi HFI
        go_wp2_with (first | (go_at_call 54; refine (prefixAt s _ o false _ (Nat.le_of_lt ho) HP).mono ?_; rintro e w' ⟨rfl, rfl⟩) | fail)
        go_round
        case rel => exact ⟨15, by omega, by go_num, HFI2⟩
        case measure => simp [intOf]
    · have hnone : x = none := by
        rw [← hx.out]; unfold Tk.signF; rw [← HFI.out]; rfl
      subst hnone
      clear hx
      go_wp2
      go_ret2
      exact ⟨rfl, HS.out, HF0.out⟩

end Go.Proofs.YtpoddcegfhgdeaaDoor
