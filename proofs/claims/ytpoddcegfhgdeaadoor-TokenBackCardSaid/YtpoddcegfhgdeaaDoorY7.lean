/- The last token; what it lets follow. -/
import Derived.Test.YtpoddcegfhgdeaaDoorY6
set_option linter.unusedVariables false
set_option linter.unusedSimpArgs false
namespace Go.Proofs.YtpoddcegfhgdeaaDoor
open Go.RowKit

/-- What last returns. -/
def lastV (s : ByteArray) (ts : List Tk.Tok) : Value := match ts.getLast? with
  | none => .agg #[.int .i64 0, .string ⟨#[]⟩, .int .i64 0, .int .i64 0]
  | some t => .agg #[.int .i64 t.1, .string (s.extract t.2.1 t.2.2), .int .i64 t.2.1, .int .i64 t.2.2]

set_option maxRecDepth 100000 in
set_option maxHeartbeats 3200000 in
theorem last_nil (G : Nat) (s : ByteArray) (ns : List (Nat × Nat)) (w : World) (h : SS w G s [] ns) :
    Calls Tryd.prog 68 #[.pointer (some ⟨G, 0, none⟩)] w fun e w' => e = .returned (.agg #[.int .i64 0, .string ⟨#[]⟩, .int .i64 0, .int .i64 0]) ∧ Below w.heap.size w w' := by
  obtain ⟨tv, nv, h⟩ := h
  have hc := h.box.cell.2.1
  have ht : ∃ ad cap, tv = .slice ad 0 cap := by
    rcases h.toks.2 with ⟨h1, _⟩ | ⟨g, cap, cur, h1, _⟩
    · exact ⟨_, _, h1⟩
    · exact ⟨_, _, h1⟩
  obtain ⟨ad, cap, rfl⟩ := ht
  have hlt := h.box.lt
  clear h
  go_enter Tryd.func68, Tryd.ntmps68
  go_wp2
  exact bodyPost_ret (v := .agg #[.int .i64 0, .string ⟨#[]⟩, .int .i64 0, .int .i64 0]) (by simp [results, Tryd.results68, go_sem]) rfl ⟨rfl, (Below.refl _ _).alloc (Nat.le_refl _) _⟩

set_option maxRecDepth 100000 in
set_option maxHeartbeats 6400000 in
theorem last_some (G : Nat) (s : ByteArray) (ts : List Tk.Tok) (k a b : Nat) (ns : List (Nat × Nat)) (w : World) (h : SS w G s (ts ++ [(k, a, b)]) ns) (hl : ts.length ≤ 70000) :
    Calls Tryd.prog 68 #[.pointer (some ⟨G, 0, none⟩)] w fun e w' => e = .returned (.agg #[.int .i64 k, .string (s.extract a b), .int .i64 a, .int .i64 b]) ∧ Below w.heap.size w w' := by
  obtain ⟨tv, nv, h⟩ := h
  obtain ⟨m, hm⟩ : ∃ m, ts.length = m := ⟨_, rfl⟩
  obtain ⟨g, cap, rfl, hg, hB, c0, c1, c2, c3⟩ := h.toks.at m (by rw [List.length_append]; simp; omega)
  have hget : (ts ++ [(k, a, b)])[m]'(by rw [List.length_append]; simp; omega) = (k, a, b) := by
    rw [List.getElem_append_right (by omega)]; simp [hm]
  rw [hget] at c0 c1 c2 c3
  have hc := h.box.cell.2.1
  have hn : (ts ++ [(k, a, b)]).length = m + 1 := by rw [List.length_append, hm]; rfl
  rw [hn] at hc
  have hlt := h.box.lt
  have hm2 : m ≤ 70000 := by omega
  have hsub : ((m + 1 : Nat) : Int) - 1 = m := by omega
  have hne : (((m + 1 : Nat) : Int) == 0) = false := by simp; omega
  have hgG : g ≠ w.heap.size := by omega
  have HX := Lib.hid (And.intro hm hn)
  clear h hget hm hn hl
  go_enter Tryd.func68, Tryd.ntmps68
  go_wp2
  have h0 : (0 : Int) ≤ m := by omega
  have h1 : (m : Int) < (m : Int) + 1 := by omega
  go_region
  go_wp2
  exact bodyPost_ret (v := .agg #[.int .i64 k, .string (s.extract a b), .int .i64 a, .int .i64 b]) (by simp [results, Tryd.results68, go_sem]) rfl ⟨rfl, ((Below.refl _ _).alloc (Nat.le_refl _) _).drew⟩

set_option maxRecDepth 100000 in
set_option maxHeartbeats 3200000 in
theorem follows_any (G o : Nat) (s : ByteArray) (ts : List Tk.Tok) (ns : List (Nat × Nat)) (r : Bool) (w : World) (h : SS w G s ts ns) (hl : ts.length ≤ 70000) (hr : Hid (Tk.fol ts o = r)) :
    Calls Tryd.prog 57 #[.pointer (some ⟨G, 0, none⟩), .int .i64 o] w fun e w' => e = .returned (.bool r) ∧ Below w.heap.size w w' := by
  rcases List.eq_nil_or_concat ts with rfl | ⟨ts0, ⟨k, a, b⟩, rfl⟩
  · obtain rfl : r = false := by rw [← hr.out]; rfl
    have HS := Lib.hid h
    clear h hr hl
    go_enter Tryd.func57, Tryd.ntmps57
    go_wp2_with fail
    refine (last_nil G s ns _ HS.out).mono ?_
    rintro e w1 ⟨rfl, hb⟩
    have HB := Lib.hid (hb.trans (((Below.refl w1.heap.size w1).alloc (Nat.le_refl _) (.cells #[.int .i64 0, .string ⟨#[]⟩, .int .i64 0, .int .i64 0] 37)).mono hb.size))
    clear hb
    go_wp2
    go_ret
    exact ⟨rfl, HB.out⟩
  · simp only [List.concat_eq_append] at h hl hr
    have HS := Lib.hid h
    have hl0 : ts0.length ≤ 70000 := by rw [List.length_append] at hl; omega
    have hr1 : (k == 3 && b == o) = r := by rw [← hr.out]; unfold Tk.fol; simp
    by_cases h3 : k = 3
    · obtain rfl : k = 3 := h3
      by_cases ho : b = o
      · obtain rfl : b = o := ho
        obtain rfl : r = true := by rw [← hr1]; simp
        clear h hr hl hr1
        go_enter Tryd.func57, Tryd.ntmps57
        go_wp2_with fail
        refine (last_some G s ts0 3 a b ns _ HS.out hl0).mono ?_
        rintro e w1 ⟨rfl, hb⟩
        have HB := Lib.hid (hb.trans (((Below.refl w1.heap.size w1).alloc (Nat.le_refl _) (.cells #[.int .i64 (3 : Nat), .string (s.extract a b), .int .i64 a, .int .i64 b] 37)).mono hb.size))
        clear hb
        go_wp2
        go_ret
        exact ⟨rfl, HB.out⟩
      · have hbo : ((b : Int) == o) = false := by simp; omega
        obtain rfl : r = false := by rw [← hr1]; simp [ho]
        clear h hr hl hr1 ho
        go_enter Tryd.func57, Tryd.ntmps57
        go_wp2_with fail
        refine (last_some G s ts0 3 a b ns _ HS.out hl0).mono ?_
        rintro e w1 ⟨rfl, hb⟩
        have HB := Lib.hid (hb.trans (((Below.refl w1.heap.size w1).alloc (Nat.le_refl _) (.cells #[.int .i64 (3 : Nat), .string (s.extract a b), .int .i64 a, .int .i64 b] 37)).mono hb.size))
        clear hb
        go_wp2
        go_ret
        exact ⟨rfl, HB.out⟩
    · have hk3 : ((k : Int) == 3) = false := by simp; omega
      obtain rfl : r = false := by rw [← hr1]; simp [h3]
      clear h hr hl hr1 h3
      go_enter Tryd.func57, Tryd.ntmps57
      go_wp2_with fail
      refine (last_some G s ts0 k a b ns _ HS.out hl0).mono ?_
      rintro e w1 ⟨rfl, hb⟩
      have HB := Lib.hid (hb.trans (((Below.refl w1.heap.size w1).alloc (Nat.le_refl _) (.cells #[.int .i64 k, .string (s.extract a b), .int .i64 a, .int .i64 b] 37)).mono hb.size))
      clear hb
      go_wp2
      go_ret
      exact ⟨rfl, HB.out⟩

set_option maxRecDepth 100000 in
set_option maxHeartbeats 6400000 in
theorem maySign_any (G : Nat) (s : ByteArray) (ts : List Tk.Tok) (ns : List (Nat × Nat)) (r : Bool) (w : World) (h : SS w G s ts ns) (hl : ts.length ≤ 70000) (hr : Hid (Tk.mayS s.data.toList ts = r)) :
    Calls Tryd.prog 59 #[.pointer (some ⟨G, 0, none⟩)] w fun e w' => e = .returned (.bool r) ∧ Below w.heap.size w w' := by
  rcases List.eq_nil_or_concat ts with rfl | ⟨ts0, ⟨k, a, b⟩, rfl⟩
  · obtain rfl : r = true := by rw [← hr.out]; rfl
    have HS := Lib.hid h
    clear h hr hl
    go_enter Tryd.func59, Tryd.ntmps59
    go_wp2_with fail
    refine (last_nil G s ns _ HS.out).mono ?_
    rintro e w1 ⟨rfl, hb⟩
    have HB := Lib.hid (hb.trans (((Below.refl w1.heap.size w1).alloc (Nat.le_refl _) (.cells #[.int .i64 0, .string ⟨#[]⟩, .int .i64 0, .int .i64 0] 37)).mono hb.size))
    clear hb
    go_wp2
    go_ret
    exact ⟨rfl, HB.out⟩
  · simp only [List.concat_eq_append] at h hl hr
    have HS := Lib.hid h
    have hl0 : ts0.length ≤ 70000 := by rw [List.length_append] at hl; omega
    obtain ⟨x, hx⟩ : ∃ x, s.extract a b = x := ⟨_, rfl⟩
    have hr1 : Tk.mayK k x.data.toList = r := by
      rw [← hr.out, ← hx, Lib.extract_data]
      unfold Tk.mayS
      simp only [List.getLast?_append, List.getLast?_singleton, Option.some_or]
      unfold Tk.ext
      rfl
    unfold Tk.mayK at hr1
    have HX := Lib.hid hx
    have HBB : Hid (∀ w1 : World, Below w.heap.size w w1 → Below w.heap.size w (w1.alloc (.cells #[.int .i64 k, .string x, .int .i64 a, .int .i64 b] 37))) :=
      Lib.hid fun w1 hb => hb.trans (((Below.refl w1.heap.size w1).alloc (Nat.le_refl _) _).mono hb.size)
    have key : ∀ W, SS W G s (ts0 ++ [(k, a, b)]) ns → Calls Tryd.prog 68 #[.pointer (some ⟨G, 0, none⟩)] W fun e w' => e = .returned (.agg #[.int .i64 k, .string x, .int .i64 a, .int .i64 b]) ∧ Below W.heap.size W w' := fun W hW => by
      have := last_some G s ts0 k a b ns W hW hl0
      rw [hx] at this
      exact this
    have HKEY := Lib.hid key
    clear h hr hl hx key
    by_cases h1 : k = 1
    · obtain rfl : k = 1 := h1
      obtain rfl : r = false := by rw [← hr1]; rfl
      clear hr1
      go_enter Tryd.func59, Tryd.ntmps59
      go_wp2_with fail
      refine (HKEY.out _ HS.out).mono ?_
      rintro e w1 ⟨rfl, hb⟩
      have HB := Lib.hid (HBB.out w1 hb)
      clear hb
      go_wp2
      go_ret
      exact ⟨rfl, HB.out⟩
    · have e1 : ((k : Int) == 1) = false := by simp; omega
      by_cases h2 : k = 2
      · obtain rfl : k = 2 := h2
        obtain rfl : r = false := by rw [← hr1]; rfl
        clear hr1 e1 h1
        go_enter Tryd.func59, Tryd.ntmps59
        go_wp2_with fail
        refine (HKEY.out _ HS.out).mono ?_
        rintro e w1 ⟨rfl, hb⟩
        have HB := Lib.hid (HBB.out w1 hb)
        clear hb
        go_wp2
        go_ret
        exact ⟨rfl, HB.out⟩
      · have e2 : ((k : Int) == 2) = false := by simp; omega
        by_cases h3 : k = 3
        · obtain rfl : k = 3 := h3
          obtain rfl : r = false := by rw [← hr1]; rfl
          clear hr1 e1 e2 h1 h2
          go_enter Tryd.func59, Tryd.ntmps59
          go_wp2_with fail
          refine (HKEY.out _ HS.out).mono ?_
          rintro e w1 ⟨rfl, hb⟩
          have HB := Lib.hid (HBB.out w1 hb)
          clear hb
          go_wp2
          go_ret
          exact ⟨rfl, HB.out⟩
        · have e3 : ((k : Int) == 3) = false := by simp; omega
          rw [if_neg (by omega)] at hr1
          by_cases h4 : k = 4
          · obtain rfl : k = 4 := h4
            rw [if_pos rfl] at hr1
            obtain ⟨x1, hx1⟩ : ∃ b, (x.toList == [41]) = b := ⟨_, rfl⟩
            obtain ⟨x2, hx2⟩ : ∃ b, (x.toList == [58]) = b := ⟨_, rfl⟩
            obtain ⟨x3, hx3⟩ : ∃ b, (x.toList == [95]) = b := ⟨_, rfl⟩
            rw [← Lib.toList_data, hx1, hx2, hx3] at hr1
            subst hr1
            clear e1 e2 e3 h1 h2 h3
            cases x1 <;> cases x2 <;> cases x3
            all_goals
              go_enter Tryd.func59, Tryd.ntmps59
              go_wp2_with fail
              refine (HKEY.out _ HS.out).mono ?_
              rintro e w1 ⟨rfl, hb⟩
              have HB := Lib.hid (HBB.out w1 hb)
              clear hb
              go_wp2
              go_ret
              exact ⟨rfl, HB.out⟩
          · have e4 : ((k : Int) == 4) = false := by simp; omega
            obtain rfl : r = true := by rw [← hr1, if_neg h4]
            clear hr1 h1 h2 h3 h4
            go_enter Tryd.func59, Tryd.ntmps59
            go_wp2_with fail
            refine (HKEY.out _ HS.out).mono ?_
            rintro e w1 ⟨rfl, hb⟩
            have HB := Lib.hid (HBB.out w1 hb)
            clear hb
            go_wp2
            go_ret
            exact ⟨rfl, HB.out⟩

end Go.Proofs.YtpoddcegfhgdeaaDoor
