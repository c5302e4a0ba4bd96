/- The whole scan of a source. -/
import Derived.Test.YtpoddcegfhgdeaaDoorYA
import Derived.Deep.LoopGhost
set_option linter.unusedVariables false
set_option linter.unusedSimpArgs false
namespace Go.Proofs.YtpoddcegfhgdeaaDoor
open Go.RowKit

/-- A step is an error, or goes on, and not beyond the end. -/
def Good (o n : Nat) : Tk.St → Prop
  | .bad e => e = 2 ∨ e = 4 ∨ e = 5
  | .sp b => o < b ∧ b ≤ n
  | .note b => o < b ∧ b ≤ n
  | .tok _ b => o < b ∧ b ≤ n

theorem good_space (l : List UInt8) (o : Nat) (ho : o < l.length) (r : Tk.St) (h : Tk.spaceF l o = some r) : Good o l.length r := by
  unfold Tk.spaceF at h
  split at h
  · next hlt =>
    cases h
    exact ⟨hlt, Tk.run_le _ _ _ (Nat.le_of_lt ho)⟩
  · cases h
theorem good_note (l : List UInt8) (o : Nat) (ho : o < l.length) (r : Tk.St) (h : Tk.noteF l o = some r) : Good o l.length r := by
  unfold Tk.noteF at h
  split at h
  · next hp =>
    cases h
    refine ⟨?_, Tk.run_le _ _ _ (Nat.le_of_lt ho)⟩
    have h0 : l[o] = 45 := by
      rw [List.drop_eq_getElem_cons ho] at hp
      simp [List.isPrefixOf] at hp
      exact hp.1.symm
    rw [Tk.run_yes _ _ _ ho (by rw [h0]; rfl)]
    exact Nat.lt_of_lt_of_le (Nat.lt_succ_self o) (Tk.run_ge _ _ _)
  · cases h
theorem good_word (l : List UInt8) (ts : List Tk.Tok) (o : Nat) (ho : o < l.length) (r : Tk.St) (h : Tk.wordF l ts o = some r) : Good o l.length r := by
  unfold Tk.wordF at h
  have hge := Tk.run_ge Tk.inNm l o
  have hle := Tk.run_le Tk.inNm l o (Nat.le_of_lt ho)
  split at h
  · cases h
  · split at h
    · cases h
    · next hne =>
      split at h
      · cases h; exact .inr (.inl rfl)
      · split at h
        · cases h; exact .inr (.inr rfl)
        · split at h
          · cases h; exact .inr (.inl rfl)
          · cases h; exact ⟨by omega, hle⟩
theorem good_num (l : List UInt8) (ts : List Tk.Tok) (o : Nat) (ho : o < l.length) (r : Tk.St) (h : Tk.numF l ts o = some r) : Good o l.length r := by
  unfold Tk.numF at h
  have hd : o ≤ Tk.digs l ts o ∧ Tk.digs l ts o ≤ l.length := by unfold Tk.digs; split <;> omega
  have hge := Tk.run_ge Tk.isDg l (Tk.digs l ts o)
  have hle := Tk.run_le Tk.isDg l (Tk.digs l ts o) hd.2
  split at h
  · cases h
  · split at h
    · cases h; exact .inl rfl
    · cases h; exact ⟨by omega, hle⟩
theorem signs_pos : ∀ p ∈ Tk.signs, 0 < p.length := by decide
theorem good_sign (l : List UInt8) (o : Nat) (ho : o < l.length) (r : Tk.St) (h : Tk.signF l o = some r) : Good o l.length r := by
  unfold Tk.signF at h
  split at h
  · next p hp =>
    cases h
    have h1 := signs_pos p (List.mem_of_find?_eq_some hp)
    have h2 := prefix_len p (l.drop o) (by have := List.find?_some hp; exact this)
    rw [List.length_drop] at h2
    exact ⟨by omega, by omega⟩
  · cases h

/-- What the parts from number j on make of an offset. -/
def partF (l : List UInt8) (ts : List Tk.Tok) (o : Nat) : Nat → Option Tk.St
  | 0 => Tk.spaceF l o
  | 1 => Tk.noteF l o
  | 2 => Tk.wordF l ts o
  | 3 => Tk.numF l ts o
  | 4 => Tk.signF l o
  | _ => none
def restG (l : List UInt8) (ts : List Tk.Tok) (o : Nat) : Nat → Tk.St
  | 0 => .bad 4
  | n + 1 => match partF l ts o (4 - n) with
    | some r => r
    | none => restG l ts o n
def restF (l : List UInt8) (ts : List Tk.Tok) (o j : Nat) : Tk.St := restG l ts o (5 - j)
theorem restF_zero (l : List UInt8) (ts : List Tk.Tok) (o : Nat) : restF l ts o 0 = Tk.stepF l ts o := rfl
theorem restF_some {l : List UInt8} {ts : List Tk.Tok} {o j : Nat} {r : Tk.St} (hj : j < 5) (h : partF l ts o j = some r) : restF l ts o j = r := by
  unfold restF
  obtain ⟨n, hn⟩ : ∃ n, 5 - j = n + 1 := ⟨4 - j, by omega⟩
  rw [hn]
  unfold restG
  rw [show 4 - n = j by omega, h]
theorem restF_none {l : List UInt8} {ts : List Tk.Tok} {o j : Nat} (hj : j < 5) (h : partF l ts o j = none) : restF l ts o j = restF l ts o (j + 1) := by
  unfold restF
  obtain ⟨n, hn⟩ : ∃ n, 5 - j = n + 1 := ⟨4 - j, by omega⟩
  rw [hn, show 5 - (j + 1) = n by omega]
  conv => lhs; unfold restG
  rw [show 4 - n = j by omega, h]
theorem good_part (l : List UInt8) (ts : List Tk.Tok) (o : Nat) (ho : o < l.length) (j : Nat) (r : Tk.St) (h : partF l ts o j = some r) : Good o l.length r := by
  match j, h with
  | 0, h => exact good_space l o ho r h
  | 1, h => exact good_note l o ho r h
  | 2, h => exact good_word l ts o ho r h
  | 3, h => exact good_num l ts o ho r h
  | 4, h => exact good_sign l o ho r h
  | j + 5, h => cases h

/-- The box with the five parts. -/
def fns (G : Nat) : Array Value := #[.func (.func 37) #[.pointer (some ⟨G, 0, none⟩)] #[], .func (.func 38) #[.pointer (some ⟨G, 0, none⟩)] #[], .func (.func 39) #[.pointer (some ⟨G, 0, none⟩)] #[], .func (.func 40) #[.pointer (some ⟨G, 0, none⟩)] #[], .func (.func 41) #[.pointer (some ⟨G, 0, none⟩)] #[]]
/-- The state between two parts. -/
structure Sn (w : World) (A G : Nat) (s : ByteArray) (ts : List Tk.Tok) (ns : List (Nat × Nat)) (W : World) : Prop where
  ss : SS W G s ts ns
  far : Far G w W
  arr : W.heap[A]? = some (.cells (fns G) 78 (0, 0))
  erg : Erg W
theorem Sn.step {w W W' : World} {A G : Nat} {s : ByteArray} {ts ts' : List Tk.Tok} {ns ns' : List (Nat × Nat)} (h : Sn w A G s ts ns W) (hA : A ≠ G) (hE : 2 < G) (hs : SS W' G s ts' ns') (hf : Far G W W') : Sn w A G s ts' ns' W' :=
  ⟨hs, h.far.trans hf, (hf.high A (Array.getElem?_eq_some_iff.1 h.arr).1 hA (fun c f e => by rw [h.arr] at e; cases e) (fun c f e => by rw [h.arr] at e; cases e)).trans h.arr, h.erg.keep hE hf.low⟩

def ScanPost (R : Sum (Nat × Nat) (List Tk.Tok × List (Nat × Nat))) (G : Nat) (s : ByteArray) (w : World) (e : Ending) (w' : World) : Prop :=
  Far G w w' ∧ match R with
  | .inl p => e = .returned (.tuple #[.int .i64 p.1, .int .i64 p.2]) ∧ p.2 ≠ 0 ∧ ∃ ts ns, SS w' G s ts ns
  | .inr q => e = .returned (.tuple #[.int .i64 0, .int .i64 0]) ∧ SS w' G s q.1 q.2

theorem scan_bad {l : List UInt8} {g k e : Nat} {ts : List Tk.Tok} {ns : List (Nat × Nat)} {R} (h : Tk.scanL l (g + 1) k ts ns = R) (hk : k < l.length) (hs : Tk.stepF l ts k = .bad e) : R = .inl (k, e) := by
  unfold Tk.scanL at h; rw [if_pos hk, hs] at h; exact h.symm
theorem scan_sp {l : List UInt8} {g k b : Nat} {ts : List Tk.Tok} {ns : List (Nat × Nat)} {R} (h : Tk.scanL l (g + 1) k ts ns = R) (hk : k < l.length) (hs : Tk.stepF l ts k = .sp b) : Tk.scanL l g b ts ns = R := by
  unfold Tk.scanL at h; rw [if_pos hk, hs] at h; exact h
theorem scan_note {l : List UInt8} {g k b : Nat} {ts : List Tk.Tok} {ns : List (Nat × Nat)} {R} (h : Tk.scanL l (g + 1) k ts ns = R) (hk : k < l.length) (hs : Tk.stepF l ts k = .note b) : Tk.scanL l g b ts (ns ++ [(k, b)]) = R := by
  unfold Tk.scanL at h; rw [if_pos hk, hs] at h; exact h
theorem scan_tok {l : List UInt8} {g k kd b : Nat} {ts : List Tk.Tok} {ns : List (Nat × Nat)} {R} (h : Tk.scanL l (g + 1) k ts ns = R) (hk : k < l.length) (hs : Tk.stepF l ts k = .tok kd b) : Tk.scanL l g b (ts ++ [(kd, k, b)]) ns = R := by
  unfold Tk.scanL at h; rw [if_pos hk, hs] at h; exact h
theorem scan_end {l : List UInt8} {g k : Nat} {ts : List Tk.Tok} {ns : List (Nat × Nat)} {R} (h : Tk.scanL l (g + 1) k ts ns = R) (hk : ¬ k < l.length) : R = .inr (ts ++ [(6, k, k)], ns) := by
  unfold Tk.scanL at h; rw [if_neg hk] at h; exact h.symm
theorem snoc_len {α : Type} {l : List α} {x : α} {k b : Nat} (h : l.length ≤ k) (hb : k < b) : (l ++ [x]).length ≤ b := by rw [List.length_append]; simp; omega

set_option maxRecDepth 100000 in
set_option maxHeartbeats 51200000 in
theorem scan_any (G : Nat) (s : ByteArray) (R : Sum (Nat × Nat) (List Tk.Tok × List (Nat × Nat))) (w : World) (h : SS w G s [] []) (her : Erg w) (hGE : 2 < G) (hs : s.size ≤ 65536) (hR : Hid (Tk.scanL s.data.toList (s.size + 1) 0 [] [] = R)) :
    Calls Tryd.prog 23 #[.pointer (some ⟨G, 0, none⟩)] w (ScanPost R G s w) := by
  have hG := h.lt
  have hA : w.heap.size ≠ G := by omega
  have hAl := (Below.refl w.heap.size w).alloc (Nat.le_refl _) (.cells (fns G) 78)
  have HN0 : Hid (Sn w w.heap.size G s [] [] (w.alloc (.cells (fns G) 78))) :=
    Lib.hid ⟨h.keep hAl, Far.of_below (Nat.le_of_lt hG) hAl, heap_alloc_new _ _, her.keep (Nat.lt_trans hGE hG) hAl⟩
  clear h her hAl
  go_enter Tryd.func23, Tryd.ntmps23
  go_wp2
  go_step3
  go_wp2
  go_step3
  go_wp2
  go_loopg [5] (s.size + 1) (fun g s5 wx => ∃ (k : Nat) (ts : List Tk.Tok) (ns : List (Nat × Nat)), s5 = .int .i64 k ∧ k ≤ s.size ∧ Hid (Sn w w.heap.size G s ts ns wx) ∧ Hid (ts.length ≤ k ∧ ns.length ≤ k) ∧ Hid (Tk.scanL s.data.toList g k ts ns = R) ∧ s.size < k + g)
  case atStart => exact ⟨0, [], [], rfl, Nat.zero_le _, HN0, Lib.hid ⟨Nat.le_refl _, Nat.le_refl _⟩, hR, by omega⟩
  case round =>
    obtain ⟨k, ts, ns, rfl, hk, HSO, HLE, HR0, hgs⟩ := hrel
    obtain ⟨g0, rfl⟩ : ∃ g0, gk = g0 + 1 := ⟨gk - 1, by omega⟩
    have HR1 := HR0
    clear HR0
    have c0 : wr.cell? ⟨G, 0, none⟩ = some (.string s) := by obtain ⟨tv, nv, h⟩ := HSO.out.ss; exact h.box.cell.1
    by_cases hks : k < s.size
    · have hks1 : (k : Int) < s.size := by omega
      have HKL : Hid (k < s.data.toList.length) := Lib.hid (by rw [← Lib.size_eq]; exact hks)
      have HLN : Hid (s.data.toList.length = s.size) := Lib.hid (Lib.size_eq s).symm
      have hs7 : s.size ≤ 70000 := by omega
      have hAG : w.heap.size ≠ G := hA
      have a0 : wr.cell? ⟨w.heap.size, 0, none⟩ = some (.func (.func 37) #[.pointer (some ⟨G, 0, none⟩)] #[]) := by rw [cell_of_row _ _ _ _ _ _ HSO.out.arr]; rfl
      have a1 : wr.cell? ⟨w.heap.size, 1, none⟩ = some (.func (.func 38) #[.pointer (some ⟨G, 0, none⟩)] #[]) := by rw [cell_of_row _ _ _ _ _ _ HSO.out.arr]; rfl
      have a2 : wr.cell? ⟨w.heap.size, 2, none⟩ = some (.func (.func 39) #[.pointer (some ⟨G, 0, none⟩)] #[]) := by rw [cell_of_row _ _ _ _ _ _ HSO.out.arr]; rfl
      have a3 : wr.cell? ⟨w.heap.size, 3, none⟩ = some (.func (.func 40) #[.pointer (some ⟨G, 0, none⟩)] #[]) := by rw [cell_of_row _ _ _ _ _ _ HSO.out.arr]; rfl
      have a4 : wr.cell? ⟨w.heap.size, 4, none⟩ = some (.func (.func 41) #[.pointer (some ⟨G, 0, none⟩)] #[]) := by rw [cell_of_row _ _ _ _ _ _ HSO.out.arr]; rfl
      go_wp2
      clear a0 a1 a2 a3 a4 c0
      go_loopg [5, 29] 5 (fun g2 s5 s29 wy => ∃ j : Nat, j + g2 = 5 ∧ s5 = .int .i64 k ∧ s29 = .int .i64 j ∧ Hid (Sn w w.heap.size G s ts ns wy) ∧ Hid (restF s.data.toList ts k j = Tk.stepF s.data.toList ts k))
      case atStart => exact ⟨0, rfl, rfl, rfl, HSO, Lib.hid (restF_zero _ _ _)⟩
      case round =>
        obtain ⟨j, hj, rfl, rfl, HSN, HRF⟩ := hrel
        have hjj : j = 0 ∨ j = 1 ∨ j = 2 ∨ j = 3 ∨ j = 4 ∨ j = 5 := by omega
        rcases hjj with rfl | rfl | rfl | rfl | rfl | rfl
        · obtain ⟨x, hx⟩ : ∃ x, partF s.data.toList ts k 0 = x := ⟨_, rfl⟩
          obtain rfl : gk = 5 := by omega
          clear hj
          have HX := Lib.hid hx
          have hnx : ∀ W : World, (Instr.index 78 (.agg #[.func (.func 37) #[.pointer (some ⟨G, 0, none⟩)] #[], .func (.func 38) #[.pointer (some ⟨G, 0, none⟩)] #[], .func (.func 39) #[.pointer (some ⟨G, 0, none⟩)] #[], .func (.func 40) #[.pointer (some ⟨G, 0, none⟩)] #[], .func (.func 41) #[.pointer (some ⟨G, 0, none⟩)] #[]]) (.int .i64 0)).run Tryd.prog W = .ok (.func (.func 37) #[.pointer (some ⟨G, 0, none⟩)] #[]) W := fun W => run_index_arr W _ _ _ _ _ 0 _ Tryd.underlying78 Tryd.isAgg77 Tryd.sizeOf77 (by decide) rfl rfl
          cases x with
          | none =>
            have HC : Hid (Calls Tryd.prog 37 #[.pointer (some ⟨G, 0, none⟩), .int .i64 k] wr fun e w' => e = .returned (.tuple #[.int .i64 k, .int .i64 0]) ∧ SS w' G s ts ns ∧ Far G wr w') := Lib.hid ((skipSpace_any G k s ts ns _ wr HSN.out.ss hks hs7 HX).mono (fun e w' h => ⟨h.1, h.2.1, h.2.2⟩))
            have HRN : Hid (restF s.data.toList ts k 1 = Tk.stepF s.data.toList ts k) := Lib.hid (by rw [← HRF.out]; exact (restF_none (by decide) hx).symm)
            clear hx HRF
            go_wp2_with (first | (go_at_call 37; refine HC.out.mono ?_; rintro e w2 ⟨rfl, hs2, hf2⟩; refine hold ?_))
            have HS2 := Lib.hid (HSN.out.step hAG hGE hs2 hf2)
            clear hs2 hf2 hnx
            refine go_on ?_
            go_wp2
            go_roundg 4
            case measure => omega
            case rel => exact ⟨1, by omega, rfl, by go_num, HS2, HRN⟩
          | some y =>
            have hst : Tk.stepF s.data.toList ts k = y := by rw [← HRF.out]; exact restF_some (by decide) hx
            have hgd := good_part s.data.toList ts k HKL.out 0 y hx
            have HST := Lib.hid hst
            clear hst HRF
            cases y with
            | bad e0 =>
              have HC : Hid (Calls Tryd.prog 37 #[.pointer (some ⟨G, 0, none⟩), .int .i64 k] wr fun e w' => e = .returned (.tuple #[.int .i64 k, .int .i64 e0]) ∧ SS w' G s ts ns ∧ Far G wr w') := Lib.hid ((skipSpace_any G k s ts ns _ wr HSN.out.ss hks hs7 HX).mono (fun e w' h => ⟨h.1, h.2.1, h.2.2⟩))
              have he0 : ((e0 : Int) != 0) = true := by simp only [bne_iff_ne, ne_eq]; rcases hgd with h | h | h <;> omega
              have he1 : e0 ≠ 0 := by rcases hgd with h | h | h <;> omega
              have HRR := scan_bad HR1.out HKL.out HST.out
              subst HRR
              clear hx hgd
              go_wp2_with (first | (go_at_call 37; refine HC.out.mono ?_; rintro e w2 ⟨rfl, hs2, hf2⟩; refine hold ?_))
              have HS2 := Lib.hid (HSN.out.step hAG hGE hs2 hf2)
              clear hs2 hf2 hnx
              refine go_on ?_
              go_wp2
              try rw [Exit.noGoto_ret]
              go_ret2
              exact ⟨HS2.out.far, rfl, he1, ts, ns, HS2.out.ss⟩
            | sp b0 =>
              have HC : Hid (Calls Tryd.prog 37 #[.pointer (some ⟨G, 0, none⟩), .int .i64 k] wr fun e w' => e = .returned (.tuple #[.int .i64 b0, .int .i64 0]) ∧ SS w' G s ts ns ∧ Far G wr w') := Lib.hid ((skipSpace_any G k s ts ns _ wr HSN.out.ss hks hs7 HX).mono (fun e w' h => ⟨h.1, h.2.1, h.2.2⟩))
              obtain ⟨hb1, hb2⟩ := hgd
              rw [HLN.out] at hb2
              have hb3 : (k : Int) < b0 := by omega
              have HRR := Lib.hid (scan_sp HR1.out HKL.out HST.out)
              have hgd : True := trivial
              clear hx hgd
              go_wp2_with (first | (go_at_call 37; refine HC.out.mono ?_; rintro e w2 ⟨rfl, hs2, hf2⟩; refine hold ?_))
              have HS2 := Lib.hid (HSN.out.step hAG hGE hs2 hf2)
              clear hs2 hf2 hnx
              refine go_on ?_
              go_wp2
              go_roundg g0
              case measure => omega
              case rel => exact ⟨b0, ts, ns, rfl, hb2, HS2, Lib.hid ⟨Nat.le_trans HLE.out.1 (Nat.le_of_lt hb1), Nat.le_trans HLE.out.2 (Nat.le_of_lt hb1)⟩, HRR, by omega⟩
            | note b0 =>
              have HC : Hid (Calls Tryd.prog 37 #[.pointer (some ⟨G, 0, none⟩), .int .i64 k] wr fun e w' => e = .returned (.tuple #[.int .i64 b0, .int .i64 0]) ∧ SS w' G s ts (ns ++ [(k, b0)]) ∧ Far G wr w') := Lib.hid ((skipSpace_any G k s ts ns _ wr HSN.out.ss hks hs7 HX).mono (fun e w' h => ⟨h.1, h.2.1, h.2.2⟩))
              obtain ⟨hb1, hb2⟩ := hgd
              rw [HLN.out] at hb2
              have hb3 : (k : Int) < b0 := by omega
              have HRR := Lib.hid (scan_note HR1.out HKL.out HST.out)
              have hgd : True := trivial
              clear hx hgd
              go_wp2_with (first | (go_at_call 37; refine HC.out.mono ?_; rintro e w2 ⟨rfl, hs2, hf2⟩; refine hold ?_))
              have HS2 := Lib.hid (HSN.out.step hAG hGE hs2 hf2)
              clear hs2 hf2 hnx
              refine go_on ?_
              go_wp2
              go_roundg g0
              case measure => omega
              case rel => exact ⟨b0, ts, ns ++ [(k, b0)], rfl, hb2, HS2, Lib.hid ⟨Nat.le_trans HLE.out.1 (Nat.le_of_lt hb1), snoc_len HLE.out.2 hb1⟩, HRR, by omega⟩
            | tok kd b0 =>
              have HC : Hid (Calls Tryd.prog 37 #[.pointer (some ⟨G, 0, none⟩), .int .i64 k] wr fun e w' => e = .returned (.tuple #[.int .i64 b0, .int .i64 0]) ∧ SS w' G s (ts ++ [(kd, k, b0)]) ns ∧ Far G wr w') := Lib.hid ((skipSpace_any G k s ts ns _ wr HSN.out.ss hks hs7 HX).mono (fun e w' h => ⟨h.1, h.2.1, h.2.2⟩))
              obtain ⟨hb1, hb2⟩ := hgd
              rw [HLN.out] at hb2
              have hb3 : (k : Int) < b0 := by omega
              have HRR := Lib.hid (scan_tok HR1.out HKL.out HST.out)
              have hgd : True := trivial
              clear hx hgd
              go_wp2_with (first | (go_at_call 37; refine HC.out.mono ?_; rintro e w2 ⟨rfl, hs2, hf2⟩; refine hold ?_))
              have HS2 := Lib.hid (HSN.out.step hAG hGE hs2 hf2)
              clear hs2 hf2 hnx
              refine go_on ?_
              go_wp2
              go_roundg g0
              case measure => omega
              case rel => exact ⟨b0, ts ++ [(kd, k, b0)], ns, rfl, hb2, HS2, Lib.hid ⟨snoc_len HLE.out.1 hb1, Nat.le_trans HLE.out.2 (Nat.le_of_lt hb1)⟩, HRR, by omega⟩
        · obtain ⟨x, hx⟩ : ∃ x, partF s.data.toList ts k 1 = x := ⟨_, rfl⟩
          obtain rfl : gk = 4 := by omega
          clear hj
          have HX := Lib.hid hx
          have hnx : ∀ W : World, (Instr.index 78 (.agg #[.func (.func 37) #[.pointer (some ⟨G, 0, none⟩)] #[], .func (.func 38) #[.pointer (some ⟨G, 0, none⟩)] #[], .func (.func 39) #[.pointer (some ⟨G, 0, none⟩)] #[], .func (.func 40) #[.pointer (some ⟨G, 0, none⟩)] #[], .func (.func 41) #[.pointer (some ⟨G, 0, none⟩)] #[]]) (.int .i64 1)).run Tryd.prog W = .ok (.func (.func 38) #[.pointer (some ⟨G, 0, none⟩)] #[]) W := fun W => run_index_arr W _ _ _ _ _ 1 _ Tryd.underlying78 Tryd.isAgg77 Tryd.sizeOf77 (by decide) rfl rfl
          cases x with
          | none =>
            have HC : Hid (Calls Tryd.prog 38 #[.pointer (some ⟨G, 0, none⟩), .int .i64 k] wr fun e w' => e = .returned (.tuple #[.int .i64 k, .int .i64 0]) ∧ SS w' G s ts ns ∧ Far G wr w') := Lib.hid ((addComment_any G k s ts ns _ wr HSN.out.ss hks hs7 (by have := HLE.out.2; omega) HX).mono (fun e w' h => ⟨h.1, h.2.1, h.2.2⟩))
            have HRN : Hid (restF s.data.toList ts k 2 = Tk.stepF s.data.toList ts k) := Lib.hid (by rw [← HRF.out]; exact (restF_none (by decide) hx).symm)
            clear hx HRF
            go_wp2_with (first | (go_at_call 38; refine HC.out.mono ?_; rintro e w2 ⟨rfl, hs2, hf2⟩; refine hold ?_))
            have HS2 := Lib.hid (HSN.out.step hAG hGE hs2 hf2)
            clear hs2 hf2 hnx
            refine go_on ?_
            go_wp2
            go_roundg 3
            case measure => omega
            case rel => exact ⟨2, by omega, rfl, by go_num, HS2, HRN⟩
          | some y =>
            have hst : Tk.stepF s.data.toList ts k = y := by rw [← HRF.out]; exact restF_some (by decide) hx
            have hgd := good_part s.data.toList ts k HKL.out 1 y hx
            have HST := Lib.hid hst
            clear hst HRF
            cases y with
            | bad e0 =>
              have HC : Hid (Calls Tryd.prog 38 #[.pointer (some ⟨G, 0, none⟩), .int .i64 k] wr fun e w' => e = .returned (.tuple #[.int .i64 k, .int .i64 e0]) ∧ SS w' G s ts ns ∧ Far G wr w') := Lib.hid ((addComment_any G k s ts ns _ wr HSN.out.ss hks hs7 (by have := HLE.out.2; omega) HX).mono (fun e w' h => ⟨h.1, h.2.1, h.2.2⟩))
              have he0 : ((e0 : Int) != 0) = true := by simp only [bne_iff_ne, ne_eq]; rcases hgd with h | h | h <;> omega
              have he1 : e0 ≠ 0 := by rcases hgd with h | h | h <;> omega
              have HRR := scan_bad HR1.out HKL.out HST.out
              subst HRR
              clear hx hgd
              go_wp2_with (first | (go_at_call 38; refine HC.out.mono ?_; rintro e w2 ⟨rfl, hs2, hf2⟩; refine hold ?_))
              have HS2 := Lib.hid (HSN.out.step hAG hGE hs2 hf2)
              clear hs2 hf2 hnx
              refine go_on ?_
              go_wp2
              try rw [Exit.noGoto_ret]
              go_ret2
              exact ⟨HS2.out.far, rfl, he1, ts, ns, HS2.out.ss⟩
            | sp b0 =>
              have HC : Hid (Calls Tryd.prog 38 #[.pointer (some ⟨G, 0, none⟩), .int .i64 k] wr fun e w' => e = .returned (.tuple #[.int .i64 b0, .int .i64 0]) ∧ SS w' G s ts ns ∧ Far G wr w') := Lib.hid ((addComment_any G k s ts ns _ wr HSN.out.ss hks hs7 (by have := HLE.out.2; omega) HX).mono (fun e w' h => ⟨h.1, h.2.1, h.2.2⟩))
              obtain ⟨hb1, hb2⟩ := hgd
              rw [HLN.out] at hb2
              have hb3 : (k : Int) < b0 := by omega
              have HRR := Lib.hid (scan_sp HR1.out HKL.out HST.out)
              have hgd : True := trivial
              clear hx hgd
              go_wp2_with (first | (go_at_call 38; refine HC.out.mono ?_; rintro e w2 ⟨rfl, hs2, hf2⟩; refine hold ?_))
              have HS2 := Lib.hid (HSN.out.step hAG hGE hs2 hf2)
              clear hs2 hf2 hnx
              refine go_on ?_
              go_wp2
              go_roundg g0
              case measure => omega
              case rel => exact ⟨b0, ts, ns, rfl, hb2, HS2, Lib.hid ⟨Nat.le_trans HLE.out.1 (Nat.le_of_lt hb1), Nat.le_trans HLE.out.2 (Nat.le_of_lt hb1)⟩, HRR, by omega⟩
            | note b0 =>
              have HC : Hid (Calls Tryd.prog 38 #[.pointer (some ⟨G, 0, none⟩), .int .i64 k] wr fun e w' => e = .returned (.tuple #[.int .i64 b0, .int .i64 0]) ∧ SS w' G s ts (ns ++ [(k, b0)]) ∧ Far G wr w') := Lib.hid ((addComment_any G k s ts ns _ wr HSN.out.ss hks hs7 (by have := HLE.out.2; omega) HX).mono (fun e w' h => ⟨h.1, h.2.1, h.2.2⟩))
              obtain ⟨hb1, hb2⟩ := hgd
              rw [HLN.out] at hb2
              have hb3 : (k : Int) < b0 := by omega
              have HRR := Lib.hid (scan_note HR1.out HKL.out HST.out)
              have hgd : True := trivial
              clear hx hgd
              go_wp2_with (first | (go_at_call 38; refine HC.out.mono ?_; rintro e w2 ⟨rfl, hs2, hf2⟩; refine hold ?_))
              have HS2 := Lib.hid (HSN.out.step hAG hGE hs2 hf2)
              clear hs2 hf2 hnx
              refine go_on ?_
              go_wp2
              go_roundg g0
              case measure => omega
              case rel => exact ⟨b0, ts, ns ++ [(k, b0)], rfl, hb2, HS2, Lib.hid ⟨Nat.le_trans HLE.out.1 (Nat.le_of_lt hb1), snoc_len HLE.out.2 hb1⟩, HRR, by omega⟩
            | tok kd b0 =>
              have HC : Hid (Calls Tryd.prog 38 #[.pointer (some ⟨G, 0, none⟩), .int .i64 k] wr fun e w' => e = .returned (.tuple #[.int .i64 b0, .int .i64 0]) ∧ SS w' G s (ts ++ [(kd, k, b0)]) ns ∧ Far G wr w') := Lib.hid ((addComment_any G k s ts ns _ wr HSN.out.ss hks hs7 (by have := HLE.out.2; omega) HX).mono (fun e w' h => ⟨h.1, h.2.1, h.2.2⟩))
              obtain ⟨hb1, hb2⟩ := hgd
              rw [HLN.out] at hb2
              have hb3 : (k : Int) < b0 := by omega
              have HRR := Lib.hid (scan_tok HR1.out HKL.out HST.out)
              have hgd : True := trivial
              clear hx hgd
              go_wp2_with (first | (go_at_call 38; refine HC.out.mono ?_; rintro e w2 ⟨rfl, hs2, hf2⟩; refine hold ?_))
              have HS2 := Lib.hid (HSN.out.step hAG hGE hs2 hf2)
              clear hs2 hf2 hnx
              refine go_on ?_
              go_wp2
              go_roundg g0
              case measure => omega
              case rel => exact ⟨b0, ts ++ [(kd, k, b0)], ns, rfl, hb2, HS2, Lib.hid ⟨snoc_len HLE.out.1 hb1, Nat.le_trans HLE.out.2 (Nat.le_of_lt hb1)⟩, HRR, by omega⟩
        · obtain ⟨x, hx⟩ : ∃ x, partF s.data.toList ts k 2 = x := ⟨_, rfl⟩
          obtain rfl : gk = 3 := by omega
          clear hj
          have HX := Lib.hid hx
          have hnx : ∀ W : World, (Instr.index 78 (.agg #[.func (.func 37) #[.pointer (some ⟨G, 0, none⟩)] #[], .func (.func 38) #[.pointer (some ⟨G, 0, none⟩)] #[], .func (.func 39) #[.pointer (some ⟨G, 0, none⟩)] #[], .func (.func 40) #[.pointer (some ⟨G, 0, none⟩)] #[], .func (.func 41) #[.pointer (some ⟨G, 0, none⟩)] #[]]) (.int .i64 2)).run Tryd.prog W = .ok (.func (.func 39) #[.pointer (some ⟨G, 0, none⟩)] #[]) W := fun W => run_index_arr W _ _ _ _ _ 2 _ Tryd.underlying78 Tryd.isAgg77 Tryd.sizeOf77 (by decide) rfl rfl
          cases x with
          | none =>
            have HC : Hid (Calls Tryd.prog 39 #[.pointer (some ⟨G, 0, none⟩), .int .i64 k] wr fun e w' => e = .returned (.tuple #[.int .i64 k, .int .i64 0]) ∧ SS w' G s ts ns ∧ Far G wr w') := Lib.hid ((addWord_any G k s ts ns _ wr HSN.out.ss hks hs7 (by have := HLE.out.1; omega) HX).mono (fun e w' h => ⟨h.1, h.2.1, h.2.2⟩))
            have HRN : Hid (restF s.data.toList ts k 3 = Tk.stepF s.data.toList ts k) := Lib.hid (by rw [← HRF.out]; exact (restF_none (by decide) hx).symm)
            clear hx HRF
            go_wp2_with (first | (go_at_call 39; refine HC.out.mono ?_; rintro e w2 ⟨rfl, hs2, hf2⟩; refine hold ?_))
            have HS2 := Lib.hid (HSN.out.step hAG hGE hs2 hf2)
            clear hs2 hf2 hnx
            refine go_on ?_
            go_wp2
            go_roundg 2
            case measure => omega
            case rel => exact ⟨3, by omega, rfl, by go_num, HS2, HRN⟩
          | some y =>
            have hst : Tk.stepF s.data.toList ts k = y := by rw [← HRF.out]; exact restF_some (by decide) hx
            have hgd := good_part s.data.toList ts k HKL.out 2 y hx
            have HST := Lib.hid hst
            clear hst HRF
            cases y with
            | bad e0 =>
              have HC : Hid (Calls Tryd.prog 39 #[.pointer (some ⟨G, 0, none⟩), .int .i64 k] wr fun e w' => e = .returned (.tuple #[.int .i64 k, .int .i64 e0]) ∧ SS w' G s ts ns ∧ Far G wr w') := Lib.hid ((addWord_any G k s ts ns _ wr HSN.out.ss hks hs7 (by have := HLE.out.1; omega) HX).mono (fun e w' h => ⟨h.1, h.2.1, h.2.2⟩))
              have he0 : ((e0 : Int) != 0) = true := by simp only [bne_iff_ne, ne_eq]; rcases hgd with h | h | h <;> omega
              have he1 : e0 ≠ 0 := by rcases hgd with h | h | h <;> omega
              have HRR := scan_bad HR1.out HKL.out HST.out
              subst HRR
              clear hx hgd
              go_wp2_with (first | (go_at_call 39; refine HC.out.mono ?_; rintro e w2 ⟨rfl, hs2, hf2⟩; refine hold ?_))
              have HS2 := Lib.hid (HSN.out.step hAG hGE hs2 hf2)
              clear hs2 hf2 hnx
              refine go_on ?_
              go_wp2
              try rw [Exit.noGoto_ret]
              go_ret2
              exact ⟨HS2.out.far, rfl, he1, ts, ns, HS2.out.ss⟩
            | sp b0 =>
              have HC : Hid (Calls Tryd.prog 39 #[.pointer (some ⟨G, 0, none⟩), .int .i64 k] wr fun e w' => e = .returned (.tuple #[.int .i64 b0, .int .i64 0]) ∧ SS w' G s ts ns ∧ Far G wr w') := Lib.hid ((addWord_any G k s ts ns _ wr HSN.out.ss hks hs7 (by have := HLE.out.1; omega) HX).mono (fun e w' h => ⟨h.1, h.2.1, h.2.2⟩))
              obtain ⟨hb1, hb2⟩ := hgd
              rw [HLN.out] at hb2
              have hb3 : (k : Int) < b0 := by omega
              have HRR := Lib.hid (scan_sp HR1.out HKL.out HST.out)
              have hgd : True := trivial
              clear hx hgd
              go_wp2_with (first | (go_at_call 39; refine HC.out.mono ?_; rintro e w2 ⟨rfl, hs2, hf2⟩; refine hold ?_))
              have HS2 := Lib.hid (HSN.out.step hAG hGE hs2 hf2)
              clear hs2 hf2 hnx
              refine go_on ?_
              go_wp2
              go_roundg g0
              case measure => omega
              case rel => exact ⟨b0, ts, ns, rfl, hb2, HS2, Lib.hid ⟨Nat.le_trans HLE.out.1 (Nat.le_of_lt hb1), Nat.le_trans HLE.out.2 (Nat.le_of_lt hb1)⟩, HRR, by omega⟩
            | note b0 =>
              have HC : Hid (Calls Tryd.prog 39 #[.pointer (some ⟨G, 0, none⟩), .int .i64 k] wr fun e w' => e = .returned (.tuple #[.int .i64 b0, .int .i64 0]) ∧ SS w' G s ts (ns ++ [(k, b0)]) ∧ Far G wr w') := Lib.hid ((addWord_any G k s ts ns _ wr HSN.out.ss hks hs7 (by have := HLE.out.1; omega) HX).mono (fun e w' h => ⟨h.1, h.2.1, h.2.2⟩))
              obtain ⟨hb1, hb2⟩ := hgd
              rw [HLN.out] at hb2
              have hb3 : (k : Int) < b0 := by omega
              have HRR := Lib.hid (scan_note HR1.out HKL.out HST.out)
              have hgd : True := trivial
              clear hx hgd
              go_wp2_with (first | (go_at_call 39; refine HC.out.mono ?_; rintro e w2 ⟨rfl, hs2, hf2⟩; refine hold ?_))
              have HS2 := Lib.hid (HSN.out.step hAG hGE hs2 hf2)
              clear hs2 hf2 hnx
              refine go_on ?_
              go_wp2
              go_roundg g0
              case measure => omega
              case rel => exact ⟨b0, ts, ns ++ [(k, b0)], rfl, hb2, HS2, Lib.hid ⟨Nat.le_trans HLE.out.1 (Nat.le_of_lt hb1), snoc_len HLE.out.2 hb1⟩, HRR, by omega⟩
            | tok kd b0 =>
              have HC : Hid (Calls Tryd.prog 39 #[.pointer (some ⟨G, 0, none⟩), .int .i64 k] wr fun e w' => e = .returned (.tuple #[.int .i64 b0, .int .i64 0]) ∧ SS w' G s (ts ++ [(kd, k, b0)]) ns ∧ Far G wr w') := Lib.hid ((addWord_any G k s ts ns _ wr HSN.out.ss hks hs7 (by have := HLE.out.1; omega) HX).mono (fun e w' h => ⟨h.1, h.2.1, h.2.2⟩))
              obtain ⟨hb1, hb2⟩ := hgd
              rw [HLN.out] at hb2
              have hb3 : (k : Int) < b0 := by omega
              have HRR := Lib.hid (scan_tok HR1.out HKL.out HST.out)
              have hgd : True := trivial
              clear hx hgd
              go_wp2_with (first | (go_at_call 39; refine HC.out.mono ?_; rintro e w2 ⟨rfl, hs2, hf2⟩; refine hold ?_))
              have HS2 := Lib.hid (HSN.out.step hAG hGE hs2 hf2)
              clear hs2 hf2 hnx
              refine go_on ?_
              go_wp2
              go_roundg g0
              case measure => omega
              case rel => exact ⟨b0, ts ++ [(kd, k, b0)], ns, rfl, hb2, HS2, Lib.hid ⟨snoc_len HLE.out.1 hb1, Nat.le_trans HLE.out.2 (Nat.le_of_lt hb1)⟩, HRR, by omega⟩
        · obtain ⟨x, hx⟩ : ∃ x, partF s.data.toList ts k 3 = x := ⟨_, rfl⟩
          obtain rfl : gk = 2 := by omega
          clear hj
          have HX := Lib.hid hx
          have hnx : ∀ W : World, (Instr.index 78 (.agg #[.func (.func 37) #[.pointer (some ⟨G, 0, none⟩)] #[], .func (.func 38) #[.pointer (some ⟨G, 0, none⟩)] #[], .func (.func 39) #[.pointer (some ⟨G, 0, none⟩)] #[], .func (.func 40) #[.pointer (some ⟨G, 0, none⟩)] #[], .func (.func 41) #[.pointer (some ⟨G, 0, none⟩)] #[]]) (.int .i64 3)).run Tryd.prog W = .ok (.func (.func 40) #[.pointer (some ⟨G, 0, none⟩)] #[]) W := fun W => run_index_arr W _ _ _ _ _ 3 _ Tryd.underlying78 Tryd.isAgg77 Tryd.sizeOf77 (by decide) rfl rfl
          cases x with
          | none =>
            have HC : Hid (Calls Tryd.prog 40 #[.pointer (some ⟨G, 0, none⟩), .int .i64 k] wr fun e w' => e = .returned (.tuple #[.int .i64 k, .int .i64 0]) ∧ SS w' G s ts ns ∧ Far G wr w') := Lib.hid ((addNumber_any G k s ts ns _ wr HSN.out.ss HSN.out.erg hGE hks hs7 (by have := HLE.out.1; omega) HX).mono (fun e w' h => ⟨h.1, h.2.1, h.2.2⟩))
            have HRN : Hid (restF s.data.toList ts k 4 = Tk.stepF s.data.toList ts k) := Lib.hid (by rw [← HRF.out]; exact (restF_none (by decide) hx).symm)
            clear hx HRF
            go_wp2_with (first | (go_at_call 40; refine HC.out.mono ?_; rintro e w2 ⟨rfl, hs2, hf2⟩; refine hold ?_))
            have HS2 := Lib.hid (HSN.out.step hAG hGE hs2 hf2)
            clear hs2 hf2 hnx
            refine go_on ?_
            go_wp2
            go_roundg 1
            case measure => omega
            case rel => exact ⟨4, by omega, rfl, by go_num, HS2, HRN⟩
          | some y =>
            have hst : Tk.stepF s.data.toList ts k = y := by rw [← HRF.out]; exact restF_some (by decide) hx
            have hgd := good_part s.data.toList ts k HKL.out 3 y hx
            have HST := Lib.hid hst
            clear hst HRF
            cases y with
            | bad e0 =>
              have HC : Hid (Calls Tryd.prog 40 #[.pointer (some ⟨G, 0, none⟩), .int .i64 k] wr fun e w' => e = .returned (.tuple #[.int .i64 k, .int .i64 e0]) ∧ SS w' G s ts ns ∧ Far G wr w') := Lib.hid ((addNumber_any G k s ts ns _ wr HSN.out.ss HSN.out.erg hGE hks hs7 (by have := HLE.out.1; omega) HX).mono (fun e w' h => ⟨h.1, h.2.1, h.2.2⟩))
              have he0 : ((e0 : Int) != 0) = true := by simp only [bne_iff_ne, ne_eq]; rcases hgd with h | h | h <;> omega
              have he1 : e0 ≠ 0 := by rcases hgd with h | h | h <;> omega
              have HRR := scan_bad HR1.out HKL.out HST.out
              subst HRR
              clear hx hgd
              go_wp2_with (first | (go_at_call 40; refine HC.out.mono ?_; rintro e w2 ⟨rfl, hs2, hf2⟩; refine hold ?_))
              have HS2 := Lib.hid (HSN.out.step hAG hGE hs2 hf2)
              clear hs2 hf2 hnx
              refine go_on ?_
              go_wp2
              try rw [Exit.noGoto_ret]
              go_ret2
              exact ⟨HS2.out.far, rfl, he1, ts, ns, HS2.out.ss⟩
            | sp b0 =>
              have HC : Hid (Calls Tryd.prog 40 #[.pointer (some ⟨G, 0, none⟩), .int .i64 k] wr fun e w' => e = .returned (.tuple #[.int .i64 b0, .int .i64 0]) ∧ SS w' G s ts ns ∧ Far G wr w') := Lib.hid ((addNumber_any G k s ts ns _ wr HSN.out.ss HSN.out.erg hGE hks hs7 (by have := HLE.out.1; omega) HX).mono (fun e w' h => ⟨h.1, h.2.1, h.2.2⟩))
              obtain ⟨hb1, hb2⟩ := hgd
              rw [HLN.out] at hb2
              have hb3 : (k : Int) < b0 := by omega
              have HRR := Lib.hid (scan_sp HR1.out HKL.out HST.out)
              have hgd : True := trivial
              clear hx hgd
              go_wp2_with (first | (go_at_call 40; refine HC.out.mono ?_; rintro e w2 ⟨rfl, hs2, hf2⟩; refine hold ?_))
              have HS2 := Lib.hid (HSN.out.step hAG hGE hs2 hf2)
              clear hs2 hf2 hnx
              refine go_on ?_
              go_wp2
              go_roundg g0
              case measure => omega
              case rel => exact ⟨b0, ts, ns, rfl, hb2, HS2, Lib.hid ⟨Nat.le_trans HLE.out.1 (Nat.le_of_lt hb1), Nat.le_trans HLE.out.2 (Nat.le_of_lt hb1)⟩, HRR, by omega⟩
            | note b0 =>
              have HC : Hid (Calls Tryd.prog 40 #[.pointer (some ⟨G, 0, none⟩), .int .i64 k] wr fun e w' => e = .returned (.tuple #[.int .i64 b0, .int .i64 0]) ∧ SS w' G s ts (ns ++ [(k, b0)]) ∧ Far G wr w') := Lib.hid ((addNumber_any G k s ts ns _ wr HSN.out.ss HSN.out.erg hGE hks hs7 (by have := HLE.out.1; omega) HX).mono (fun e w' h => ⟨h.1, h.2.1, h.2.2⟩))
              obtain ⟨hb1, hb2⟩ := hgd
              rw [HLN.out] at hb2
              have hb3 : (k : Int) < b0 := by omega
              have HRR := Lib.hid (scan_note HR1.out HKL.out HST.out)
              have hgd : True := trivial
              clear hx hgd
              go_wp2_with (first | (go_at_call 40; refine HC.out.mono ?_; rintro e w2 ⟨rfl, hs2, hf2⟩; refine hold ?_))
              have HS2 := Lib.hid (HSN.out.step hAG hGE hs2 hf2)
              clear hs2 hf2 hnx
              refine go_on ?_
              go_wp2
              go_roundg g0
              case measure => omega
              case rel => exact ⟨b0, ts, ns ++ [(k, b0)], rfl, hb2, HS2, Lib.hid ⟨Nat.le_trans HLE.out.1 (Nat.le_of_lt hb1), snoc_len HLE.out.2 hb1⟩, HRR, by omega⟩
            | tok kd b0 =>
              have HC : Hid (Calls Tryd.prog 40 #[.pointer (some ⟨G, 0, none⟩), .int .i64 k] wr fun e w' => e = .returned (.tuple #[.int .i64 b0, .int .i64 0]) ∧ SS w' G s (ts ++ [(kd, k, b0)]) ns ∧ Far G wr w') := Lib.hid ((addNumber_any G k s ts ns _ wr HSN.out.ss HSN.out.erg hGE hks hs7 (by have := HLE.out.1; omega) HX).mono (fun e w' h => ⟨h.1, h.2.1, h.2.2⟩))
              obtain ⟨hb1, hb2⟩ := hgd
              rw [HLN.out] at hb2
              have hb3 : (k : Int) < b0 := by omega
              have HRR := Lib.hid (scan_tok HR1.out HKL.out HST.out)
              have hgd : True := trivial
              clear hx hgd
              go_wp2_with (first | (go_at_call 40; refine HC.out.mono ?_; rintro e w2 ⟨rfl, hs2, hf2⟩; refine hold ?_))
              have HS2 := Lib.hid (HSN.out.step hAG hGE hs2 hf2)
              clear hs2 hf2 hnx
              refine go_on ?_
              go_wp2
              go_roundg g0
              case measure => omega
              case rel => exact ⟨b0, ts ++ [(kd, k, b0)], ns, rfl, hb2, HS2, Lib.hid ⟨snoc_len HLE.out.1 hb1, Nat.le_trans HLE.out.2 (Nat.le_of_lt hb1)⟩, HRR, by omega⟩
        · obtain ⟨x, hx⟩ : ∃ x, partF s.data.toList ts k 4 = x := ⟨_, rfl⟩
          obtain rfl : gk = 1 := by omega
          clear hj
          have HX := Lib.hid hx
          have hnx : ∀ W : World, (Instr.index 78 (.agg #[.func (.func 37) #[.pointer (some ⟨G, 0, none⟩)] #[], .func (.func 38) #[.pointer (some ⟨G, 0, none⟩)] #[], .func (.func 39) #[.pointer (some ⟨G, 0, none⟩)] #[], .func (.func 40) #[.pointer (some ⟨G, 0, none⟩)] #[], .func (.func 41) #[.pointer (some ⟨G, 0, none⟩)] #[]]) (.int .i64 4)).run Tryd.prog W = .ok (.func (.func 41) #[.pointer (some ⟨G, 0, none⟩)] #[]) W := fun W => run_index_arr W _ _ _ _ _ 4 _ Tryd.underlying78 Tryd.isAgg77 Tryd.sizeOf77 (by decide) rfl rfl
          cases x with
          | none =>
            have HC : Hid (Calls Tryd.prog 41 #[.pointer (some ⟨G, 0, none⟩), .int .i64 k] wr fun e w' => e = .returned (.tuple #[.int .i64 k, .int .i64 0]) ∧ SS w' G s ts ns ∧ Far G wr w') := Lib.hid ((addSign_any G k s ts ns _ wr HSN.out.ss hks hs7 (by have := HLE.out.1; omega) HX).mono (fun e w' h => ⟨h.1, h.2.1, h.2.2⟩))
            have HRN : Hid (restF s.data.toList ts k 5 = Tk.stepF s.data.toList ts k) := Lib.hid (by rw [← HRF.out]; exact (restF_none (by decide) hx).symm)
            clear hx HRF
            go_wp2_with (first | (go_at_call 41; refine HC.out.mono ?_; rintro e w2 ⟨rfl, hs2, hf2⟩; refine hold ?_))
            have HS2 := Lib.hid (HSN.out.step hAG hGE hs2 hf2)
            clear hs2 hf2 hnx
            refine go_on ?_
            go_wp2
            go_roundg 0
            case measure => omega
            case rel => exact ⟨5, by omega, rfl, by go_num, HS2, HRN⟩
          | some y =>
            have hst : Tk.stepF s.data.toList ts k = y := by rw [← HRF.out]; exact restF_some (by decide) hx
            have hgd := good_part s.data.toList ts k HKL.out 4 y hx
            have HST := Lib.hid hst
            clear hst HRF
            cases y with
            | bad e0 =>
              have HC : Hid (Calls Tryd.prog 41 #[.pointer (some ⟨G, 0, none⟩), .int .i64 k] wr fun e w' => e = .returned (.tuple #[.int .i64 k, .int .i64 e0]) ∧ SS w' G s ts ns ∧ Far G wr w') := Lib.hid ((addSign_any G k s ts ns _ wr HSN.out.ss hks hs7 (by have := HLE.out.1; omega) HX).mono (fun e w' h => ⟨h.1, h.2.1, h.2.2⟩))
              have he0 : ((e0 : Int) != 0) = true := by simp only [bne_iff_ne, ne_eq]; rcases hgd with h | h | h <;> omega
              have he1 : e0 ≠ 0 := by rcases hgd with h | h | h <;> omega
              have HRR := scan_bad HR1.out HKL.out HST.out
              subst HRR
              clear hx hgd
              go_wp2_with (first | (go_at_call 41; refine HC.out.mono ?_; rintro e w2 ⟨rfl, hs2, hf2⟩; refine hold ?_))
              have HS2 := Lib.hid (HSN.out.step hAG hGE hs2 hf2)
              clear hs2 hf2 hnx
              refine go_on ?_
              go_wp2
              try rw [Exit.noGoto_ret]
              go_ret2
              exact ⟨HS2.out.far, rfl, he1, ts, ns, HS2.out.ss⟩
            | sp b0 =>
              have HC : Hid (Calls Tryd.prog 41 #[.pointer (some ⟨G, 0, none⟩), .int .i64 k] wr fun e w' => e = .returned (.tuple #[.int .i64 b0, .int .i64 0]) ∧ SS w' G s ts ns ∧ Far G wr w') := Lib.hid ((addSign_any G k s ts ns _ wr HSN.out.ss hks hs7 (by have := HLE.out.1; omega) HX).mono (fun e w' h => ⟨h.1, h.2.1, h.2.2⟩))
              obtain ⟨hb1, hb2⟩ := hgd
              rw [HLN.out] at hb2
              have hb3 : (k : Int) < b0 := by omega
              have HRR := Lib.hid (scan_sp HR1.out HKL.out HST.out)
              have hgd : True := trivial
              clear hx hgd
              go_wp2_with (first | (go_at_call 41; refine HC.out.mono ?_; rintro e w2 ⟨rfl, hs2, hf2⟩; refine hold ?_))
              have HS2 := Lib.hid (HSN.out.step hAG hGE hs2 hf2)
              clear hs2 hf2 hnx
              refine go_on ?_
              go_wp2
              go_roundg g0
              case measure => omega
              case rel => exact ⟨b0, ts, ns, rfl, hb2, HS2, Lib.hid ⟨Nat.le_trans HLE.out.1 (Nat.le_of_lt hb1), Nat.le_trans HLE.out.2 (Nat.le_of_lt hb1)⟩, HRR, by omega⟩
            | note b0 =>
              have HC : Hid (Calls Tryd.prog 41 #[.pointer (some ⟨G, 0, none⟩), .int .i64 k] wr fun e w' => e = .returned (.tuple #[.int .i64 b0, .int .i64 0]) ∧ SS w' G s ts (ns ++ [(k, b0)]) ∧ Far G wr w') := Lib.hid ((addSign_any G k s ts ns _ wr HSN.out.ss hks hs7 (by have := HLE.out.1; omega) HX).mono (fun e w' h => ⟨h.1, h.2.1, h.2.2⟩))
              obtain ⟨hb1, hb2⟩ := hgd
              rw [HLN.out] at hb2
              have hb3 : (k : Int) < b0 := by omega
              have HRR := Lib.hid (scan_note HR1.out HKL.out HST.out)
              have hgd : True := trivial
              clear hx hgd
              go_wp2_with (first | (go_at_call 41; refine HC.out.mono ?_; rintro e w2 ⟨rfl, hs2, hf2⟩; refine hold ?_))
              have HS2 := Lib.hid (HSN.out.step hAG hGE hs2 hf2)
              clear hs2 hf2 hnx
              refine go_on ?_
              go_wp2
              go_roundg g0
              case measure => omega
              case rel => exact ⟨b0, ts, ns ++ [(k, b0)], rfl, hb2, HS2, Lib.hid ⟨Nat.le_trans HLE.out.1 (Nat.le_of_lt hb1), snoc_len HLE.out.2 hb1⟩, HRR, by omega⟩
            | tok kd b0 =>
              have HC : Hid (Calls Tryd.prog 41 #[.pointer (some ⟨G, 0, none⟩), .int .i64 k] wr fun e w' => e = .returned (.tuple #[.int .i64 b0, .int .i64 0]) ∧ SS w' G s (ts ++ [(kd, k, b0)]) ns ∧ Far G wr w') := Lib.hid ((addSign_any G k s ts ns _ wr HSN.out.ss hks hs7 (by have := HLE.out.1; omega) HX).mono (fun e w' h => ⟨h.1, h.2.1, h.2.2⟩))
              obtain ⟨hb1, hb2⟩ := hgd
              rw [HLN.out] at hb2
              have hb3 : (k : Int) < b0 := by omega
              have HRR := Lib.hid (scan_tok HR1.out HKL.out HST.out)
              have hgd : True := trivial
              clear hx hgd
              go_wp2_with (first | (go_at_call 41; refine HC.out.mono ?_; rintro e w2 ⟨rfl, hs2, hf2⟩; refine hold ?_))
              have HS2 := Lib.hid (HSN.out.step hAG hGE hs2 hf2)
              clear hs2 hf2 hnx
              refine go_on ?_
              go_wp2
              go_roundg g0
              case measure => omega
              case rel => exact ⟨b0, ts ++ [(kd, k, b0)], ns, rfl, hb2, HS2, Lib.hid ⟨snoc_len HLE.out.1 hb1, Nat.le_trans HLE.out.2 (Nat.le_of_lt hb1)⟩, HRR, by omega⟩
        · have HRR := scan_bad HR1.out HKL.out HRF.out.symm
          subst HRR
          go_wp2
          (try rw [Exit.noGoto_ret])
          go_ret2
          exact ⟨HSN.out.far, rfl, (show (4 : Nat) ≠ 0 by decide), ts, ns, HSN.out.ss⟩
    · obtain rfl : k = s.size := by omega
      have HRR := scan_end HR1.out (by rw [← Lib.size_eq]; exact hks)
      subst HRR
      go_wp2_with (first | fail)
      refine (add_any G 6 s.size s.size s ts ns _ HSO.out.ss (Nat.le_refl _) (Nat.le_refl _) (by omega) (by omega) (by have := HLE.out.1; omega)).mono ?_
      rintro e w2 ⟨rfl, hs2, hf2⟩
      have HS2 := Lib.hid (HSO.out.step hA hGE hs2 hf2)
      clear hs2 hf2
      go_wp2
      (try rw [Exit.noGoto_ret])
      go_ret2
      exact ⟨HS2.out.far, rfl, HS2.out.ss⟩

end Go.Proofs.YtpoddcegfhgdeaaDoor
