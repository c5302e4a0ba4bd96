/- The law's texts; awake: the examples of the chapter. -/
import Derived.Test.YtpoddcegfhgdeaaDoorYC
set_option linter.unusedVariables false
set_option linter.unusedSimpArgs false
namespace Go.Proofs.YtpoddcegfhgdeaaDoor
open Go.RowKit

theorem Scan_bad (s : ByteArray) (o e : Nat) (oi ei : Int) (w : World) (her : Erg w) (hs : s.size ≤ 1000000) (hR : Hid (Tk.scanF s.data.toList = .inl (o, e))) (ho : (o : Int) = oi) (he : (e : Int) = ei) :
    Calls Tryd.prog 11 #[.string s] w fun x w' => x = .returned (.tuple #[.slice none 0 0, .slice none 0 0, .int .i64 oi, .int .i64 ei]) ∧ Below w.heap.size w w' := by
  subst ho
  subst he
  refine (Scan_any s _ w her hs hR).mono ?_
  rintro x w' ⟨hb, rfl, _⟩
  exact ⟨rfl, hb⟩

/-- What Scan hands back of a good source. -/
def Scanned (s : ByteArray) (ts : List Tk.Tok) (ns : List (Nat × Nat)) (B : Nat) (W : World) (tv nv : Value) : Prop := TokRow B W tv s ts ∧ NoteRow B W nv ns
theorem Scanned.keep {s : ByteArray} {ts : List Tk.Tok} {ns : List (Nat × Nat)} {B : Nat} {W W' : World} {tv nv : Value} (h : Scanned s ts ns B W tv nv) (hb : Below W.heap.size W W') : Scanned s ts ns B W' tv nv :=
  ⟨own_same h.1 fun g hg => hb.block g (own_type h.1 hg).choose_spec.2.2, own_same h.2 fun g hg => hb.block g (own_type h.2 hg).choose_spec.2.2⟩
theorem Scan_good (s : ByteArray) (ts : List Tk.Tok) (ns : List (Nat × Nat)) (w : World) (her : Erg w) (hs : s.size ≤ 1000000) (hR : Hid (Tk.scanF s.data.toList = .inr (ts, ns))) :
    Calls Tryd.prog 11 #[.string s] w fun x w' => ∃ ta tc na nc, x = .returned (.tuple #[.slice ta ts.length tc, .slice na ns.length nc, .int .i64 0, .int .i64 0]) ∧ Scanned s ts ns w.heap.size w' (.slice ta ts.length tc) (.slice na ns.length nc) ∧ Below w.heap.size w w' := by
  refine (Scan_any s _ w her hs hR).mono ?_
  rintro x w' ⟨hb, tv, nv, rfl, ht, hn⟩
  have h1 : ∃ a c, tv = .slice a ts.length c := by
    rcases ht.2 with ⟨h, h0⟩ | ⟨g, cap, cur, h, _⟩
    · exact ⟨none, 0, by rw [h, h0]⟩
    · exact ⟨_, cap, h⟩
  have h2 : ∃ a c, nv = .slice a ns.length c := by
    rcases hn.2 with ⟨h, h0⟩ | ⟨g, cap, cur, h, _⟩
    · exact ⟨none, 0, by rw [h, h0]⟩
    · exact ⟨_, cap, h⟩
  obtain ⟨ta, tc, rfl⟩ := h1
  obtain ⟨na, nc, rfl⟩ := h2
  exact ⟨ta, tc, na, nc, rfl, ⟨ht, hn⟩, hb⟩

/-- A row of strings. -/
def StrRow (W : World) (b : Nat) (Ls : List ByteArray) : Prop := b < W.heap.size ∧ ∀ (j : Nat) (h : j < Ls.length), W.cell? ⟨b, j, none⟩ = some (.string Ls[j])
theorem StrRow.keep {W W' : World} {b : Nat} {Ls : List ByteArray} (h : StrRow W b Ls) (hb : Below W.heap.size W W') : StrRow W' b Ls :=
  ⟨Nat.lt_of_lt_of_le h.1 hb.size, fun j hj => (hb.cell (p := ⟨b, j, none⟩) h.1).trans (h.2 j hj)⟩
theorem StrRow.new (W : World) (Ls : List ByteArray) (T : TypeId) : StrRow (W.alloc (.cells (Ls.map Value.string).toArray T)) W.heap.size Ls := by
  refine ⟨by simp, fun j hj => ?_⟩
  rw [cell_of_row _ _ _ _ _ _ (heap_alloc_new W (.cells (Ls.map Value.string).toArray T))]
  simp [hj]

set_option maxRecDepth 100000 in
set_option maxHeartbeats 12800000 in
theorem texts_true (s : ByteArray) (b : Nat) (n : Nat) (Ls : List ByteArray) (ts : List Tk.Tok) (ns : List (Nat × Nat)) (w : World) (her : Erg w) (hs : s.size ≤ 1000000) (hR : Hid (Tk.scanF s.data.toList = .inr (ts, ns))) (hL : StrRow w b Ls) (hn : Hid (Ls.length = n)) (hn2 : n ≤ 1000000) (ht : Hid (ts.length = n + 1))
    (hx : Hid (∀ (j : Nat) (h : j < ts.length) (h' : j < Ls.length), s.extract ts[j].2.1 ts[j].2.2 = Ls[j])) :
    Calls Tryd.prog 19 #[.string s, .slice (some ⟨b, 0, none⟩) n n] w fun e w' => e = .returned (.bool true) ∧ Below w.heap.size w w' := by
  have HL := Lib.hid hL
  clear hL
  go_enter Tryd.func19, Tryd.ntmps19
  go_wp2_with fail
  refine (Scan_good s ts ns _ her hs hR).mono ?_
  rintro e w1 ⟨ta, tc, na, nc, rfl, hsc, hb⟩
  rw [ht.out] at hsc ⊢
  have HSC := Lib.hid hsc.1
  have HL1 := Lib.hid (HL.out.keep hb)
  have HB := Lib.hid hb
  have hnn : (((n + 1 : Nat) : Int) != (n : Int) + 1) = false := by simp
  clear hsc hb her
  go_wp2
  clear hnn
  go_loopw [9] (fun i wr => ∃ k : Nat, k ≤ n ∧ i = .int .i64 k ∧ Hid (Below w1.heap.size w1 wr)) (fun i _ => n - (intOf i).toNat)
  case atStart => exact ⟨0, Nat.zero_le _, rfl, Lib.hid (Below.refl _ _)⟩
  case round =>
    obtain ⟨k, hk, rfl, HW⟩ := hrel
    by_cases hlt : k < n
    · have hk1 : k < ts.length := by rw [ht.out]; omega
      have hk2 : k < Ls.length := by rw [hn.out]; exact hlt
      obtain ⟨g, cap, hv, hg, _, c0, c1, c2, c3⟩ := HSC.out.at k hk1
      rw [ht.out] at hv
      cases hv
      have e1 := hx.out k hk1 hk2
      rw [e1] at c1
      obtain ⟨X, hX⟩ : ∃ X, Ls[k] = X := ⟨_, rfl⟩
      have d1 := HL1.out.2 k hk2
      rw [hX] at d1 c1
      have a1 := (HW.out.cell (p := ⟨g, k * 4 + 1, none⟩) hg).trans c1
      have a2 := (HW.out.cell (p := ⟨b, k, none⟩) HL1.out.1).trans d1
      have hi1 : (k : Int) < n := by omega
      have hi2 : (k : Int) < (n : Int) + 1 := by omega
      clear c0 c1 c2 c3 d1 e1 hX hk1 hk2
      go_wp2
      go_region
      go_wp2
      go_roundw
      case rel => exact ⟨k + 1, by omega, by go_num, Lib.hid HW.out.drew⟩
      case measure => simp [intOf]; omega
    · obtain rfl : n = k := by omega
      have hnn : ¬ (n : Int) < n := by omega
      go_wp2
      go_ret
      exact ⟨rfl, HB.out.trans (HW.out.mono HB.out.size)⟩

end Go.Proofs.YtpoddcegfhgdeaaDoor
