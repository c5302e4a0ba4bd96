/- The scanner's box; what the functions that ask for a byte do; the end of a run of bytes. -/
import Derived.Test.YtpoddcegfhgdeaaDoorY1
import Derived.Test.YtpoddcegfhgdeaaDoorProg
import Derived.Test.YtpoddcegfhgdeaaDoorShelf
import Derived.WalkKit
import Derived.WalkSpells
import Derived.WalkLawsBesides
import Derived.IntWalk
import Derived.LoopTactic
import Derived.Below
import Derived.Deep.QuietTactic
import Derived.BigQuiet
import Derived.Lib.Hide
set_option linter.unusedVariables false
set_option linter.unusedSimpArgs false
namespace Go.Proofs.YtpoddcegfhgdeaaDoor
open Go.RowKit

theorem ret_int {k : IntKind} {a b : Int} (h : a = b) : Ending.returned (.int k a) = .returned (.int k b) := by rw [h]

/-- The scanner in its box: the source, the bytes of names, the tokens, the comments. -/
def Sc (W : World) (G : Nat) (s : ByteArray) (tv nv : Value) : Prop :=
  ∃ cur T, W.heap[G]? = some (.cells cur T (0, 0)) ∧ cur[0]? = some (.string s) ∧ (∀ b : UInt8, cur[1 + b.toNat]? = some (.bool (Tk.inNm b))) ∧ cur[257]? = some tv ∧ cur[258]? = some nv

theorem Sc.cell {W : World} {G : Nat} {s : ByteArray} {tv nv : Value} (h : Sc W G s tv nv) :
    W.cell? ⟨G, 0, none⟩ = some (.string s) ∧ W.cell? ⟨G, 257, none⟩ = some tv ∧ W.cell? ⟨G, 258, none⟩ = some nv := by
  obtain ⟨cur, T, h0, h1, h2, h3, h4⟩ := h
  simp only [World.cell?, h0]
  exact ⟨by simpa using h1, by simpa using h3, by simpa using h4⟩
theorem Sc.name {W : World} {G : Nat} {s : ByteArray} {tv nv : Value} (h : Sc W G s tv nv) (b : UInt8) : W.cell? ⟨G, 1 + b.toNat, none⟩ = some (.bool (Tk.inNm b)) := by
  obtain ⟨cur, T, h0, h1, h2, h3, h4⟩ := h
  simp only [World.cell?, h0]
  simpa using h2 b
theorem Sc.lt {W : World} {G : Nat} {s : ByteArray} {tv nv : Value} (h : Sc W G s tv nv) : G < W.heap.size := by
  obtain ⟨cur, T, h0, _⟩ := h
  exact (Array.getElem?_eq_some_iff.1 h0).1
theorem Sc.froz {W : World} {G : Nat} {s : ByteArray} {tv nv : Value} (h : Sc W G s tv nv) (o : Nat) : W.frozen? ⟨G, o, none⟩ = false := by
  obtain ⟨cur, T, h0, _⟩ := h
  simp [World.frozen?, h0]
theorem Sc.same {W W' : World} {G : Nat} {s : ByteArray} {tv nv : Value} (h : Sc W G s tv nv) (hk : W'.heap[G]? = W.heap[G]?) : Sc W' G s tv nv := by
  obtain ⟨cur, T, h0, h1⟩ := h
  exact ⟨cur, T, hk.trans h0, h1⟩
theorem Sc.keep {W W' : World} {G : Nat} {s : ByteArray} {tv nv : Value} (h : Sc W G s tv nv) (hb : Below W.heap.size W W') : Sc W' G s tv nv := h.same (hb.block G h.lt)

set_option maxHeartbeats 800000 in
theorem isDigit_any (c : UInt8) (w : World) : Calls Tryd.prog 36 #[.int .u8 c.toNat] w fun e w' => e = .returned (.bool (Tk.isDg c)) ∧ w = w' := by
  unfold Tk.isDg
  by_cases h1 : (48 : Int) ≤ c.toNat
  · have d1 : decide (48 ≤ c.toNat) = true := by simp; omega
    by_cases h2 : (c.toNat : Int) ≤ 57
    · have d2 : decide (c.toNat ≤ 57) = true := by simp; omega
      go_enter Tryd.func36, Tryd.ntmps36
      go_wp2
      go_ret
      exact ⟨by first | rfl | (rw [d1, d2]; rfl), rfl⟩
    · have d2 : decide (c.toNat ≤ 57) = false := by simp; omega
      go_enter Tryd.func36, Tryd.ntmps36
      go_wp2
      go_ret
      exact ⟨by first | rfl | (rw [d1, d2]; rfl), rfl⟩
  · have d1 : decide (48 ≤ c.toNat) = false := by simp; omega
    go_enter Tryd.func36, Tryd.ntmps36
    go_wp2
    go_ret
    exact ⟨by first | rfl | (rw [d1]; rfl), rfl⟩

theorem all_u8 {P : UInt8 → Prop} (h : ∀ n : Fin 256, P (UInt8.ofNat n.1)) (c : UInt8) : P c := by
  have h1 := h ⟨c.toNat, c.toNat_lt⟩
  simpa using h1
theorem indexByte_white (c : UInt8) : decide (0 ≤ Lib.indexByte [32, 9, 13, 10] c) = Tk.isSp c :=
  all_u8 (P := fun c => decide (0 ≤ Lib.indexByte [32, 9, 13, 10] c) = Tk.isSp c) (by decide +kernel) c

set_option maxHeartbeats 800000 in
theorem isSpace_any (c : UInt8) (w : World) : Calls Tryd.prog 53 #[.int .u8 c.toNat] w fun e w' => e = .returned (.bool (Tk.isSp c)) ∧ w = w' := by
  have H := Lib.hid (indexByte_white c)
  go_enter Tryd.func53, Tryd.ntmps53
  go_wp2_with (go_at_call 63; refine (Tryd.strings_IndexByte _ _ _).mono ?_; rintro e w' ⟨rfl, rfl⟩)
  go_ret
  refine ⟨?_, rfl⟩
  exact congrArg (fun b => Ending.returned (.bool b)) H.out

set_option maxHeartbeats 800000 in
theorem notLf_any (c : UInt8) (w : World) : Calls Tryd.prog 55 #[.int .u8 c.toNat] w fun e w' => e = .returned (.bool (Tk.notLf c)) ∧ w = w' := by
  unfold Tk.notLf
  by_cases h : c = 10
  · have hb : ((c.toNat : Int) != 10) = false := by subst h; rfl
    have hc : (c != 10) = false := by subst h; rfl
    clear h
    go_enter Tryd.func55, Tryd.ntmps55
    go_wp2
    go_ret
    exact ⟨by simp [hb, hc], rfl⟩
  · have hb : ((c.toNat : Int) != 10) = true := by
      simp only [bne_iff_ne, ne_eq]
      intro e
      exact h (UInt8.toNat_inj.1 (by show c.toNat = 10; omega))
    have hc : (c != 10) = true := by simpa using h
    clear h
    go_enter Tryd.func55, Tryd.ntmps55
    go_wp2
    go_ret
    exact ⟨by simp [hb, hc], rfl⟩

set_option maxHeartbeats 800000 in
theorem inNm_any (c : UInt8) (G B : Nat) (s : ByteArray) (tv nv : Value) (w : World) (hS : Sc w G s tv nv) (hB : w.cell? ⟨B, 0, none⟩ = some (.pointer (some ⟨G, 0, none⟩))) :
    Calls Tryd.prog 56 #[.int .u8 c.toNat, .pointer (some ⟨B, 0, none⟩)] w fun e w' => e = .returned (.bool (Tk.inNm c)) ∧ w = w' := by
  have hn := hS.name c
  have h1 : c.toNat < 256 := c.toNat_lt
  go_enter Tryd.func56, Tryd.ntmps56
  go_wp2
  go_ret
  exact ⟨rfl, rfl⟩

set_option maxHeartbeats 1600000 in
theorem endOf_any (g : Nat) (lb : Array Value) (p : UInt8 → Bool) (eg : ∀ args w, (callFunc g args).run Tryd.prog w = .ok (.enter g args) w) (G : Nat) (s : ByteArray) (o : Nat) (tv nv : Value) (w : World) (hS : Sc w G s tv nv) (ho : o ≤ s.size) (hs : s.size ≤ 70000)
    (hp : ∀ c : UInt8, Calls Tryd.prog g (#[.int .u8 c.toNat] ++ lb) w fun e w' => e = .returned (.bool (p c)) ∧ w = w') :
    Calls Tryd.prog 52 #[.pointer (some ⟨G, 0, none⟩), .int .i64 o, .func (.func g) #[] lb] w fun e w' => e = .returned (.int .i64 (Tk.run p s.data.toList o)) ∧ w = w' := by
  obtain ⟨c0, _, _⟩ := hS.cell
  have hl : s.data.toList.length = s.size := by simp
  go_enter Tryd.func52, Tryd.ntmps52
  go_wp2
  go_loop [1] (fun i => ∃ k : Nat, o ≤ k ∧ k ≤ s.size ∧ i = .int .i64 k ∧ Hid (Tk.run p s.data.toList k = Tk.run p s.data.toList o)) (fun i => s.size - (intOf i).toNat)
  case atStart => exact ⟨o, Nat.le_refl _, ho, rfl, Lib.hid rfl⟩
  case round =>
    obtain ⟨k, h1, h2, rfl, HR⟩ := hrel
    by_cases hlt : k < s.size
    · obtain ⟨b, hb⟩ : ∃ b, p s[k] = b := ⟨_, rfl⟩
      have hc := hp s[k]
      rw [hb] at hc
      have HC := Lib.hid hc
      clear hc
      have h3 : k < s.data.toList.length := by omega
      have h4 : s.data.toList[k] = s[k] := rfl
      cases b
      · have HE : Hid (Tk.run p s.data.toList o = k) := Lib.hid (by rw [← HR.out]; exact Tk.run_no p _ k h3 (by rw [h4]; exact hb))
        clear hb h4
        go_wp2_with (go_at_fn g; refine HC.out.mono ?_; rintro e w' ⟨rfl, rfl⟩)
        go_ret
        exact ⟨ret_int (by rw [HE.out]), rfl⟩
      · have HE : Hid (Tk.run p s.data.toList (k + 1) = Tk.run p s.data.toList o) := Lib.hid (by rw [← HR.out]; exact (Tk.run_yes p _ k h3 (by rw [h4]; exact hb)).symm)
        clear hb h4
        go_wp2_with (go_at_fn g; refine HC.out.mono ?_; rintro e w' ⟨rfl, rfl⟩)
        go_round
        case rel => exact ⟨k + 1, by omega, by omega, by go_num, HE⟩
        case measure => simp [intOf]; omega
    · obtain rfl : k = s.size := by omega
      have HE : Hid (Tk.run p s.data.toList o = s.size) := Lib.hid (by rw [← HR.out]; exact Tk.run_end p _ _ (by omega))
      go_wp2
      go_ret
      exact ⟨ret_int (by rw [HE.out]), rfl⟩

end Go.Proofs.YtpoddcegfhgdeaaDoor
