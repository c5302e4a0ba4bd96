/- The law TokenWords: the reference's Keyword. -/
import Derived.Test.YtpoddcegfhgdeaaDoorYE
set_option linter.unusedVariables false
set_option linter.unusedSimpArgs false
namespace Go.Proofs.YtpoddcegfhgdeaaDoor
open Go.RowKit

/-- Is a text among some texts? -/
def isIn (Ls : List ByteArray) (x : ByteArray) : Bool := Ls.any (fun y => y.toList == x.toList)

set_option maxRecDepth 100000 in
set_option maxHeartbeats 6400000 in
theorem in_any (g n : Nat) (Ls : List ByteArray) (x : ByteArray) (r : Bool) (w : World) (hL : StrRow w g Ls) (hn : Hid (Ls.length = n)) (hn2 : n ≤ 100000) (hr : Hid (isIn Ls x = r)) :
    Calls Tryd.prog 26 #[.slice (some ⟨g, 0, none⟩) n n, .string x] w fun e w' => e = .returned (.bool r) ∧ w = w' := by
  have HL := Lib.hid hL
  clear hL
  go_enter Tryd.func26, Tryd.ntmps26
  go_wp2
  go_loop [5] (fun i => ∃ k : Nat, k ≤ n ∧ i = .int .i64 k ∧ Hid (isIn (Ls.drop k) x = r)) (fun i => n - (intOf i).toNat)
  case atStart => exact ⟨0, Nat.zero_le _, rfl, hr⟩
  case round =>
    obtain ⟨k, hk, rfl, HI⟩ := hrel
    by_cases hlt : k < n
    · have hk2 : k < Ls.length := by rw [hn.out]; exact hlt
      have d1 := HL.out.2 k hk2
      have hi := HI.out
      rw [List.drop_eq_getElem_cons hk2] at hi
      obtain ⟨y, hy⟩ : ∃ y, Ls[k] = y := ⟨_, rfl⟩
      rw [hy] at d1 hi
      unfold isIn at hi
      rw [List.any_cons] at hi
      obtain ⟨q, hq⟩ : ∃ q, (y.toList == x.toList) = q := ⟨_, rfl⟩
      rw [hq] at hi
      have hi1 : (k : Int) < n := by omega
      clear hy hk2 HI
      cases q with
      | true =>
        obtain rfl : r = true := by rw [← hi]; rfl
        clear hi
        go_wp2
        go_ret
        exact ⟨rfl, rfl⟩
      | false =>
        have HI2 : Hid (isIn (Ls.drop (k + 1)) x = r) := Lib.hid (by rw [← hi]; rfl)
        clear hi
        go_wp2
        go_round
        case rel => exact ⟨k + 1, by omega, by go_num, HI2⟩
        case measure => simp [intOf]; omega
    · obtain rfl : n = k := by omega
      have hnn : ¬ (n : Int) < n := by omega
      obtain rfl : r = false := by
        have := HI.out
        rw [List.drop_eq_nil_of_le (by rw [hn.out]; exact Nat.le_refl _)] at this
        exact this.symm
      clear HI
      go_wp2
      go_ret
      exact ⟨rfl, rfl⟩

def kwRow : List ByteArray := [⟨#[109, 111, 100, 117, 108, 101]⟩, ⟨#[105, 109, 112, 111, 114, 116]⟩, ⟨#[100, 97, 116, 97]⟩, ⟨#[102, 117, 110]⟩, ⟨#[114, 101, 97, 100]⟩, ⟨#[108, 101, 116]⟩, ⟨#[105, 110]⟩, ⟨#[105, 102]⟩, ⟨#[116, 104, 101, 110]⟩, ⟨#[101, 108, 115, 101]⟩, ⟨#[109, 97, 116, 99, 104]⟩, ⟨#[118, 105, 101, 119]⟩, ⟨#[119, 105, 116, 104]⟩, ⟨#[101, 110, 100]⟩, ⟨#[99, 111, 112, 121]⟩]
theorem kwRow_kw (x : ByteArray) : isIn kwRow x = Tk.kw x.data.toList := by
  unfold isIn Tk.kw
  rw [List.contains_eq_any_beq, Lib.toList_data]
  have h : ∀ (Ls : List ByteArray) (K : List (List UInt8)), Ls.map (fun y => y.data.toList) = K → (Ls.any fun y => y.toList == x.data.toList) = K.any (fun y => x.data.toList == y) := by
    intro Ls K hK
    subst hK
    rw [List.any_map]
    congr 1
    funext y
    simp only [Function.comp]
    rw [Lib.toList_data]
    exact Bool.beq_comm ..
  exact h kwRow Tk.keywords rfl

set_option maxRecDepth 100000 in
set_option maxHeartbeats 3200000 in
theorem keywords_any (w : World) : Calls Tryd.prog 27 #[] w fun e w' => e = .returned (.slice (some ⟨w.heap.size, 0, none⟩) 15 15) ∧ StrRow w' w.heap.size kwRow ∧ Below w.heap.size w w' := by
  have HA := Lib.hid ((Below.refl w.heap.size w).alloc (Nat.le_refl _) (.cells (kwRow.map Value.string).toArray 9))
  have HL := Lib.hid (StrRow.new w kwRow 9)
  go_enter Tryd.func27, Tryd.ntmps27
  go_wp2
  go_ret
  exact ⟨rfl, HL.out, HA.out⟩

set_option maxRecDepth 100000 in
set_option maxHeartbeats 3200000 in
theorem rKeyword_any (x : ByteArray) (r : Bool) (w : World) (hr : Hid (Tk.kw x.data.toList = r)) : Calls Tryd.prog 15 #[.string x] w fun e w' => e = .returned (.bool r) ∧ Below w.heap.size w w' := by
  have HR : Hid (isIn kwRow x = r) := Lib.hid ((kwRow_kw x).trans hr.out)
  go_enter Tryd.func15, Tryd.ntmps15
  go_wp2_with fail
  refine (keywords_any _).mono ?_
  rintro e w1 ⟨rfl, hl, hb⟩
  have HL := Lib.hid hl
  have HB := Lib.hid hb
  clear hl hb
  go_wp2_with fail
  refine (in_any _ 15 kwRow x r _ HL.out (Lib.hid rfl) (by omega) HR).mono ?_
  rintro e w2 ⟨rfl, rfl⟩
  go_wp2
  go_ret
  exact ⟨rfl, HB.out⟩

set_option maxRecDepth 100000 in
set_option maxHeartbeats 3200000 in
theorem law_TokenWords (x : ByteArray) (w : World) (her : Erg w) : Calls Tryd.prog 4 #[.string x] w fun e w' => e = .returned (.bool true) ∧ Below w.heap.size w w' := by
  have hge : 2 < w.heap.size := by obtain ⟨_, _, _, h⟩ := her; exact h
  obtain ⟨r, hr⟩ : ∃ r, Tk.kw x.data.toList = r := ⟨_, rfl⟩
  have HR := Lib.hid hr
  have HE := Lib.hid her
  clear hr her
  by_cases hs : (100 : Int) < x.size
  · go_enter Tryd.func4, Tryd.ntmps4
    go_wp2_with fail
    refine (awake_any _ HE.out hge).mono ?_
    rintro e w1 ⟨rfl, hb⟩
    have HB := Lib.hid hb
    clear hb
    go_wp2
    go_ret
    exact ⟨rfl, HB.out⟩
  · go_enter Tryd.func4, Tryd.ntmps4
    go_wp2_with fail
    refine (awake_any _ HE.out hge).mono ?_
    rintro e w1 ⟨rfl, hb⟩
    have HB := Lib.hid hb
    clear hb
    go_wp2_with fail
    refine (keyword_any x r _ HR).mono ?_
    rintro e w2 ⟨rfl, rfl⟩
    go_wp2_with fail
    refine (rKeyword_any x r _ HR).mono ?_
    rintro e w3 ⟨rfl, hb⟩
    have HB3 := Lib.hid (HB.out.trans (hb.mono HB.out.size))
    clear hb
    go_wp2
    go_ret
    exact ⟨rfl, HB3.out⟩

end Go.Proofs.YtpoddcegfhgdeaaDoor
