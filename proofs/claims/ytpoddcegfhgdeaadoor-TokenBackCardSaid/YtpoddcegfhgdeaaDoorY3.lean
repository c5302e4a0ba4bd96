/- Which runes a source may not contain, and where the first one stands. -/
import Derived.Test.YtpoddcegfhgdeaaDoorY2
import Derived.Shelf.Strings.FuncGrows
import Derived.Lib.TrimUEq
import Derived.Deep.LoopGhost
set_option linter.unusedVariables false
set_option linter.unusedSimpArgs false
namespace Go.Proofs.YtpoddcegfhgdeaaDoor
open Go.RowKit

/-- The text of a rune beyond ASCII: two to four bytes, the last one beyond 127. -/
theorem encode_big (r : Int) (h : 128 ≤ r) : 2 ≤ (Utf8.encode r).size ∧ (Utf8.encode r).size ≤ 4 ∧ ∀ (i : Nat) (hi : i < (Utf8.encode r).size), i + 1 = (Utf8.encode r).size → 128 ≤ (Utf8.encode r)[i].toNat := by
  have key : ∀ c : Nat, 128 ≤ (UInt8.ofNat (0x80 + c % 64)).toNat := fun c => by
    rw [UInt8.toNat_ofNat']; omega
  unfold Utf8.encode
  have hc : ¬ (if Utf8.valid r then r.toNat else Utf8.runeError) < 0x80 := by
    split
    · omega
    · unfold Utf8.runeError; omega
  generalize (if Utf8.valid r then r.toNat else Utf8.runeError) = c at hc
  simp only [hc, if_false]
  split
  · refine ⟨(by show 2 ≤ 2; omega), (by show 2 ≤ 4; omega), fun i hi he => ?_⟩
    obtain rfl : i = 1 := by have : (2 : Nat) = i + 1 := he.symm; omega
    exact key _
  · split
    · refine ⟨(by show 2 ≤ 3; omega), (by show 3 ≤ 4; omega), fun i hi he => ?_⟩
      obtain rfl : i = 2 := by have : (3 : Nat) = i + 1 := he.symm; omega
      exact key _
    · refine ⟨(by show 2 ≤ 4; omega), (by show 4 ≤ 4; omega), fun i hi he => ?_⟩
      obtain rfl : i = 3 := by have : (4 : Nat) = i + 1 := he.symm; omega
      exact key _

theorem white_small : ∀ (i : Nat) (hi : i < (⟨#[32, 9, 13, 10]⟩ : ByteArray).size), ((⟨#[32, 9, 13, 10]⟩ : ByteArray)[i]).toNat < 128 := by
  intro i hi
  have h4 : (⟨#[32, 9, 13, 10]⟩ : ByteArray).size = 4 := rfl
  match i, hi with
  | 0, _ => exact (show (32 : UInt8).toNat < 128 by decide)
  | 1, _ => exact (show (9 : UInt8).toNat < 128 by decide)
  | 2, _ => exact (show (13 : UInt8).toNat < 128 by decide)
  | 3, _ => exact (show (10 : UInt8).toNat < 128 by decide)
  | i + 4, h => exact absurd h (by rw [h4]; omega)

theorem no_big (c : UInt8) (h : 128 ≤ c.toNat) (k : Nat) : Lib.indexByte (([32, 9, 13, 10] : List UInt8).drop k) c = -1 := by
  have key : ∀ l : List UInt8, (∀ x ∈ l, x.toNat < 128) → Lib.indexByte l c = -1 := by
    intro l
    induction l with
    | nil => intro _; rfl
    | cons a l ih =>
      intro hl
      have h1 := hl a (by simp)
      have h2 := ih (fun x hx => hl x (by simp [hx]))
      have hne : a ≠ c := by rintro rfl; omega
      unfold Lib.indexByte
      rw [if_neg (by simpa using hne), h2]
      rfl
  refine key _ fun x hx => ?_
  have hm := List.mem_of_mem_drop hx
  simp at hm
  rcases hm with rfl | rfl | rfl | rfl <;> decide

set_option maxRecDepth 100000 in
set_option maxHeartbeats 3200000 in
theorem indexRune_bad (r : Int) (w : World) (h : 128 ≤ r) (he : (r == 65533) = false) (hv : Lib.validRune r = false) :
    Calls Tryd.prog 51 #[.string ⟨#[32, 9, 13, 10]⟩, .int .i32 r] w fun e w' => e = .returned (.int .i64 (-1)) ∧ Below w.heap.size w w' := by
  have HV := Lib.hid hv
  clear hv
  have h2 : ¬ r < 128 := by omega
  go_enter Tryd.func51, Tryd.ntmps51
  go_wp2_with (go_at_call 64; refine (Tryd.utf8_ValidRune _ _).mono ?_; rintro e w' ⟨rfl, hw⟩; rw [hw, HV.out]; clear hw)
  go_ret
  exact ⟨rfl, Below.refl _ _⟩

theorem white_drop (k : Nat) (h1 : 1 ≤ k) (h2 : k < 4) : ((⟨#[32, 9, 13, 10]⟩ : ByteArray).extract (k + 1) (⟨#[32, 9, 13, 10]⟩ : ByteArray).size).data.toList = ([32, 9, 13, 10] : List UInt8).drop (k + 1) := by
  obtain rfl | rfl | rfl : k = 1 ∨ k = 2 ∨ k = 3 := by omega
  all_goals rfl

set_option maxRecDepth 100000 in
set_option maxHeartbeats 6400000 in
theorem indexRune_good (s : ByteArray) (r : Int) (w : World) (hws : Hid (s = ⟨#[32, 9, 13, 10]⟩)) (h : 128 ≤ r) (hr : r ≤ 1114111) (he : (r == 65533) = false) (hv : Lib.validRune r = true) :
    Calls Tryd.prog 51 #[.string s, .int .i32 r] w fun e w' => e = .returned (.int .i64 (-1)) ∧ Below w.heap.size w w' := by
  have HV := Lib.hid hv
  clear hv
  have h2 : ¬ r < 128 := by omega
  obtain ⟨E, hE⟩ : ∃ E, Utf8.encode r = E := ⟨_, rfl⟩
  have hb := encode_big r h
  rw [hE] at hb
  obtain ⟨k, hk⟩ : ∃ k, E.size = k + 1 := ⟨E.size - 1, by omega⟩
  have hk1 : 1 ≤ k := by omega
  have hk4 : k < 4 := by omega
  have HE := Lib.hid hE
  have HK := Lib.hid hk
  have hks : k < E.size := by omega
  have hlast := hb.2.2 k hks hk.symm
  have hE2 : ((E.size : Int) - 1) = k := by omega
  have hs4 : s.size = 4 := by rw [hws.out]; rfl
  have hsk : k < s.size := by omega
  have hsm : s[k].toNat < 128 := by
    have := white_small k (by rw [← hws.out]; exact hsk)
    simp only [hws.out]
    exact this
  have hne : ((s[k].toNat : Int) != E[k].toNat) = true := by
    simp only [bne_iff_ne, ne_eq]; omega
  have HNB : Hid (Lib.indexByte (s.extract (k + 1) s.size).data.toList ((E[k].toNat : Int).toNat.toUInt8) = -1) := Lib.hid (by
    have h1 : ((E[k].toNat : Int).toNat.toUInt8) = E[k] := by simp
    rw [h1, hws.out]
    rw [white_drop k hk1 hk4]
    exact no_big _ hlast _)
  have hs5 : (4 : Int) ≤ s.size ∧ (s.size : Int) ≤ 4 := by omega
  clear hb hE hk hsm hs4
  go_enter Tryd.func51, Tryd.ntmps51
  go_wp2_with (go_at_call 64; refine (Tryd.utf8_ValidRune _ _).mono ?_; rintro e w' ⟨rfl, hw⟩; rw [hw, HV.out]; clear hw)
  have hE := HE.out
  go_step3
  go_wp2
  clear hE
  go_loop [9] (fun i => i = .int .i64 k) (fun _ => 0)
  case atStart => rfl
  case round =>
    obtain rfl := hrel
    have hsum : IntKind.i64.wrap ((k : Int) + 1) = (k : Int) + 1 := IntWalk.i64_in _ (by omega)
    have hk0 : (0 : Int) ≤ (k : Int) + 1 := by omega
    have hkn : ((k : Int) + 1).toNat = k + 1 := by omega
    have hle : (k : Int) + 1 ≤ s.size := by omega
    have hle2 : k + 1 ≤ s.size := by omega
    go_wp2
    go_step3
    go_wp2
    go_quiet ((fail))
    have HB := Lib.hid (below_drewNg w nq)
    generalize w.drewN nq = W at HB ⊢
    go_wp2
    go_quiet ((go_at_call 63; exact Calls.quiet_of_same ((Tryd.strings_IndexByte _ _ _).mono (fun e w' h => ⟨h.1.trans (by rw [HNB.out]), h.2⟩))))
    go_wp2
    rw [Exit.noGoto_ret]
    dsimp +zetaDelta only [Exit.inBlock, Exit.then, Exit.noGoto]
    go_ret
    exact ⟨rfl, HB.out.trans ((below_drewNg W _).mono HB.out.size)⟩

theorem white_decode (s : ByteArray) (hws : s = ⟨#[32, 9, 13, 10]⟩) (pos : Nat) (h : pos < 4) : (Utf8.decode s pos).2 = 1 ∧ (Utf8.decode s pos).1 < 128 := by
  subst hws
  obtain rfl | rfl | rfl | rfl : pos = 0 ∨ pos = 1 ∨ pos = 2 ∨ pos = 3 := by omega
  all_goals decide +kernel

set_option maxRecDepth 100000 in
set_option maxHeartbeats 6400000 in
theorem indexRune_error (s : ByteArray) (w : World) (hws : Hid (s = ⟨#[32, 9, 13, 10]⟩)) :
    Calls Tryd.prog 51 #[.string s, .int .i32 65533] w fun e w' => e = .returned (.int .i64 (-1)) ∧ Below w.heap.size w w' := by
  have HS : Hid (s.size = 4) := Lib.hid (by rw [hws.out]; rfl)
  go_enter Tryd.func51, Tryd.ntmps51
  go_wp2
  go_loopg [5, 6] 4 (fun gf i5 i6 wx => ∃ pos : Nat, wx.heap[w.heap.size]? = some (.stringIter s pos) ∧ Below w.heap.size w wx ∧ 4 ≤ pos + gf)
  case atStart => exact ⟨0, World.iter_heap w s 0, (Below.refl _ w).alloc (Nat.le_refl _) _, by omega⟩
  case round =>
    obtain ⟨pos, hit, hbw, hfu⟩ := hrel
    by_cases hps : pos < s.size
    · have hp4 : pos < 4 := by rw [← HS.out]; exact hps
      obtain ⟨g', rfl⟩ : ∃ g', gk = g' + 1 := ⟨gk - 1, by omega⟩
      have hnx : ∀ ty, (Instr.next (.pointer (some ⟨w.heap.size, 0, none⟩)) true ty).run Tryd.prog wr = _ := fun ty => Lib.run_next_any_at wr w.heap.size s pos ty hit hps
      obtain ⟨hwd, hsm⟩ := white_decode s hws.out pos hp4
      obtain ⟨R, hR⟩ : ∃ R, (Utf8.decode s pos).1 = R := ⟨_, rfl⟩
      rw [hR, hwd] at hnx
      rw [hR] at hsm
      have hit2 := Lib.iterAt_heap wr w.heap.size s pos (pos + 1) hit
      have hbw2 := Lib.below_iterAt hbw (k := w.heap.size) (Nat.le_refl _) s (pos + 1)
      obtain ⟨W, hWd⟩ : ∃ W, wr.iterAt w.heap.size s (pos + 1) = W := ⟨_, rfl⟩
      rw [hWd] at hnx hit2 hbw2
      have hne : ((R : Int) == 65533) = false := by simp; omega
      clear hwd hR hWd
      go_wp2
      go_roundg g'
      case measure => omega
      case rel => exact ⟨pos + 1, hit2, hbw2, by omega⟩
    · have hnx : ∀ ty, (Instr.next (.pointer (some ⟨w.heap.size, 0, none⟩)) true ty).run Tryd.prog wr = _ := fun ty => Lib.run_next_end_at wr w.heap.size s pos ty hit hps
      go_wp2
      go_ret
      exact ⟨rfl, hbw⟩

def hasW (x : Nat) : Bool := decide (x < 128) && Tk.isSp (UInt8.ofNat x)

set_option maxRecDepth 100000 in
set_option maxHeartbeats 3200000 in
theorem containsRune_any (s : ByteArray) (x : Nat) (b : Bool) (w : World) (hws : Hid (s = ⟨#[32, 9, 13, 10]⟩)) (hx : x ≤ 1114111) (hb : Hid (hasW x = b)) :
    Calls Tryd.prog 35 #[.string s, .int .i32 x] w fun e w' => e = .returned (.bool b) ∧ Below w.heap.size w w' := by
  by_cases h : x < 128
  · have hc : decide (0 ≤ Lib.indexByte s.data.toList ((x : Int).toNat.toUInt8)) = b := by
      rw [← hb.out, hws.out]
      unfold hasW
      rw [← indexByte_white]
      simp [h]
    refine (Tryd.strings_ContainsRune_ascii s x w (by omega) (by omega)).mono ?_
    rintro e w' ⟨rfl, rfl⟩
    exact ⟨by rw [hc], Below.refl _ _⟩
  · obtain rfl : b = false := by rw [← hb.out]; unfold hasW; simp [h]
    have key : Calls Tryd.prog 51 #[.string s, .int .i32 x] w fun e w' => e = .returned (.int .i64 (-1)) ∧ Below w.heap.size w w' := by
      by_cases he : x = 65533
      · subst he
        exact indexRune_error s w hws
      · cases hv : Lib.validRune (x : Int)
        · have := hws.out
          subst this
          exact indexRune_bad x w (by omega) (by simp; omega) hv
        · exact indexRune_good s x w hws (by omega) (by omega) (by simp; omega) hv
    have HK := Lib.hid key
    clear key hb h hx
    go_enter Tryd.func35, Tryd.ntmps35
    go_wp2_with fail
    refine HK.out.mono ?_
    rintro e w1 ⟨rfl, hw⟩
    have HW := Lib.hid hw
    clear hw
    go_wp2
    go_ret
    exact ⟨rfl, HW.out⟩

/-- A rune that no source contains. -/
def badR (x : Nat) : Bool := if x < 128 then !Tk.okB (UInt8.ofNat x) else true

theorem badR_small : ∀ n : Fin 32, badR n.1 = !hasW n.1 := by decide +kernel
theorem badR_mid : ∀ n : Fin 128, 32 ≤ n.1 → n.1 ≤ 126 → badR n.1 = false := by decide +kernel

set_option maxRecDepth 100000 in
set_option maxHeartbeats 3200000 in
theorem isForbidden_any (x : Nat) (b : Bool) (w : World) (hx : x ≤ 1114111) (hb : Hid (badR x = b)) :
    Calls Tryd.prog 21 #[.int .i32 x] w fun e w' => e = .returned (.bool b) ∧ Below w.heap.size w w' := by
  by_cases h1 : (x : Int) < 32
  · obtain ⟨c, hc⟩ : ∃ c, hasW x = c := ⟨_, rfl⟩
    obtain rfl : b = !c := by rw [← hb.out, ← hc]; exact badR_small ⟨x, by omega⟩
    have HC := Lib.hid hc
    clear hb hc
    go_enter Tryd.func21, Tryd.ntmps21
    go_wp2_with fail
    refine (containsRune_any _ x c _ (Lib.hid rfl) hx HC).mono ?_
    rintro e w1 ⟨rfl, hw⟩
    have HW := Lib.hid hw
    clear hw
    go_wp2
    go_ret
    exact ⟨rfl, HW.out⟩
  · by_cases h2 : (126 : Int) < x
    · obtain ⟨c, hc⟩ : ∃ c, hasW x = c := ⟨_, rfl⟩
      obtain rfl : c = false := by
        rw [← hc]; unfold hasW
        by_cases h3 : x < 128
        · obtain rfl : x = 127 := by omega
          decide
        · simp [h3]
      obtain rfl : b = true := by
        rw [← hb.out]; unfold badR
        by_cases h3 : x < 128
        · obtain rfl : x = 127 := by omega
          decide
        · simp [h3]
      have HC := Lib.hid hc
      clear hb hc
      go_enter Tryd.func21, Tryd.ntmps21
      go_wp2_with fail
      refine (containsRune_any _ x false _ (Lib.hid rfl) hx HC).mono ?_
      rintro e w1 ⟨rfl, hw⟩
      have HW := Lib.hid hw
      clear hw
      go_wp2
      go_ret
      exact ⟨rfl, HW.out⟩
    · obtain rfl : b = false := by rw [← hb.out]; exact badR_mid ⟨x, by omega⟩ (by show 32 ≤ x; omega) (by show x ≤ 126; omega)
      clear hb
      go_enter Tryd.func21, Tryd.ntmps21
      go_wp2
      go_ret
      exact ⟨rfl, Below.refl _ _⟩

/-- The first byte that is not allowed, as Go's text finds it. -/
def badAt (l : List UInt8) : Int := match l.findIdx? (fun b => !Tk.okB b) with
  | some i => i
  | none => -1

theorem decode_small (s : ByteArray) (pos : Nat) (h : pos < s.size) (hb : s[pos].toNat < 128) : Utf8.decode s pos = (s[pos].toNat, 1) := by
  have h0 : s.data.toList.getD pos 0 = s[pos] := by
    rw [List.getD_eq_getElem?_getD, List.getElem?_eq_getElem (by simpa using h), Option.getD_some]; rfl
  rw [Lib.decode_N, h0]
  unfold Lib.decodeN
  rw [if_pos hb]

theorem decode_large (s : ByteArray) (pos : Nat) (h : pos < s.size) (hb : 128 ≤ s[pos].toNat) : 128 ≤ (Utf8.decode s pos).1 := by
  have h0 : s.data.toList.getD pos 0 = s[pos] := by
    rw [List.getD_eq_getElem?_getD, List.getElem?_eq_getElem (by simpa using h), Option.getD_some]; rfl
  rw [Lib.decode_N, h0]
  generalize s[pos].toNat = b0 at hb
  unfold Lib.decodeN
  repeat' split
  all_goals (try simp only)
  all_goals omega

theorem idxFrom_bad (s : ByteArray) : ∀ (f pos : Nat), s.size ≤ pos + f → pos ≤ s.size → Lib.idxFuncFrom badR true s f pos = match (s.data.toList.drop pos).findIdx? (fun b => !Tk.okB b) with
    | some i => ((pos + i : Nat) : Int)
    | none => -1
  | 0, pos, h1, h2 => by
    obtain rfl : pos = s.size := by omega
    rw [List.drop_eq_nil_of_le (by simp)]
    rfl
  | f + 1, pos, h1, h2 => by
    by_cases hp : pos < s.size
    · have hl : pos < s.data.toList.length := by simpa using hp
      rw [List.drop_eq_getElem_cons hl, List.findIdx?_cons]
      have hb0 : s.data.toList[pos] = s[pos] := rfl
      rw [hb0]
      simp only [Lib.idxFuncFrom, hp, if_true]
      by_cases hb : s[pos].toNat < 128
      · rw [decode_small s pos hp hb]
        have he : badR s[pos].toNat = !Tk.okB s[pos] := by unfold badR; rw [if_pos hb]; simp
        simp only [he]
        by_cases hk : (!Tk.okB s[pos]) = true
        · simp [hk]
        · simp only [hk, if_false, Bool.false_eq_true]
          rw [idxFrom_bad s f (pos + 1) (by omega) (by omega)]
          cases (List.drop (pos + 1) s.data.toList).findIdx? (fun b => !Tk.okB b) with
          | none => rfl
          | some i => show ((pos + 1 + i : Nat) : Int) = ((pos + (i + 1) : Nat) : Int); omega
      · have h3 := decode_large s pos hp (by omega)
        have he : badR (Utf8.decode s pos).1 = true := by unfold badR; rw [if_neg (by omega)]
        have hk : (!Tk.okB s[pos]) = true := by
          have key : ∀ n : Fin 256, 128 ≤ n.1 → (!Tk.okB (UInt8.ofNat n.1)) = true := by decide +kernel
          have := key ⟨s[pos].toNat, s[pos].toNat_lt⟩ (by show 128 ≤ s[pos].toNat; omega)
          simpa using this
        rw [if_pos he]
        simp [hk]
    · obtain rfl : pos = s.size := by omega
      rw [Lib.idxFuncFrom_end _ _ _ _ _ hp, List.drop_eq_nil_of_le (by simp)]
      rfl

theorem eForbidden : ∀ args w, (callFunc 21 args).run Tryd.prog w = .ok (.enter 21 args) w := enters_of Tryd.func21 (by kernel_rfl) rfl

theorem indexFunc_any (s : ByteArray) (i : Int) (w : World) (hi : Hid (badAt s.data.toList = i)) :
    Calls Tryd.prog 20 #[.string s, .func (.func 21) #[] #[]] w fun e w' => e = .returned (.int .i64 i) ∧ Below w.heap.size w w' := by
  have h := Tryd.strings_IndexFunc_grows 21 #[] eForbidden badR s w (fun W x hx _ => isForbidden_any x _ W hx (Lib.hid rfl))
  have e : Lib.idxFunc badR true s = i := by
    unfold Lib.idxFunc
    rw [idxFrom_bad s s.size 0 (by omega) (by omega), ← hi.out]
    unfold badAt
    simp
  rw [e] at h
  exact h

end Go.Proofs.YtpoddcegfhgdeaaDoor
