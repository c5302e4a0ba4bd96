/- What Type, Con and Name do. -/
import Derived.Test.YtphlokjhfbfogaaZ3
set_option linter.unusedVariables false
set_option linter.unusedSimpArgs false
namespace Go.Proofs.Ytphlokjhfbfogaa
open Go.RowKit Go.Shelf

theorem eType1 : ∀ args w, (callFunc 20 args).run Try.prog w = .ok (.enter 20 args) w := enters_of Try.func20 (by kernel_rfl) rfl
theorem eCon1 : ∀ args w, (callFunc 22 args).run Try.prog w = .ok (.enter 22 args) w := enters_of Try.func22 (by kernel_rfl) rfl

namespace Dt
def intN : ByteArray := ⟨#[73, 110, 116]⟩
def typeOf (d : List DataM) (name : ByteArray) : Int × Bool := if seq name intN then (0, true) else (fidx (fun x => seq x.name name) d + 1, decide (0 ≤ fidx (fun x => seq x.name name) d))
def conFrom (name : ByteArray) : List DataM → Int → Int × Int × Bool
  | [], _ => (0, 0, false)
  | x :: l, i => if 0 ≤ fidx (fun c => seq c.name name) x.cons then (i + 1, fidx (fun c => seq c.name name) x.cons, true) else conFrom name l (i + 1)
def conOf (d : List DataM) (name : ByteArray) : Int × Int × Bool := conFrom name d 0
def nameOf (d : List DataM) (t : Int) : ByteArray := if t = 0 then intN else if ok d t then ((d[(t - 1).toNat]?).map (·.name)).getD ⟨#[]⟩ else ⟨#[]⟩
theorem fidx_lt {α : Type} (p : α → Bool) (l : List α) : -1 ≤ fidx p l ∧ fidx p l < l.length := by
  unfold fidx
  cases h : l.findIdx? p with
  | none => exact ⟨by show (-1 : Int) ≤ -1; omega, by show (-1 : Int) < _; omega⟩
  | some i =>
    obtain ⟨hl, _, _⟩ := List.findIdx?_eq_some_iff_getElem.1 h
    exact ⟨by show (-1 : Int) ≤ (i : Int); omega, by show (i : Int) < _; omega⟩
end Dt

set_option maxRecDepth 100000 in
set_option maxHeartbeats 1600000 in
theorem Type1_any (x u : ByteArray) (vs : Value) (ad : Option Addr) (n cap b : Nat) (W : World) (hvs : vs = .slice ad n cap) (hc : W.cell? ⟨b, 0, none⟩ = some (.string u)) (hb : b < W.heap.size) :
    Calls Try.prog 20 #[.agg #[.string x, vs], .pointer (some ⟨b, 0, none⟩)] W fun e w' => e = .returned (.bool (Dt.seq x u)) ∧ Below W.heap.size W w' := by
  subst hvs
  have HA := Lib.hid ((Below.refl W.heap.size W).alloc (Nat.le_refl _) (.cells #[.string x, .slice ad n cap] 37))
  have hne : b ≠ W.heap.size := by omega
  go_enter Try.func20, Try.ntmps20
  go_wp2
  go_ret
  exact ⟨rfl, HA.out⟩

set_option maxRecDepth 100000 in
set_option maxHeartbeats 1600000 in
theorem Con1_any (x u : ByteArray) (vs : Value) (ad : Option Addr) (n cap b : Nat) (W : World) (hvs : vs = .slice ad n cap) (hc : W.cell? ⟨b, 0, none⟩ = some (.string u)) (hb : b < W.heap.size) :
    Calls Try.prog 22 #[.agg #[.string x, vs], .pointer (some ⟨b, 0, none⟩)] W fun e w' => e = .returned (.bool (Dt.seq x u)) ∧ Below W.heap.size W w' := by
  subst hvs
  have HA := Lib.hid ((Below.refl W.heap.size W).alloc (Nat.le_refl _) (.cells #[.string x, .slice ad n cap] 34))
  have hne : b ≠ W.heap.size := by omega
  go_enter Try.func22, Try.ntmps22
  go_wp2
  go_ret
  exact ⟨rfl, HA.out⟩

theorem Type1_pred (l : List DataM) (u : ByteArray) (b : Nat) (w : World) (hc : w.cell? ⟨b, 0, none⟩ = some (.string u)) (hb : b < w.heap.size) : PredD 20 #[.pointer (some ⟨b, 0, none⟩)] l (fun x => Dt.seq x.name u) w := by
  intro W x vf hx hW hf
  obtain ⟨ad, cap, rfl⟩ := hf.slice
  refine (Type1_any x.name u _ ad x.cons.length cap b W rfl ((hW.cell (p := ⟨b, 0, none⟩) hb).trans hc) (Nat.lt_of_lt_of_le hb hW.size)).mono ?_
  rintro e w' ⟨rfl, hb⟩
  exact ⟨rfl, hW.trans (hb.mono hW.size)⟩
theorem Con1_pred (l : List ConM) (u : ByteArray) (b : Nat) (w : World) (hc : w.cell? ⟨b, 0, none⟩ = some (.string u)) (hb : b < w.heap.size) : PredC 22 #[.pointer (some ⟨b, 0, none⟩)] l (fun x => Dt.seq x.name u) w := by
  intro W x vf hx hW hf
  obtain ⟨ad, cap, rfl⟩ := hf.slice
  refine (Con1_any x.name u _ ad x.fields.length cap b W rfl ((hW.cell (p := ⟨b, 0, none⟩) hb).trans hc) (Nat.lt_of_lt_of_le hb hW.size)).mono ?_
  rintro e w' ⟨rfl, hb⟩
  exact ⟨rfl, hW.trans (hb.mono hW.size)⟩

set_option maxRecDepth 100000 in
set_option maxHeartbeats 1600000 in
theorem Type_any (v : Value) (d : List DataM) (u : ByteArray) (w : World) (hv : DsAt w v d) (hd : Sm d) :
    Calls Try.prog 7 #[v, .string u] w fun e w' => e = .returned (.tuple #[.int .i64 (Dt.typeOf d u).1, .bool (Dt.typeOf d u).2]) ∧ Below w.heap.size w w' := by
  have HA := Lib.hid ((Below.refl w.heap.size w).alloc (Nat.le_refl _) (.cells #[.string u] 9))
  obtain ⟨q, hq⟩ : ∃ q, (u.toList == [73, 110, 116]) = q := ⟨_, rfl⟩
  have hq2 : Dt.seq u Dt.intN = q := by rw [← hq]; unfold Dt.seq; rw [show Dt.intN.toList = [73, 110, 116] from by rw [ByteArray.toList_eq]; rfl]
  cases q with
  | true =>
    have e1 : Dt.typeOf d u = (0, true) := by rw [Dt.typeOf, hq2]; rfl
    rw [e1]
    obtain ⟨ad, cap, rfl⟩ := hv.slice
    clear hq2 e1 hv
    go_enter Try.func7, Try.ntmps7
    go_wp2
    refine bodyPost_ret (v := .tuple #[.int .i64 0, .bool true]) (by simp only [results, Try.results7]; simp [go_sem]) rfl ?_
    exact ⟨rfl, HA.out⟩
  | false =>
    obtain ⟨i, hi⟩ : ∃ i, Dt.fidx (fun x : DataM => Dt.seq x.name u) d = i := ⟨_, rfl⟩
    have e1 : Dt.typeOf d u = (i + 1, decide (0 ≤ i)) := by rw [Dt.typeOf, hq2, hi]; rfl
    have hr := Dt.fidx_lt (fun x : DataM => Dt.seq x.name u) d
    rw [hi] at hr
    have hr2 := hd.1
    have hr3 : -1 ≤ i ∧ i ≤ 100 := by omega
    rw [e1]
    have HI := Lib.hid (indexD 20 #[.pointer (some ⟨w.heap.size, 0, none⟩)] _ v d (w.alloc (.cells #[.string u] 9)) eType1 (Type1_pred d u w.heap.size _ (by rw [World.cell?_alloc_new]; rfl) (by simp)) (hv.keep HA.out (Nat.le_refl _)) (by omega))
    rw [hi] at HI
    obtain ⟨ad, cap, rfl⟩ := hv.slice
    generalize d.length = n at HI
    have hw1 : IntKind.i64.wrap (i + 1) = i + 1 := IntWalk.i64_in _ (by omega)
    clear hq2 e1 hv hr hr2 hi
    obtain ⟨ha, hb2⟩ := hr3
    go_enter Try.func7, Try.ntmps7
    go_wp2_with fail
    refine HI.out.mono ?_
    rintro e w1 ⟨rfl, hb⟩
    have HB := Lib.hid (HA.out.trans (hb.mono HA.out.size))
    clear hb
    go_wp2
    refine bodyPost_ret (v := .tuple #[.int .i64 (i + 1), .bool (decide (0 ≤ i))]) (by simp only [results, Try.results7]; simp [go_sem]) rfl ?_
    exact ⟨rfl, HB.out⟩


set_option maxRecDepth 100000 in
set_option maxHeartbeats 3200000 in
theorem Con_any (v : Value) (d : List DataM) (u : ByteArray) (w : World) (hv : DsAt w v d) (hd : Sm d) :
    Calls Try.prog 8 #[v, .string u] w fun e w' => e = .returned (.tuple #[.int .i64 (Dt.conOf d u).1, .int .i64 (Dt.conOf d u).2.1, .bool (Dt.conOf d u).2.2]) ∧ Below w.heap.size w w' := by
  have hA := (Below.refl w.heap.size w).alloc (Nat.le_refl _) (.cells #[.string u] 9)
  obtain ⟨ad, cap, rfl⟩ := hv.slice
  have hd1 := hd.1
  obtain ⟨n, hln⟩ : ∃ n, d.length = n := ⟨_, rfl⟩
  obtain ⟨X, hX⟩ : ∃ X, Dt.conOf d u = X := ⟨_, rfl⟩
  rw [hln] at hv hd1 ⊢
  rw [hX]
  obtain ⟨x1, x2, x3⟩ := X
  have HA := Lib.hid hA
  have HL := Lib.hid hln
  have HV := Lib.hid hv
  have HX : Hid (Dt.conFrom u (d.drop 0) 0 = (x1, x2, x3)) := Lib.hid hX
  have HD := Lib.hid hd
  have HU : Hid ((w.alloc (.cells #[.string u] 9)).cell? ⟨w.heap.size, 0, none⟩ = some (.string u)) := Lib.hid (by rw [World.cell?_alloc_new]; rfl)
  clear hA hln hv hX hd
  go_enter Try.func8, Try.ntmps8
  go_wp2
  have HW0 : Hid ((w.alloc (.cells #[.string u] 9)).heap.size = w.heap.size + 1) := Lib.hid (by simp)
  generalize w.alloc (.cells #[.string u] 9) = W0 at HA HU HW0 ⊢
  go_loopw [7, 8, 9, 12] (fun _ _ _ i wr => ∃ k : Nat, k ≤ n ∧ i = .int .i64 k ∧ Hid (Dt.conFrom u (d.drop k) k = (x1, x2, x3)) ∧ Hid (Below W0.heap.size W0 wr)) (fun _ _ _ i _ => n - (intOf i).toNat)
  case atStart => exact ⟨0, Nat.zero_le _, rfl, HX, Lib.hid (Below.refl _ _)⟩
  case round =>
    obtain ⟨k, hk, rfl, HK, HW⟩ := hrel
    by_cases hlt : k < n
    · have hltz : (k : Int) < (n : Int) := by omega
      have hkd : k < d.length := by rw [HL.out]; exact hlt
      obtain ⟨b, off, fa, fc, rfl, hb, c0, c1, hcs⟩ := HV.out.at k hkd
      obtain ⟨y, hy⟩ : ∃ y, d[k] = y := ⟨_, rfl⟩
      rw [hy] at c0 c1 hcs
      have hst := HK.out
      rw [List.drop_eq_getElem_cons hkd, hy, Dt.conFrom] at hst
      have hyd : y ∈ d := by rw [← hy]; exact List.getElem_mem hkd
      have hBA : Below w.heap.size w wr := HA.out.trans (HW.out.mono HA.out.size)
      have d0 := (hBA.cell (p := ⟨b, off + k * 2, none⟩) hb).trans c0
      have d1 := (hBA.cell (p := ⟨b, off + k * 2 + 1, none⟩) hb).trans c1
      obtain ⟨i, hi⟩ : ∃ i, Dt.fidx (fun c : ConM => Dt.seq c.name u) y.cons = i := ⟨_, rfl⟩
      have hir := Dt.fidx_lt (fun c : ConM => Dt.seq c.name u) y.cons
      have hyc := (HD.out.2 y hyd).2.1
      rw [hi] at hst hir
      have hw1 : w.heap.size < wr.heap.size := by have h1 := HW.out.size; have h2 := HW0.out; omega
      have hHI : ∀ T, Calls Try.prog 21 #[.slice fa y.cons.length fc, .func (.func 22) #[] #[.pointer (some ⟨w.heap.size, 0, none⟩)]] (wr.alloc (.cells #[.string y.name, .slice fa y.cons.length fc] T)) fun e w' => e = .returned (.int .i64 i) ∧ Below W0.heap.size W0 w' := fun T => by
        have hwb : Below wr.heap.size wr (wr.alloc (.cells #[.string y.name, .slice fa y.cons.length fc] T)) := (Below.refl _ _).alloc (Nat.le_refl _) _
        have h := indexC 22 #[.pointer (some ⟨w.heap.size, 0, none⟩)] _ (.slice fa y.cons.length fc) y.cons (wr.alloc (.cells #[.string y.name, .slice fa y.cons.length fc] T)) eCon1 (Con1_pred y.cons u w.heap.size _ (((HW.out.alloc HW.out.size _).cell (p := ⟨w.heap.size, 0, none⟩) (by rw [HW0.out]; show w.heap.size < w.heap.size + 1; omega)).trans HU.out) (by simp; omega)) (hcs.keep (hBA.alloc hBA.size _) (Nat.le_refl _)) (by omega)
        rw [hi] at h
        refine h.mono ?_
        rintro e w' ⟨rfl, hb⟩
        exact ⟨rfl, (HW.out.alloc HW.out.size _).trans (hb.mono (by simp; have := HW.out.size; omega))⟩
      have HI := Lib.hid hHI
      generalize y.name = nm at d0 HI
      generalize y.cons.length = fl at d1 HI hyc hir
      have hi1 : -1 ≤ i := hir.1
      have hi2 : i ≤ 100 := by omega
      have HY := Lib.hid hst
      have hwk : IntKind.i64.wrap ((k : Int) + 1) = k + 1 := IntWalk.i64_in _ (by omega)
      clear hy hyd hst hi hir hyc hBA c0 c1 hcs hHI hkd HK
      by_cases hpos : 0 ≤ i
      · go_wp2_with fail
        refine (HI.out _).mono ?_
        rintro e w' ⟨rfl, hb'⟩
        have HB := Lib.hid hb'
        clear hb' HI d0 d1
        go_wp2
        have h := HY.out
        rw [if_pos hpos] at h
        cases h
        refine bodyPost_ret (v := .tuple #[.int .i64 ((k : Int) + 1), .int .i64 x2, .bool true]) (by simp only [results, Try.results8]; simp [go_sem]) rfl ?_
        exact ⟨rfl, HA.out.trans (HB.out.mono HA.out.size)⟩
      · go_wp2_with fail
        refine (HI.out _).mono ?_
        rintro e w' ⟨rfl, hb'⟩
        have HB := Lib.hid hb'
        clear hb' HI d0 d1
        have hpos2 : i < 0 := by omega
        go_wp2
        go_roundw
        case rel =>
          refine ⟨k + 1, by omega, by go_num, ?_, HB⟩
          have h := HY.out
          rw [if_neg (by omega)] at h
          exact Lib.hid (by rw [← h]; simp)
        case measure => simp [intOf]; omega
    · obtain rfl : n = k := by omega
      have hnn : ¬ (n : Int) < n := by omega
      have h := HK.out
      rw [List.drop_eq_nil_of_le (by rw [HL.out]; exact Nat.le_refl _), Dt.conFrom] at h
      cases h
      go_wp2
      refine bodyPost_ret (v := .tuple #[.int .i64 0, .int .i64 0, .bool false]) (by simp only [results, Try.results8]; simp [go_sem]) rfl ?_
      exact ⟨rfl, HA.out.trans (HW.out.mono HA.out.size)⟩

end Go.Proofs.Ytphlokjhfbfogaa
