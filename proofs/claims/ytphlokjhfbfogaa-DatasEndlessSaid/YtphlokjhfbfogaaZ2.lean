/- IndexFunc and ContainsFunc over constructors, over types, and over fields. -/
import Derived.Test.YtphlokjhfbfogaaZ1
set_option linter.unusedVariables false
set_option linter.unusedSimpArgs false
namespace Go.Proofs.Ytphlokjhfbfogaa
open Go.RowKit

/-- What is asked of a predicate over constructors. -/
def PredC (g : Nat) (lb : Array Value) (l : List ConM) (p : ConM → Bool) (w : World) : Prop :=
  ∀ (W : World) (x : ConM) (vf : Value), x ∈ l → Below w.heap.size w W → FsAt W vf x.fields → Calls Try.prog g (#[.agg #[.string x.name, vf]] ++ lb) W fun e w' => e = .returned (.bool (p x)) ∧ Below w.heap.size w w'

set_option maxRecDepth 100000 in
set_option maxHeartbeats 3200000 in
theorem indexC (g : Nat) (lb : Array Value) (p : ConM → Bool) (v : Value) (l : List ConM) (w : World) (eg : ∀ args w, (callFunc g args).run Try.prog w = .ok (.enter g args) w) (hp : PredC g lb l p w) (hv : CsAt w v l) (hn : l.length ≤ 100000) :
    Calls Try.prog 21 #[v, .func (.func g) #[] lb] w fun e w' => e = .returned (.int .i64 (Dt.fidx p l)) ∧ Below w.heap.size w w' := by
  obtain ⟨ad, cap, rfl⟩ := hv.slice
  obtain ⟨n, hln⟩ : ∃ n, l.length = n := ⟨_, rfl⟩
  rw [hln] at hn hv ⊢
  have HL := Lib.hid hln
  have HV := Lib.hid hv
  have HP := Lib.hid hp
  clear hln hv hp
  go_enter Try.func21, Try.ntmps21
  go_wp2
  go_loopg [5, 8] n (fun gg _ s8 wr => ∃ kk : Nat, kk ≤ n ∧ n - kk ≤ gg ∧ s8 = .int .i64 kk ∧ Hid (Below w.heap.size w wr) ∧ Hid (∀ j (h : j < kk) (h2 : j < l.length), p (l[j]'h2) = false))
  case atStart => exact ⟨0, Nat.zero_le _, by omega, rfl, Lib.hid (Below.refl _ w), Lib.hid (fun j h => absurd h (Nat.not_lt_zero _))⟩
  case round =>
    obtain ⟨kk, hkk, hg, rfl, BW, A⟩ := hrel
    by_cases hlt : kk < n
    · have hltz : (kk : Int) < (n : Int) := by omega
      have hkl : kk < l.length := by rw [HL.out]; exact hlt
      obtain ⟨y, hy⟩ : ∃ y, l[kk] = y := ⟨_, rfl⟩
      have HM : Hid (y ∈ l) := Lib.hid (by rw [← hy]; exact List.getElem_mem hkl)
      obtain ⟨b, off, fa, fc, rfl, hbw, c0, c1, hfs⟩ := HV.out.at kk hkl
      rw [hy] at c0 c1 hfs
      have d0 := (BW.out.cell (p := ⟨b, off + kk * 2, none⟩) hbw).trans c0
      have d1 := (BW.out.cell (p := ⟨b, off + kk * 2 + 1, none⟩) hbw).trans c1
      have hcall := HP.out wr y (.slice fa y.fields.length fc) HM.out BW.out (hfs.keep BW.out (Nat.le_refl _))
      generalize y.name = nm at d0 hcall
      generalize y.fields.length = fl at d1 hcall
      clear c0 c1 hfs
      have HY := Lib.hid hy
      clear hy
      cases hq : p y with
      | true =>
        rw [hq] at hcall
        have HQ := Lib.hid hq
        clear hq
        go_wp2_with fail
        refine hcall.mono ?_
        rintro e w' ⟨rfl, hb'⟩
        have HB := Lib.hid hb'
        clear hb' hcall eg HV
        go_wp2
        go_ret
        exact ⟨by rw [Dt.fidx_hit p l kk hkl (by rw [HY.out]; exact HQ.out) (fun j h => A.out j h _)] <;> rfl, HB.out⟩
      | false =>
        rw [hq] at hcall
        have HQ := Lib.hid hq
        clear hq
        go_wp2_with fail
        refine hcall.mono ?_
        rintro e w' ⟨rfl, hb'⟩
        have HB := Lib.hid hb'
        clear hb' hcall eg HV
        go_wp2
        go_roundg (n - (kk + 1))
        case measure => omega
        case rel =>
          refine ⟨kk + 1, by omega, by omega, by go_num, HB, Lib.hid (fun j h h2 => ?_)⟩
          by_cases e : j = kk
          · subst e
            rw [HY.out]; exact HQ.out
          · exact A.out j (by omega) h2
    · obtain rfl : n = kk := by omega
      have hnn : ¬ (n : Int) < n := by omega
      go_wp2
      go_ret
      exact ⟨by rw [Dt.fidx_miss p l (fun j h => A.out j (by rw [← HL.out]; exact h) h)] <;> rfl, BW.out⟩

set_option maxRecDepth 100000 in
set_option maxHeartbeats 3200000 in
theorem containsC (g : Nat) (lb : Array Value) (p : ConM → Bool) (v : Value) (l : List ConM) (r : Bool) (w : World) (eg : ∀ args w, (callFunc g args).run Try.prog w = .ok (.enter g args) w) (hp : PredC g lb l p w) (hv : CsAt w v l) (hn : l.length ≤ 100000) (hr : Hid (l.any p = r)) :
    Calls Try.prog 30 #[v, .func (.func g) #[] lb] w fun e w' => e = .returned (.bool r) ∧ Below w.heap.size w w' := by
  obtain ⟨i, hi⟩ : ∃ i, Dt.fidx p l = i := ⟨_, rfl⟩
  have h := indexC g lb p v l w eg hp hv hn
  rw [hi] at h
  have hd : decide (0 ≤ i) = r := by rw [← hi, Dt.fidx_any, hr.out]
  have HC := Lib.hid h
  clear h hp hv hi hr
  go_enter Try.func30, Try.ntmps30
  go_wp2_with fail
  refine HC.out.mono ?_
  rintro e w1 ⟨rfl, hb⟩
  have HB := Lib.hid hb
  clear hb
  go_wp2
  go_ret
  exact ⟨by rw [← hd] <;> rfl, HB.out⟩

/-- What is asked of a predicate over types. -/
def PredD (g : Nat) (lb : Array Value) (l : List DataM) (p : DataM → Bool) (w : World) : Prop :=
  ∀ (W : World) (x : DataM) (vf : Value), x ∈ l → Below w.heap.size w W → CsAt W vf x.cons → Calls Try.prog g (#[.agg #[.string x.name, vf]] ++ lb) W fun e w' => e = .returned (.bool (p x)) ∧ Below w.heap.size w w'

set_option maxRecDepth 100000 in
set_option maxHeartbeats 3200000 in
theorem indexD (g : Nat) (lb : Array Value) (p : DataM → Bool) (v : Value) (l : List DataM) (w : World) (eg : ∀ args w, (callFunc g args).run Try.prog w = .ok (.enter g args) w) (hp : PredD g lb l p w) (hv : DsAt w v l) (hn : l.length ≤ 100000) :
    Calls Try.prog 19 #[v, .func (.func g) #[] lb] w fun e w' => e = .returned (.int .i64 (Dt.fidx p l)) ∧ Below w.heap.size w w' := by
  obtain ⟨ad, cap, rfl⟩ := hv.slice
  obtain ⟨n, hln⟩ : ∃ n, l.length = n := ⟨_, rfl⟩
  rw [hln] at hn hv ⊢
  have HL := Lib.hid hln
  have HV := Lib.hid hv
  have HP := Lib.hid hp
  clear hln hv hp
  go_enter Try.func19, Try.ntmps19
  go_wp2
  go_loopg [5, 8] n (fun gg _ s8 wr => ∃ kk : Nat, kk ≤ n ∧ n - kk ≤ gg ∧ s8 = .int .i64 kk ∧ Hid (Below w.heap.size w wr) ∧ Hid (∀ j (h : j < kk) (h2 : j < l.length), p (l[j]'h2) = false))
  case atStart => exact ⟨0, Nat.zero_le _, by omega, rfl, Lib.hid (Below.refl _ w), Lib.hid (fun j h => absurd h (Nat.not_lt_zero _))⟩
  case round =>
    obtain ⟨kk, hkk, hg, rfl, BW, A⟩ := hrel
    by_cases hlt : kk < n
    · have hltz : (kk : Int) < (n : Int) := by omega
      have hkl : kk < l.length := by rw [HL.out]; exact hlt
      obtain ⟨y, hy⟩ : ∃ y, l[kk] = y := ⟨_, rfl⟩
      have HM : Hid (y ∈ l) := Lib.hid (by rw [← hy]; exact List.getElem_mem hkl)
      obtain ⟨b, off, fa, fc, rfl, hbw, c0, c1, hfs⟩ := HV.out.at kk hkl
      rw [hy] at c0 c1 hfs
      have d0 := (BW.out.cell (p := ⟨b, off + kk * 2, none⟩) hbw).trans c0
      have d1 := (BW.out.cell (p := ⟨b, off + kk * 2 + 1, none⟩) hbw).trans c1
      have hcall := HP.out wr y (.slice fa y.cons.length fc) HM.out BW.out (hfs.keep BW.out (Nat.le_refl _))
      generalize y.name = nm at d0 hcall
      generalize y.cons.length = fl at d1 hcall
      clear c0 c1 hfs
      have HY := Lib.hid hy
      clear hy
      cases hq : p y with
      | true =>
        rw [hq] at hcall
        have HQ := Lib.hid hq
        clear hq
        go_wp2_with fail
        refine hcall.mono ?_
        rintro e w' ⟨rfl, hb'⟩
        have HB := Lib.hid hb'
        clear hb' hcall eg HV
        go_wp2
        go_ret
        exact ⟨by rw [Dt.fidx_hit p l kk hkl (by rw [HY.out]; exact HQ.out) (fun j h => A.out j h _)] <;> rfl, HB.out⟩
      | false =>
        rw [hq] at hcall
        have HQ := Lib.hid hq
        clear hq
        go_wp2_with fail
        refine hcall.mono ?_
        rintro e w' ⟨rfl, hb'⟩
        have HB := Lib.hid hb'
        clear hb' hcall eg HV
        go_wp2
        go_roundg (n - (kk + 1))
        case measure => omega
        case rel =>
          refine ⟨kk + 1, by omega, by omega, by go_num, HB, Lib.hid (fun j h h2 => ?_)⟩
          by_cases e : j = kk
          · subst e
            rw [HY.out]; exact HQ.out
          · exact A.out j (by omega) h2
    · obtain rfl : n = kk := by omega
      have hnn : ¬ (n : Int) < n := by omega
      go_wp2
      go_ret
      exact ⟨by rw [Dt.fidx_miss p l (fun j h => A.out j (by rw [← HL.out]; exact h) h)] <;> rfl, BW.out⟩

set_option maxRecDepth 100000 in
set_option maxHeartbeats 3200000 in
theorem containsD (g : Nat) (lb : Array Value) (p : DataM → Bool) (v : Value) (l : List DataM) (r : Bool) (w : World) (eg : ∀ args w, (callFunc g args).run Try.prog w = .ok (.enter g args) w) (hp : PredD g lb l p w) (hv : DsAt w v l) (hn : l.length ≤ 100000) (hr : Hid (l.any p = r)) :
    Calls Try.prog 34 #[v, .func (.func g) #[] lb] w fun e w' => e = .returned (.bool r) ∧ Below w.heap.size w w' := by
  obtain ⟨i, hi⟩ : ∃ i, Dt.fidx p l = i := ⟨_, rfl⟩
  have h := indexD g lb p v l w eg hp hv hn
  rw [hi] at h
  have hd : decide (0 ≤ i) = r := by rw [← hi, Dt.fidx_any, hr.out]
  have HC := Lib.hid h
  clear h hp hv hi hr
  go_enter Try.func34, Try.ntmps34
  go_wp2_with fail
  refine HC.out.mono ?_
  rintro e w1 ⟨rfl, hb⟩
  have HB := Lib.hid hb
  clear hb
  go_wp2
  go_ret
  exact ⟨by rw [← hd] <;> rfl, HB.out⟩

/-- What is asked of a predicate over fields. -/
def PredF (g : Nat) (lb : Array Value) (l : List Int) (p : Int → Bool) (w : World) : Prop :=
  ∀ (W : World) (x : Int) , x ∈ l → Below w.heap.size w W → Calls Try.prog g (#[.int .i64 x] ++ lb) W fun e w' => e = .returned (.bool (p x)) ∧ Below w.heap.size w w'

set_option maxRecDepth 100000 in
set_option maxHeartbeats 3200000 in
theorem indexF (g : Nat) (lb : Array Value) (p : Int → Bool) (v : Value) (l : List Int) (w : World) (eg : ∀ args w, (callFunc g args).run Try.prog w = .ok (.enter g args) w) (hp : PredF g lb l p w) (hv : FsAt w v l) (hn : l.length ≤ 100000) :
    Calls Try.prog 49 #[v, .func (.func g) #[] lb] w fun e w' => e = .returned (.int .i64 (Dt.fidx p l)) ∧ Below w.heap.size w w' := by
  obtain ⟨ad, cap, rfl⟩ := hv.slice
  obtain ⟨n, hln⟩ : ∃ n, l.length = n := ⟨_, rfl⟩
  rw [hln] at hn hv ⊢
  have HL := Lib.hid hln
  have HV := Lib.hid hv
  have HP := Lib.hid hp
  clear hln hv hp
  go_enter Try.func49, Try.ntmps49
  go_wp2
  go_loopg [5, 8] n (fun gg _ s8 wr => ∃ kk : Nat, kk ≤ n ∧ n - kk ≤ gg ∧ s8 = .int .i64 kk ∧ Hid (Below w.heap.size w wr) ∧ Hid (∀ j (h : j < kk) (h2 : j < l.length), p (l[j]'h2) = false))
  case atStart => exact ⟨0, Nat.zero_le _, by omega, rfl, Lib.hid (Below.refl _ w), Lib.hid (fun j h => absurd h (Nat.not_lt_zero _))⟩
  case round =>
    obtain ⟨kk, hkk, hg, rfl, BW, A⟩ := hrel
    by_cases hlt : kk < n
    · have hltz : (kk : Int) < (n : Int) := by omega
      have hkl : kk < l.length := by rw [HL.out]; exact hlt
      obtain ⟨y, hy⟩ : ∃ y, l[kk] = y := ⟨_, rfl⟩
      have HM : Hid (y ∈ l) := Lib.hid (by rw [← hy]; exact List.getElem_mem hkl)
      obtain ⟨b, off, rfl, hbw, c0⟩ := HV.out.at kk hkl
      rw [hy] at c0
      have d0 := (BW.out.cell (p := ⟨b, off + kk, none⟩) hbw).trans c0
      have hcall := HP.out wr y HM.out BW.out
      clear c0
      have HY := Lib.hid hy
      clear hy
      cases hq : p y with
      | true =>
        rw [hq] at hcall
        have HQ := Lib.hid hq
        clear hq
        go_wp2_with fail
        refine hcall.mono ?_
        rintro e w' ⟨rfl, hb'⟩
        have HB := Lib.hid hb'
        clear hb' hcall eg HV
        go_wp2
        go_ret
        exact ⟨by rw [Dt.fidx_hit p l kk hkl (by rw [HY.out]; exact HQ.out) (fun j h => A.out j h _)] <;> rfl, HB.out⟩
      | false =>
        rw [hq] at hcall
        have HQ := Lib.hid hq
        clear hq
        go_wp2_with fail
        refine hcall.mono ?_
        rintro e w' ⟨rfl, hb'⟩
        have HB := Lib.hid hb'
        clear hb' hcall eg HV
        go_wp2
        go_roundg (n - (kk + 1))
        case measure => omega
        case rel =>
          refine ⟨kk + 1, by omega, by omega, by go_num, HB, Lib.hid (fun j h h2 => ?_)⟩
          by_cases e : j = kk
          · subst e
            rw [HY.out]; exact HQ.out
          · exact A.out j (by omega) h2
    · obtain rfl : n = kk := by omega
      have hnn : ¬ (n : Int) < n := by omega
      go_wp2
      go_ret
      exact ⟨by rw [Dt.fidx_miss p l (fun j h => A.out j (by rw [← HL.out]; exact h) h)] <;> rfl, BW.out⟩

set_option maxRecDepth 100000 in
set_option maxHeartbeats 3200000 in
theorem containsF (g : Nat) (lb : Array Value) (p : Int → Bool) (v : Value) (l : List Int) (r : Bool) (w : World) (eg : ∀ args w, (callFunc g args).run Try.prog w = .ok (.enter g args) w) (hp : PredF g lb l p w) (hv : FsAt w v l) (hn : l.length ≤ 100000) (hr : Hid (l.any p = r)) :
    Calls Try.prog 28 #[v, .func (.func g) #[] lb] w fun e w' => e = .returned (.bool r) ∧ Below w.heap.size w w' := by
  obtain ⟨i, hi⟩ : ∃ i, Dt.fidx p l = i := ⟨_, rfl⟩
  have h := indexF g lb p v l w eg hp hv hn
  rw [hi] at h
  have hd : decide (0 ≤ i) = r := by rw [← hi, Dt.fidx_any, hr.out]
  have HC := Lib.hid h
  clear h hp hv hi hr
  go_enter Try.func28, Try.ntmps28
  go_wp2_with fail
  refine HC.out.mono ?_
  rintro e w1 ⟨rfl, hb⟩
  have HB := Lib.hid hb
  clear hb
  go_wp2
  go_ret
  exact ⟨by rw [← hd] <;> rfl, HB.out⟩

end Go.Proofs.Ytphlokjhfbfogaa
