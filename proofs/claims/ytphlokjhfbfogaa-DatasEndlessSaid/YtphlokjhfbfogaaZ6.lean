/- What hasTooMany, hasForm and hasFieldTypes do. -/
import Derived.Test.YtphlokjhfbfogaaZ3
import Derived.Test.YtphlokjhfbfogaaZ5
set_option linter.unusedVariables false
set_option linter.unusedSimpArgs false
namespace Go.Proofs.Ytphlokjhfbfogaa
open Go.RowKit Go.Shelf

namespace Dt
def boolN : ByteArray := ⟨#[66, 111, 111, 108]⟩
def falseN : ByteArray := ⟨#[70, 97, 108, 115, 101]⟩
def trueN : ByteArray := ⟨#[84, 114, 117, 101]⟩
def manyC (c : ConM) : Bool := decide (6 < c.fields.length)
def manyD (x : DataM) : Bool := decide (16 < x.cons.length) || x.cons.any manyC
def many (d : List DataM) : Bool := decide (64 < d.length) || d.any manyD
def pairB (c : ConM) (n : ByteArray) : Bool := seq c.name n && !hasF c
def isBool (x : DataM) : Bool := seq x.name boolN && match x.cons with
  | [a, b] => pairB a falseN && pairB b trueN
  | _ => false
def badC (c : ConM) : Bool := !upper c.name
def badD (x : DataM) : Bool := !upper x.name || decide (x.cons.length = 0) || x.cons.any badC
def form (d : List DataM) : Bool := match d with
  | [] => false
  | x :: _ => isBool x && !d.any badD
def offT (d : List DataM) (t : Int) : Bool := !ok d t
def offC (d : List DataM) (c : ConM) : Bool := c.fields.any (offT d)
def offD (d : List DataM) (x : DataM) : Bool := x.cons.any (offC d)
def typed (d : List DataM) : Bool := !d.any (offD d)
end Dt

theorem eMany1 : ∀ args w, (callFunc 35 args).run Try.prog w = .ok (.enter 35 args) w := enters_of Try.func35 (by kernel_rfl) rfl
theorem eMany11 : ∀ args w, (callFunc 36 args).run Try.prog w = .ok (.enter 36 args) w := enters_of Try.func36 (by kernel_rfl) rfl
theorem eForm1 : ∀ args w, (callFunc 38 args).run Try.prog w = .ok (.enter 38 args) w := enters_of Try.func38 (by kernel_rfl) rfl
theorem eForm11 : ∀ args w, (callFunc 40 args).run Try.prog w = .ok (.enter 40 args) w := enters_of Try.func40 (by kernel_rfl) rfl
theorem eBool1 : ∀ args w, (callFunc 52 args).run Try.prog w = .ok (.enter 52 args) w := enters_of Try.func52 (by kernel_rfl) rfl
theorem eType1a : ∀ args w, (callFunc 41 args).run Try.prog w = .ok (.enter 41 args) w := enters_of Try.func41 (by kernel_rfl) rfl
theorem eType11a : ∀ args w, (callFunc 42 args).run Try.prog w = .ok (.enter 42 args) w := enters_of Try.func42 (by kernel_rfl) rfl
theorem eType111a : ∀ args w, (callFunc 43 args).run Try.prog w = .ok (.enter 43 args) w := enters_of Try.func43 (by kernel_rfl) rfl

set_option maxRecDepth 100000 in
set_option maxHeartbeats 1600000 in
theorem many11_any (nm : ByteArray) (ad : Option Addr) (n cap : Nat) (r : Bool) (w : World) (hr : Hid (decide (6 < n) = r)) :
    Calls Try.prog 36 #[.agg #[.string nm, .slice ad n cap]] w fun e w' => e = .returned (.bool r) ∧ Below w.heap.size w w' := by
  have HA := Lib.hid ((Below.refl w.heap.size w).alloc (Nat.le_refl _) (.cells #[.string nm, .slice ad n cap] 34))
  have HR : Hid (decide ((6 : Int) < (n : Int)) = r) := Lib.hid (by rw [← hr.out]; exact decide_eq_decide.2 (by omega))
  clear hr
  go_enter Try.func36, Try.ntmps36
  go_wp2
  go_ret
  exact ⟨by rw [← HR.out] <;> rfl, HA.out⟩

theorem many11_pred (l : List ConM) (w : World) : PredC 36 #[] l Dt.manyC w := by
  intro W x vf hx hW hf
  obtain ⟨ad, cap, rfl⟩ := hf.slice
  refine (many11_any x.name ad x.fields.length cap (Dt.manyC x) W (Lib.hid rfl)).mono ?_
  rintro e w' ⟨rfl, hb⟩
  exact ⟨rfl, hW.trans (hb.mono hW.size)⟩

set_option maxRecDepth 100000 in
set_option maxHeartbeats 1600000 in
theorem many1_any (x : DataM) (vf : Value) (r : Bool) (w : World) (hf : CsAt w vf x.cons) (hr : Hid (Dt.manyD x = r)) (hs : SmD x) :
    Calls Try.prog 35 #[.agg #[.string x.name, vf]] w fun e w' => e = .returned (.bool r) ∧ Below w.heap.size w w' := by
  have h := hr.out
  unfold Dt.manyD at h
  obtain ⟨q, hq⟩ : ∃ q, x.cons.any Dt.manyC = q := ⟨_, rfl⟩
  rw [hq] at h
  have HQ := Lib.hid hq
  have hl := hs.2.1
  obtain ⟨ad, cap, rfl⟩ := hf.slice
  have HA := Lib.hid ((Below.refl w.heap.size w).alloc (Nat.le_refl _) (.cells #[.string x.name, .slice ad x.cons.length cap] 37))
  have HC := Lib.hid (containsC 36 #[] Dt.manyC _ x.cons q _ eMany11 (many11_pred _ _) (hf.keep HA.out (Nat.le_refl _)) (by omega) HQ)
  generalize x.name = nm at HA HC
  generalize x.cons.length = n at HA HC h hl
  clear hq hf hr hs
  by_cases h1 : 16 < n
  · obtain rfl : r = true := by rw [← h]; simp [h1]
    have g1 : (16 : Int) < n := by omega
    clear h
    go_enter Try.func35, Try.ntmps35
    go_wp2
    go_ret
    exact ⟨rfl, HA.out⟩
  · obtain rfl : r = q := by rw [← h]; simp [h1]
    have g1 : ¬ (16 : Int) < n := by omega
    clear h
    go_enter Try.func35, Try.ntmps35
    go_wp2_with fail
    refine HC.out.mono ?_
    rintro e w1 ⟨rfl, hb⟩
    have HB := Lib.hid (HA.out.trans (hb.mono HA.out.size))
    clear hb
    go_wp2
    go_ret
    exact ⟨rfl, HB.out⟩

theorem many1_pred (d : List DataM) (hd : ∀ x ∈ d, SmD x) (w : World) : PredD 35 #[] d Dt.manyD w := by
  intro W x vf hx hW hf
  refine (many1_any x vf _ W hf (Lib.hid rfl) (hd x hx)).mono ?_
  rintro e w' ⟨rfl, hb⟩
  exact ⟨rfl, hW.trans (hb.mono hW.size)⟩

set_option maxRecDepth 100000 in
set_option maxHeartbeats 1600000 in
theorem hasTooMany_any (v : Value) (d : List DataM) (r : Bool) (w : World) (hv : DsAt w v d) (hd : Sm d) (hr : Hid (Dt.many d = r)) :
    Calls Try.prog 14 #[v] w fun e w' => e = .returned (.bool r) ∧ Below w.heap.size w w' := by
  have h := hr.out
  unfold Dt.many at h
  obtain ⟨q, hq⟩ : ∃ q, d.any Dt.manyD = q := ⟨_, rfl⟩
  rw [hq] at h
  have hl := hd.1
  have HC := Lib.hid (containsD 35 #[] Dt.manyD v d q w eMany1 (many1_pred d hd.2 w) hv (by omega) (Lib.hid hq))
  obtain ⟨ad, cap, rfl⟩ := hv.slice
  generalize d.length = n at HC h hl
  clear hq hv hr hd
  by_cases h1 : 64 < n
  · obtain rfl : r = true := by rw [← h]; simp [h1]
    have g1 : (64 : Int) < n := by omega
    clear h
    go_enter Try.func14, Try.ntmps14
    go_wp2
    go_ret
    exact ⟨rfl, Below.refl _ _⟩
  · obtain rfl : r = q := by rw [← h]; simp [h1]
    have g1 : ¬ (64 : Int) < n := by omega
    clear h
    go_enter Try.func14, Try.ntmps14
    go_wp2_with fail
    refine HC.out.mono ?_
    rintro e w1 ⟨rfl, hb⟩
    have HB := Lib.hid hb
    clear hb
    go_wp2
    go_ret
    exact ⟨rfl, HB.out⟩

set_option maxRecDepth 100000 in
set_option maxHeartbeats 1600000 in
theorem form11_any (nm : ByteArray) (ad : Option Addr) (n cap : Nat) (r : Bool) (w : World) (hr : Hid (Dt.upper nm = r)) :
    Calls Try.prog 40 #[.agg #[.string nm, .slice ad n cap]] w fun e w' => e = .returned (.bool !r) ∧ Below w.heap.size w w' := by
  have HA := Lib.hid ((Below.refl w.heap.size w).alloc (Nat.le_refl _) (.cells #[.string nm, .slice ad n cap] 34))
  go_enter Try.func40, Try.ntmps40
  go_wp2_with fail
  refine (Upper_any nm r _ hr).mono ?_
  rintro e w1 ⟨rfl, hb⟩
  have HB := Lib.hid (HA.out.trans (hb.mono HA.out.size))
  clear hb
  go_wp2
  go_ret
  exact ⟨rfl, HB.out⟩

theorem form11_pred (l : List ConM) (w : World) : PredC 40 #[] l Dt.badC w := by
  intro W x vf hx hW hf
  obtain ⟨ad, cap, rfl⟩ := hf.slice
  refine (form11_any x.name ad x.fields.length cap _ W (Lib.hid rfl)).mono ?_
  rintro e w' ⟨rfl, hb⟩
  exact ⟨rfl, hW.trans (hb.mono hW.size)⟩

set_option maxRecDepth 100000 in
set_option maxHeartbeats 1600000 in
theorem form1_any (x : DataM) (vf : Value) (r : Bool) (w : World) (hf : CsAt w vf x.cons) (hr : Hid (Dt.badD x = r)) (hs : SmD x) :
    Calls Try.prog 38 #[.agg #[.string x.name, vf]] w fun e w' => e = .returned (.bool r) ∧ Below w.heap.size w w' := by
  have h := hr.out
  unfold Dt.badD at h
  obtain ⟨q, hq⟩ : ∃ q, x.cons.any Dt.badC = q := ⟨_, rfl⟩
  obtain ⟨u, hu⟩ : ∃ u, Dt.upper x.name = u := ⟨_, rfl⟩
  rw [hq, hu] at h
  have HQ := Lib.hid hq
  have hl := hs.2.1
  have HU0 := Lib.hid hu
  obtain ⟨ad, cap, rfl⟩ := hf.slice
  have hA := (Below.refl w.heap.size w).alloc (Nat.le_refl _) (.cells #[.string x.name, .slice ad x.cons.length cap] 37)
  have hC : ∀ W', Below (w.alloc (.cells #[.string x.name, .slice ad x.cons.length cap] 37)).heap.size (w.alloc (.cells #[.string x.name, .slice ad x.cons.length cap] 37)) W' → Calls Try.prog 30 #[.slice ad x.cons.length cap, .func (.func 40) #[] #[]] W' fun e w' => e = .returned (.bool q) ∧ Below W'.heap.size W' w' := fun W' hW' =>
    containsC 40 #[] Dt.badC _ x.cons q W' eForm11 (form11_pred _ _) (hf.keep (hA.trans (hW'.mono hA.size)) (Nat.le_refl _)) (by omega) HQ
  have HU : Hid (Dt.upper x.name = u) := HU0
  have HA := Lib.hid hA
  have HC := Lib.hid hC
  generalize x.name = nm at HA HC HU
  generalize x.cons.length = n at HA HC h hl
  clear hq hf hr hs hA hC hu HU0 HQ
  cases u with
  | false =>
    obtain rfl : r = true := by rw [← h]; rfl
    clear h
    go_enter Try.func38, Try.ntmps38
    go_wp2_with fail
    refine (Upper_any nm false _ HU).mono ?_
    rintro e w1 ⟨rfl, hb⟩
    have HB := Lib.hid (HA.out.trans (hb.mono HA.out.size))
    clear hb
    go_wp2
    go_ret
    exact ⟨rfl, HB.out⟩
  | true =>
    have hsz : w.heap.size < (w.alloc (.cells #[.string nm, .slice ad n cap] 37)).heap.size := by simp
    have d1 : (w.alloc (.cells #[.string nm, .slice ad n cap] 37)).cell? ⟨w.heap.size, 1, none⟩ = some (.slice ad n cap) := by rw [World.cell?_alloc_new]; rfl
    have HD1 := Lib.hid d1
    have HSZ := Lib.hid hsz
    clear d1 hsz
    by_cases h1 : n = 0
    · obtain rfl : r = true := by rw [← h]; simp [h1]
      subst h1
      clear h
      go_enter Try.func38, Try.ntmps38
      go_wp2_with fail
      refine (Upper_any nm true _ HU).mono ?_
      rintro e w1 ⟨rfl, hb⟩
      have HB := Lib.hid (HA.out.trans (hb.mono HA.out.size))
      have d1 := (hb.cell (p := ⟨w.heap.size, 1, none⟩) HSZ.out).trans HD1.out
      clear hb
      go_wp2
      go_ret
      exact ⟨rfl, HB.out⟩
    · obtain rfl : r = q := by rw [← h]; simp [h1]
      have g1 : ((n : Int) == 0) = false := by simp [h1]
      clear h
      go_enter Try.func38, Try.ntmps38
      go_wp2_with fail
      refine (Upper_any nm true _ HU).mono ?_
      rintro e w1 ⟨rfl, hb⟩
      have HB := Lib.hid (HA.out.trans (hb.mono HA.out.size))
      have d1 := (hb.cell (p := ⟨w.heap.size, 1, none⟩) HSZ.out).trans HD1.out
      have HCC := Lib.hid (HC.out w1 hb)
      clear hb HC
      go_wp2_with fail
      refine HCC.out.mono ?_
      rintro e w2 ⟨rfl, hb⟩
      have HB2 := Lib.hid (HB.out.trans (hb.mono HB.out.size))
      clear hb d1
      go_wp2
      go_ret
      exact ⟨rfl, HB2.out⟩

theorem form1_pred (d : List DataM) (hd : ∀ x ∈ d, SmD x) (w : World) : PredD 38 #[] d Dt.badD w := by
  intro W x vf hx hW hf
  refine (form1_any x vf _ W hf (Lib.hid rfl) (hd x hx)).mono ?_
  rintro e w' ⟨rfl, hb⟩
  exact ⟨rfl, hW.trans (hb.mono hW.size)⟩

end Go.Proofs.Ytphlokjhfbfogaa
