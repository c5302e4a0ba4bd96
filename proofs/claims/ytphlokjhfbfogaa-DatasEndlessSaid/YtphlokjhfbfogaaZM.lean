/- What Recursive does. -/
import Derived.Test.YtphlokjhfbfogaaZL
set_option linter.unusedVariables false
set_option linter.unusedSimpArgs false
namespace Go.Proofs.Ytphlokjhfbfogaa
open Go.RowKit Go.Shelf

theorem eRec1 : ∀ args w, (callFunc 29 args).run Try.prog w = .ok (.enter 29 args) w := enters_of Try.func29 (by kernel_rfl) rfl
theorem eRec11 : ∀ args w, (callFunc 31 args).run Try.prog w = .ok (.enter 31 args) w := enters_of Try.func31 (by kernel_rfl) rfl

namespace Dt
def hasT (t : Int) (l : List Int) : Bool := l.any (fun x => t == x)
def recC (t : Int) (c : ConM) : Bool := hasT t c.fields
def recT (d : List DataM) (t x : Int) : Bool := (consOf d x).any (recC t)
def recB (d : List DataM) (t : Int) : Bool := (reach d t).any (recT d t)
theorem reach_length {d : List DataM} (hd : Sm d) (t : Int) : (reach d t).length ≤ 101 := by
  have h1 := reach_bound d 150 t []
  have h2 := unmet_le d []
  have h3 := hd.1
  unfold reach
  simp at h1
  omega
end Dt

set_option maxRecDepth 100000 in
set_option maxHeartbeats 1600000 in
theorem indexT_any (v : Value) (l : List Int) (t : Int) (w : World) (hv : FsAt w v l) (hn : l.length ≤ 100000) :
    Calls Try.prog 50 #[v, .int .i64 t] w fun e w' => e = .returned (.int .i64 (Dt.fidx (fun x => t == x) l)) ∧ w' = w := by
  obtain ⟨ad, cap, rfl⟩ := hv.slice
  obtain ⟨n, hln⟩ : ∃ n, l.length = n := ⟨_, rfl⟩
  rw [hln] at hn hv ⊢
  have HL := Lib.hid hln
  have HV := Lib.hid hv
  clear hln hv
  go_enter Try.func50, Try.ntmps50
  go_wp2
  go_loop [8] (fun i => ∃ k : Nat, k ≤ n ∧ i = .int .i64 k ∧ Hid (∀ j (h : j < k) (h2 : j < l.length), (t == l[j]'h2) = false)) (fun i => n - (intOf i).toNat)
  case atStart => exact ⟨0, Nat.zero_le _, rfl, Lib.hid (fun j h => absurd h (Nat.not_lt_zero _))⟩
  case round =>
    obtain ⟨k, hk, rfl, A⟩ := hrel
    by_cases hlt : k < n
    · have hltz : (k : Int) < (n : Int) := by omega
      have hkm : k < l.length := by rw [HL.out]; exact hlt
      obtain ⟨b, off, rfl, hb, c0⟩ := HV.out.at k hkm
      obtain ⟨x, hx⟩ : ∃ x, l[k] = x := ⟨_, rfl⟩
      rw [hx] at c0
      have HX := Lib.hid hx
      obtain ⟨q, hq⟩ : ∃ q, (t == x) = q := ⟨_, rfl⟩
      clear hx
      cases q with
      | true =>
        go_wp2
        go_ret
        exact ⟨by rw [Dt.fidx_hit (fun x => t == x) l k hkm (by rw [HX.out]; exact hq) (fun j h => A.out j h _)] <;> rfl, rfl⟩
      | false =>
        have HQ := Lib.hid hq
        go_wp2
        go_round
        case rel =>
          refine ⟨k + 1, by omega, by go_num, Lib.hid (fun j h h2 => ?_)⟩
          by_cases e : j = k
          · subst e; rw [HX.out]; exact HQ.out
          · exact A.out j (by omega) h2
        case measure => simp [intOf]; omega
    · obtain rfl : n = k := by omega
      have hnn : ¬ (n : Int) < n := by omega
      go_wp2
      go_ret
      exact ⟨by rw [Dt.fidx_miss (fun x => t == x) l (fun j h => A.out j (by rw [← HL.out]; exact h) h)] <;> rfl, rfl⟩

set_option maxRecDepth 100000 in
set_option maxHeartbeats 1600000 in
theorem containsT_any (v : Value) (l : List Int) (t : Int) (r : Bool) (w : World) (hv : FsAt w v l) (hn : l.length ≤ 100000) (hr : Hid (Dt.hasT t l = r)) :
    Calls Try.prog 32 #[v, .int .i64 t] w fun e w' => e = .returned (.bool r) ∧ w' = w := by
  obtain ⟨i, hi⟩ : ∃ i, Dt.fidx (fun x => t == x) l = i := ⟨_, rfl⟩
  have h := indexT_any v l t w hv hn
  rw [hi] at h
  have hd : decide (0 ≤ i) = r := by rw [← hi, Dt.fidx_any, ← hr.out]; rfl
  have HC := Lib.hid h
  obtain ⟨ad, cap, rfl⟩ := hv.slice
  clear h hv hi hr
  go_enter Try.func32, Try.ntmps32
  go_wp2_with fail
  refine HC.out.mono ?_
  rintro e w1 ⟨rfl, rfl⟩
  go_wp2
  go_ret
  exact ⟨by rw [← hd] <;> rfl, rfl⟩

set_option maxRecDepth 100000 in
set_option maxHeartbeats 1600000 in
theorem rec11_any (x : ConM) (vf : Value) (t : Int) (b : Nat) (r : Bool) (w : World) (hb : b < w.heap.size) (hc : w.cell? ⟨b, 0, none⟩ = some (.int .i64 t)) (hf : FsAt w vf x.fields) (hs : SmC x) (hr : Hid (Dt.recC t x = r)) :
    Calls Try.prog 31 #[.agg #[.string x.name, vf], .pointer (some ⟨b, 0, none⟩)] w fun e w' => e = .returned (.bool r) ∧ Below w.heap.size w w' := by
  obtain ⟨fa, fc, rfl⟩ := hf.slice
  have hl := hs.2.1
  have hA := (Below.refl w.heap.size w).alloc (Nat.le_refl _) (.cells #[.string x.name, .slice fa x.fields.length fc] 34)
  have HC := Lib.hid (containsT_any (.slice fa x.fields.length fc) x.fields t r (w.alloc (.cells #[.string x.name, .slice fa x.fields.length fc] 34)) (hf.keep hA (Nat.le_refl _)) (by omega) hr)
  have HA := Lib.hid hA
  have hne : b ≠ w.heap.size := by omega
  generalize x.name = nm at HA HC
  generalize x.fields.length = fl at HA HC
  clear hA hf hs hl hr
  go_enter Try.func31, Try.ntmps31
  go_wp2_with fail
  refine HC.out.mono ?_
  rintro e w1 ⟨rfl, rfl⟩
  go_wp2
  go_ret
  exact ⟨rfl, HA.out⟩

theorem rec11_pred (l : List ConM) (hl : ∀ c ∈ l, SmC c) (t : Int) (b : Nat) (w : World) (hb : b < w.heap.size) (hc : w.cell? ⟨b, 0, none⟩ = some (.int .i64 t)) : PredC 31 #[.pointer (some ⟨b, 0, none⟩)] l (Dt.recC t) w := by
  intro W x vf hx hW hf
  refine (rec11_any x vf t b _ W (Nat.lt_of_lt_of_le hb hW.size) ((hW.cell (p := ⟨b, 0, none⟩) hb).trans hc) hf (hl x hx) (Lib.hid rfl)).mono ?_
  rintro e w' ⟨rfl, hb'⟩
  exact ⟨rfl, hW.trans (hb'.mono hW.size)⟩

set_option maxRecDepth 100000 in
set_option maxHeartbeats 1600000 in
theorem rec1_any (x t : Int) (v : Value) (d : List DataM) (bd bt : Nat) (r : Bool) (w : World) (hbd : bd < w.heap.size) (hbt : bt < w.heap.size) (hcd : w.cell? ⟨bd, 0, none⟩ = some v) (hct : w.cell? ⟨bt, 0, none⟩ = some (.int .i64 t)) (hv : DsAt w v d) (hd : Sm d) (hr : Hid (Dt.recT d t x = r)) :
    Calls Try.prog 29 #[.int .i64 x, .pointer (some ⟨bd, 0, none⟩), .pointer (some ⟨bt, 0, none⟩)] w fun e w' => e = .returned (.bool r) ∧ Below w.heap.size w w' := by
  obtain ⟨ad, cap, rfl⟩ := hv.slice
  have hsc : ∀ c ∈ Dt.consOf d x, SmC c := fun c hc => by obtain ⟨y, hy, hcy⟩ := consOf_mem hc; exact (hd.2 y hy).2.2 c hcy
  have hcl := consOf_length hd x
  have HC := Lib.hid (constructors_any (.slice ad d.length cap) d x w hv hd.1)
  have HP := Lib.hid (rec11_pred (Dt.consOf d x) hsc t bt w hbt hct)
  generalize d.length = n at HC hcd
  clear hv hd hsc hct
  go_enter Try.func29, Try.ntmps29
  go_wp2_with fail
  refine HC.out.mono ?_
  rintro e w' ⟨u, rfl, hu, hw⟩
  subst hw
  have HCC := Lib.hid (containsC 31 #[.pointer (some ⟨bt, 0, none⟩)] (Dt.recC t) u (Dt.consOf d x) r _ eRec11 HP.out hu (by omega) hr)
  obtain ⟨au, cu, rfl⟩ := hu.slice
  generalize (Dt.consOf d x).length = nu at HCC
  clear hu HC hcd
  go_wp2_with fail
  refine HCC.out.mono ?_
  rintro e w1 ⟨rfl, hb⟩
  have HB := Lib.hid hb
  clear hb
  go_wp2
  go_ret
  exact ⟨rfl, HB.out⟩

theorem rec1_pred (l : List Int) (t : Int) (v : Value) (d : List DataM) (bd bt : Nat) (w : World) (hbd : bd < w.heap.size) (hbt : bt < w.heap.size) (hcd : w.cell? ⟨bd, 0, none⟩ = some v) (hct : w.cell? ⟨bt, 0, none⟩ = some (.int .i64 t)) (hv : DsAt w v d) (hd : Sm d) : PredF 29 #[.pointer (some ⟨bd, 0, none⟩), .pointer (some ⟨bt, 0, none⟩)] l (Dt.recT d t) w := by
  intro W x hx hW
  refine (rec1_any x t v d bd bt _ W (Nat.lt_of_lt_of_le hbd hW.size) (Nat.lt_of_lt_of_le hbt hW.size) ((hW.cell (p := ⟨bd, 0, none⟩) hbd).trans hcd) ((hW.cell (p := ⟨bt, 0, none⟩) hbt).trans hct) (hv.keep hW (Nat.le_refl _)) hd (Lib.hid rfl)).mono ?_
  rintro e w' ⟨rfl, hb'⟩
  exact ⟨rfl, hW.trans (hb'.mono hW.size)⟩

set_option maxRecDepth 100000 in
set_option maxHeartbeats 1600000 in
theorem Recursive_any (v : Value) (d : List DataM) (t : Int) (r : Bool) (w : World) (hv : DsAt w v d) (hd : Sm d) (ht : In64 t) (hr : Hid (Dt.recB d t = r)) :
    Calls Try.prog 11 #[v, .int .i64 t] w fun e w' => e = .returned (.bool r) ∧ Below w.heap.size w w' := by
  obtain ⟨ad, cap, hvE⟩ := hv.slice
  have hA1 := (Below.refl w.heap.size w).alloc (Nat.le_refl _) (.cells #[v] 22)
  have hA := hA1.alloc hA1.size (.cells #[.int .i64 t] 27)
  have hs1 : (w.alloc (.cells #[v] 22)).heap.size = w.heap.size + 1 := by simp
  have hcd : ((w.alloc (.cells #[v] 22)).alloc (.cells #[.int .i64 t] 27)).cell? ⟨w.heap.size, 0, none⟩ = some v := ((Boxed.new w 22 v).alloc _).cell
  have hct : ((w.alloc (.cells #[v] 22)).alloc (.cells #[.int .i64 t] 27)).cell? ⟨w.heap.size + 1, 0, none⟩ = some (.int .i64 t) := by rw [← hs1]; exact (Boxed.new _ 27 (.int .i64 t)).cell
  have HR := Lib.hid (Reach_any v d t _ (hv.keep hA (Nat.le_refl _)) hd ht)
  have hbig : w.heap.size + 1 < ((w.alloc (.cells #[v] 22)).alloc (.cells #[.int .i64 t] 27)).heap.size := by simp
  have HP : Hid (∀ W u, Below ((w.alloc (.cells #[v] 22)).alloc (.cells #[.int .i64 t] 27)).heap.size ((w.alloc (.cells #[v] 22)).alloc (.cells #[.int .i64 t] 27)) W → FsAt W u (Dt.reach d t) → Calls Try.prog 28 #[u, .func (.func 29) #[] #[.pointer (some ⟨w.heap.size, 0, none⟩), .pointer (some ⟨w.heap.size + 1, 0, none⟩)]] W fun e w' => e = .returned (.bool r) ∧ Below W.heap.size W w') := Lib.hid (fun W u hW hu =>
    containsF 29 _ (Dt.recT d t) u (Dt.reach d t) r W eRec1 (rec1_pred _ t v d w.heap.size (w.heap.size + 1) W (by have := hW.size; omega) (by have := hW.size; omega) ((hW.cell (p := ⟨w.heap.size, 0, none⟩) (by show w.heap.size < _; omega)).trans hcd) ((hW.cell (p := ⟨w.heap.size + 1, 0, none⟩) hbig).trans hct) (hv.keep (hA.trans (hW.mono hA.size)) (Nat.le_refl _)) hd) hu (by have := Dt.reach_length hd t; omega) hr)
  have HA := Lib.hid hA
  have HRL := Lib.hid (Dt.reach_length hd t)
  generalize d.length = n at hvE
  subst hvE
  clear hv hd ht hr hA1 hA hs1 hcd hct hbig
  go_enter Try.func11, Try.ntmps11
  go_wp2_with fail
  refine HR.out.mono ?_
  rintro e w1 ⟨⟨u, rfl, hu⟩, hb⟩
  have HB1 := Lib.hid hb
  have HC := Lib.hid (HP.out w1 u hb hu)
  obtain ⟨au, cu, rfl⟩ := hu.slice
  generalize (Dt.reach d t).length = nu at HC
  clear hu hb HP HR
  go_wp2_with fail
  refine HC.out.mono ?_
  rintro e w2 ⟨rfl, hb⟩
  have HB2 := Lib.hid (HA.out.trans ((HB1.out.trans (hb.mono HB1.out.size)).mono HA.out.size))
  clear hb
  go_wp2
  go_ret
  exact ⟨rfl, HB2.out⟩

end Go.Proofs.Ytphlokjhfbfogaa
