/- What hasFieldTypes does. -/
import Derived.Test.YtphlokjhfbfogaaZ7
set_option linter.unusedVariables false
set_option linter.unusedSimpArgs false
namespace Go.Proofs.Ytphlokjhfbfogaa
open Go.RowKit Go.Shelf

set_option maxRecDepth 100000 in
set_option maxHeartbeats 1600000 in
theorem off1_any (t : Int) (ad : Option Addr) (n cap b : Nat) (d : List DataM) (r : Bool) (w : World) (hn : Hid (d.length = n)) (hc : w.cell? ⟨b, 0, none⟩ = some (.slice ad n cap)) (hr : Hid (Dt.ok d t = r)) :
    Calls Try.prog 43 #[.int .i64 t, .pointer (some ⟨b, 0, none⟩)] w fun e w' => e = .returned (.bool !r) ∧ w' = w := by
  go_enter Try.func43, Try.ntmps43
  go_wp2_with fail
  refine (exists_any ad n cap t d r w hn hr).mono ?_
  rintro e w' ⟨rfl, rfl⟩
  go_wp2
  go_ret
  exact ⟨rfl, rfl⟩

theorem off1_pred (l : List Int) (ad : Option Addr) (n cap b : Nat) (d : List DataM) (w : World) (hn : Hid (d.length = n)) (hb : b < w.heap.size) (hc : w.cell? ⟨b, 0, none⟩ = some (.slice ad n cap)) : PredF 43 #[.pointer (some ⟨b, 0, none⟩)] l (Dt.offT d) w := by
  intro W x hx hW
  refine (off1_any x ad n cap b d _ W hn ((hW.cell (p := ⟨b, 0, none⟩) hb).trans hc) (Lib.hid rfl)).mono ?_
  rintro e w' ⟨rfl, rfl⟩
  exact ⟨rfl, hW⟩

set_option maxRecDepth 100000 in
set_option maxHeartbeats 1600000 in
theorem off2_any (x : ConM) (vf : Value) (ad : Option Addr) (n cap b : Nat) (d : List DataM) (r : Bool) (w : World) (hn : Hid (d.length = n)) (hb : b < w.heap.size) (hc : w.cell? ⟨b, 0, none⟩ = some (.slice ad n cap)) (hf : FsAt w vf x.fields) (hs : SmC x) (hr : Hid (Dt.offC d x = r)) :
    Calls Try.prog 42 #[.agg #[.string x.name, vf], .pointer (some ⟨b, 0, none⟩)] w fun e w' => e = .returned (.bool r) ∧ Below w.heap.size w w' := by
  obtain ⟨fa, fc, rfl⟩ := hf.slice
  have hl := hs.2.1
  have hA := (Below.refl w.heap.size w).alloc (Nat.le_refl _) (.cells #[.string x.name, .slice fa x.fields.length fc] 34)
  have HC := Lib.hid (containsF 43 #[.pointer (some ⟨b, 0, none⟩)] (Dt.offT d) (.slice fa x.fields.length fc) x.fields r (w.alloc (.cells #[.string x.name, .slice fa x.fields.length fc] 34)) eType111a (off1_pred x.fields ad n cap b d _ hn (Nat.lt_of_lt_of_le hb hA.size) ((hA.cell (p := ⟨b, 0, none⟩) hb).trans hc)) (hf.keep hA (Nat.le_refl _)) (by omega) hr)
  have HA := Lib.hid hA
  generalize x.name = nm at HA HC
  generalize x.fields.length = fl at HA HC
  clear hA hf hs hl hc
  go_enter Try.func42, Try.ntmps42
  go_wp2_with fail
  refine HC.out.mono ?_
  rintro e w1 ⟨rfl, hb'⟩
  have HB := Lib.hid (HA.out.trans (hb'.mono HA.out.size))
  clear hb'
  go_wp2
  go_ret
  exact ⟨rfl, HB.out⟩

theorem off2_pred (l : List ConM) (hl : ∀ c ∈ l, SmC c) (ad : Option Addr) (n cap b : Nat) (d : List DataM) (w : World) (hn : Hid (d.length = n)) (hb : b < w.heap.size) (hc : w.cell? ⟨b, 0, none⟩ = some (.slice ad n cap)) : PredC 42 #[.pointer (some ⟨b, 0, none⟩)] l (Dt.offC d) w := by
  intro W x vf hx hW hf
  refine (off2_any x vf ad n cap b d _ W hn (Nat.lt_of_lt_of_le hb hW.size) ((hW.cell (p := ⟨b, 0, none⟩) hb).trans hc) hf (hl x hx) (Lib.hid rfl)).mono ?_
  rintro e w' ⟨rfl, hb'⟩
  exact ⟨rfl, hW.trans (hb'.mono hW.size)⟩

set_option maxRecDepth 100000 in
set_option maxHeartbeats 1600000 in
theorem off3_any (x : DataM) (vf : Value) (ad : Option Addr) (n cap b : Nat) (d : List DataM) (r : Bool) (w : World) (hn : Hid (d.length = n)) (hb : b < w.heap.size) (hc : w.cell? ⟨b, 0, none⟩ = some (.slice ad n cap)) (hf : CsAt w vf x.cons) (hs : SmD x) (hr : Hid (Dt.offD d x = r)) :
    Calls Try.prog 41 #[.agg #[.string x.name, vf], .pointer (some ⟨b, 0, none⟩)] w fun e w' => e = .returned (.bool r) ∧ Below w.heap.size w w' := by
  obtain ⟨fa, fc, rfl⟩ := hf.slice
  have hl := hs.2.1
  have hA := (Below.refl w.heap.size w).alloc (Nat.le_refl _) (.cells #[.string x.name, .slice fa x.cons.length fc] 37)
  have HC := Lib.hid (containsC 42 #[.pointer (some ⟨b, 0, none⟩)] (Dt.offC d) (.slice fa x.cons.length fc) x.cons r (w.alloc (.cells #[.string x.name, .slice fa x.cons.length fc] 37)) eType11a (off2_pred x.cons hs.2.2 ad n cap b d _ hn (Nat.lt_of_lt_of_le hb hA.size) ((hA.cell (p := ⟨b, 0, none⟩) hb).trans hc)) (hf.keep hA (Nat.le_refl _)) (by omega) hr)
  have HA := Lib.hid hA
  generalize x.name = nm at HA HC
  generalize x.cons.length = fl at HA HC
  clear hA hf hs hl hc
  go_enter Try.func41, Try.ntmps41
  go_wp2_with fail
  refine HC.out.mono ?_
  rintro e w1 ⟨rfl, hb'⟩
  have HB := Lib.hid (HA.out.trans (hb'.mono HA.out.size))
  clear hb'
  go_wp2
  go_ret
  exact ⟨rfl, HB.out⟩

theorem off3_pred (l : List DataM) (hl : ∀ c ∈ l, SmD c) (ad : Option Addr) (n cap b : Nat) (d : List DataM) (w : World) (hn : Hid (d.length = n)) (hb : b < w.heap.size) (hc : w.cell? ⟨b, 0, none⟩ = some (.slice ad n cap)) : PredD 41 #[.pointer (some ⟨b, 0, none⟩)] l (Dt.offD d) w := by
  intro W x vf hx hW hf
  refine (off3_any x vf ad n cap b d _ W hn (Nat.lt_of_lt_of_le hb hW.size) ((hW.cell (p := ⟨b, 0, none⟩) hb).trans hc) hf (hl x hx) (Lib.hid rfl)).mono ?_
  rintro e w' ⟨rfl, hb'⟩
  exact ⟨rfl, hW.trans (hb'.mono hW.size)⟩

set_option maxRecDepth 100000 in
set_option maxHeartbeats 1600000 in
theorem hasFieldTypes_any (v : Value) (d : List DataM) (r : Bool) (w : World) (hv : DsAt w v d) (hd : Sm d) (hr : Hid (Dt.typed d = r)) :
    Calls Try.prog 17 #[v] w fun e w' => e = .returned (.bool r) ∧ Below w.heap.size w w' := by
  obtain ⟨q, hq⟩ : ∃ q, d.any (Dt.offD d) = q := ⟨_, rfl⟩
  obtain rfl : r = !q := by rw [← hr.out, Dt.typed, hq]
  obtain ⟨ad, cap, rfl⟩ := hv.slice
  have hA := (Below.refl w.heap.size w).alloc (Nat.le_refl _) (.cells #[.slice ad d.length cap] 22)
  have hl := hd.1
  have HC := Lib.hid (containsD 41 #[.pointer (some ⟨w.heap.size, 0, none⟩)] (Dt.offD d) (.slice ad d.length cap) d q (w.alloc (.cells #[.slice ad d.length cap] 22)) eType1a (off3_pred d hd.2 ad d.length cap w.heap.size d _ (Lib.hid rfl) (by simp) (by rw [World.cell?_alloc_new]; rfl)) (hv.keep hA (Nat.le_refl _)) (by omega) (Lib.hid hq))
  have HA := Lib.hid hA
  generalize d.length = n at HA HC
  clear hA hv hd hl hq hr
  go_enter Try.func17, Try.ntmps17
  go_wp2_with fail
  refine HC.out.mono ?_
  rintro e w1 ⟨rfl, hb'⟩
  have HB := Lib.hid (HA.out.trans (hb'.mono HA.out.size))
  clear hb'
  go_wp2
  go_ret
  exact ⟨rfl, HB.out⟩

end Go.Proofs.Ytphlokjhfbfogaa
