/- What isBool, hasForm and hasFieldTypes do. -/
import Derived.Test.YtphlokjhfbfogaaZ6
set_option linter.unusedVariables false
set_option linter.unusedSimpArgs false
namespace Go.Proofs.Ytphlokjhfbfogaa
open Go.RowKit Go.Shelf

namespace Dt
def zipB : List ConM → List ByteArray → Bool
  | [], _ => true
  | c :: l, n :: ns => pairB c n && zipB l ns
  | _ :: _, [] => true
end Dt

set_option maxRecDepth 100000 in
set_option maxHeartbeats 1600000 in
theorem bool1_any (x : ConM) (vf : Value) (u : ByteArray) (r : Bool) (w : World) (hf : FsAt w vf x.fields) (hr : Hid (Dt.pairB x u = r)) :
    Calls Try.prog 52 #[.agg #[.string x.name, vf], .string u] w fun e w' => e = .returned (.bool r) ∧ Below w.heap.size w w' := by
  have h := hr.out
  unfold Dt.pairB at h
  obtain ⟨q, hq⟩ : ∃ q, Dt.hasF x = q := ⟨_, rfl⟩
  obtain ⟨s, hs⟩ : ∃ s, (x.name.toList == u.toList) = s := ⟨_, rfl⟩
  rw [hq, show Dt.seq x.name u = s from hs] at h
  obtain ⟨ad, cap, rfl⟩ := hf.slice
  have hA := (Below.refl w.heap.size w).alloc (Nat.le_refl _) (.cells #[.string x.name, .slice ad x.fields.length cap] 34)
  have HA := Lib.hid hA
  have HC := Lib.hid (hasFields_any x.name ad x.fields.length cap q (w.alloc (.cells #[.string x.name, .slice ad x.fields.length cap] 34)) (Lib.hid hq))
  generalize x.name = nm at HA HC hs
  generalize x.fields.length = n at HA HC
  clear hq hf hr hA
  cases s with
  | false =>
    obtain rfl : r = false := by rw [← h]; rfl
    clear h
    go_enter Try.func52, Try.ntmps52
    go_wp2
    go_ret
    exact ⟨rfl, HA.out⟩
  | true =>
    obtain rfl : r = !q := by rw [← h]; rfl
    clear h
    go_enter Try.func52, Try.ntmps52
    go_wp2_with fail
    refine HC.out.mono ?_
    rintro e w1 ⟨rfl, hb⟩
    have HB := Lib.hid (HA.out.trans (hb.mono HA.out.size))
    clear hb
    go_wp2
    go_ret
    exact ⟨rfl, HB.out⟩

set_option maxRecDepth 100000 in
set_option maxHeartbeats 3200000 in
theorem equalB_any (v : Value) (l : List ConM) (g : Nat) (r : Bool) (w : World) (hv : CsAt w v l) (hg : g < w.heap.size) (h0 : w.cell? ⟨g, 0, none⟩ = some (.string Dt.falseN)) (h1 : w.cell? ⟨g, 1, none⟩ = some (.string Dt.trueN)) (hr : Hid ((decide (l.length = 2) && Dt.zipB l [Dt.falseN, Dt.trueN]) = r)) :
    Calls Try.prog 51 #[v, .slice (some ⟨g, 0, none⟩) 2 2, .func (.func 52) #[] #[]] w fun e w' => e = .returned (.bool r) ∧ Below w.heap.size w w' := by
  obtain ⟨ad, cap, rfl⟩ := hv.slice
  obtain ⟨n, hln⟩ : ∃ n, l.length = n := ⟨_, rfl⟩
  rw [hln] at hv ⊢
  have h := hr.out
  rw [hln] at h
  clear hr
  by_cases h2 : n = 2
  · subst h2
    have HV := Lib.hid hv
    have HL := Lib.hid hln
    have HZ : Hid (Dt.zipB (l.drop 0) ([Dt.falseN, Dt.trueN].drop 0) = r) := Lib.hid (by rw [← h]; rfl)
    have H0 := Lib.hid h0
    have H1 := Lib.hid h1
    clear hv hln h h0 h1
    go_enter Try.func51, Try.ntmps51
    go_wp2
    go_loopw [7, 8, 9, 17] (fun _ _ _ i wr => ∃ k : Nat, k ≤ 2 ∧ i = .int .i64 k ∧ Hid (Dt.zipB (l.drop k) ([Dt.falseN, Dt.trueN].drop k) = r) ∧ Hid (Below w.heap.size w wr)) (fun _ _ _ i _ => 2 - (intOf i).toNat)
    case atStart => exact ⟨0, Nat.zero_le _, rfl, HZ, Lib.hid (Below.refl _ _)⟩
    case round =>
      obtain ⟨k, hk, rfl, HK, HW⟩ := hrel
      by_cases hlt : k < 2
      · have hltz : (k : Int) < 2 := by omega
        have hkl : k < l.length := by rw [HL.out]; exact hlt
        have hk2 : k < [Dt.falseN, Dt.trueN].length := hlt
        obtain ⟨b, off, fa, fc, rfl, hb, c0, c1, hfs⟩ := HV.out.at k hkl
        obtain ⟨y, hy⟩ : ∃ y, l[k] = y := ⟨_, rfl⟩
        obtain ⟨nm, hnm⟩ : ∃ nm, [Dt.falseN, Dt.trueN][k] = nm := ⟨_, rfl⟩
        have hst := HK.out
        rw [List.drop_eq_getElem_cons hkl, List.drop_eq_getElem_cons hk2, hy, hnm, Dt.zipB] at hst
        have f0 : wr.cell? ⟨g, k, none⟩ = some (.string nm) := by
          have : w.cell? ⟨g, k, none⟩ = some (.string nm) := by
            obtain rfl | rfl : k = 0 ∨ k = 1 := by omega
            · rw [← hnm]; exact H0.out
            · rw [← hnm]; exact H1.out
          exact (HW.out.cell (p := ⟨g, k, none⟩) hg).trans this
        rw [hy] at c0 c1 hfs
        have d0 := (HW.out.cell (p := ⟨b, off + k * 2, none⟩) hb).trans c0
        have d1 := (HW.out.cell (p := ⟨b, off + k * 2 + 1, none⟩) hb).trans c1
        have hgw : g < wr.heap.size := Nat.lt_of_lt_of_le hg HW.out.size
        have hgne : g ≠ wr.heap.size := by omega
        obtain ⟨q, hq⟩ : ∃ q, Dt.pairB y nm = q := ⟨_, rfl⟩
        rw [hq] at hst
        have hA := HW.out.alloc HW.out.size (.cells #[.string y.name, .slice fa y.fields.length fc] 34)
        have HA := Lib.hid hA
        have HC := Lib.hid (bool1_any y (.slice fa y.fields.length fc) nm q (wr.alloc (.cells #[.string y.name, .slice fa y.fields.length fc] 34)) (hfs.keep hA (Nat.le_refl _)) (Lib.hid hq))
        generalize y.name = ny at d0 HA HC
        generalize y.fields.length = fl at d1 HA HC
        have HS := Lib.hid hst
        clear hy hnm hk2 hst c0 c1 hfs hq hA hkl HK
        cases q with
        | true =>
          go_wp2_with fail
          refine HC.out.mono ?_
          rintro e w1 ⟨rfl, hb'⟩
          have HB := Lib.hid (HA.out.trans (hb'.mono HA.out.size))
          clear hb' d0 d1 f0 HC
          go_wp2
          go_roundw
          case rel => exact ⟨k + 1, by omega, by go_num, Lib.hid (by rw [← HS.out]; simp), HB⟩
          case measure => simp [intOf]; omega
        | false =>
          obtain rfl : r = false := by rw [← HS.out]; rfl
          go_wp2_with fail
          refine HC.out.mono ?_
          rintro e w1 ⟨rfl, hb'⟩
          have HB := Lib.hid (HA.out.trans (hb'.mono HA.out.size))
          clear hb' d0 d1 f0 HC
          go_wp2
          go_ret
          exact ⟨rfl, HB.out⟩
      · obtain rfl : k = 2 := by omega
        have hnn : ¬ (2 : Int) < 2 := by omega
        obtain rfl : r = true := by
          rw [← HK.out, List.drop_eq_nil_of_le (by rw [HL.out]; exact Nat.le_refl _)]; rfl
        go_wp2
        go_ret
        exact ⟨rfl, HW.out⟩
  · obtain rfl : r = false := by rw [← h]; simp [h2]
    have g1 : ((n : Int) != 2) = true := by simp; omega
    clear h hv hln
    go_enter Try.func51, Try.ntmps51
    go_wp2
    go_ret
    exact ⟨rfl, Below.refl _ _⟩

theorem isBool_eq (x : DataM) : Dt.isBool x = (Dt.seq x.name Dt.boolN && (decide (x.cons.length = 2) && Dt.zipB x.cons [Dt.falseN, Dt.trueN])) := by
  unfold Dt.isBool
  congr 1
  match x.cons with
  | [] => rfl
  | [a] => simp
  | [a, b] => simp [Dt.zipB]
  | a :: b :: c :: l => simp

set_option maxRecDepth 100000 in
set_option maxHeartbeats 3200000 in
theorem isBool_any (x : DataM) (vf : Value) (r : Bool) (w : World) (hf : CsAt w vf x.cons) (hr : Hid (Dt.isBool x = r)) :
    Calls Try.prog 37 #[.agg #[.string x.name, vf]] w fun e w' => e = .returned (.bool r) ∧ Below w.heap.size w w' := by
  have h := hr.out
  rw [isBool_eq] at h
  obtain ⟨q, hq⟩ : ∃ q, (decide (x.cons.length = 2) && Dt.zipB x.cons [Dt.falseN, Dt.trueN]) = q := ⟨_, rfl⟩
  obtain ⟨s, hs⟩ : ∃ s, (x.name.toList == [66, 111, 111, 108]) = s := ⟨_, rfl⟩
  have hs2 : Dt.seq x.name Dt.boolN = s := by rw [← hs]; unfold Dt.seq; rw [show Dt.boolN.toList = [66, 111, 111, 108] from by rw [ByteArray.toList_eq]; rfl]
  rw [hq, hs2] at h
  obtain ⟨ad, cap, rfl⟩ := hf.slice
  have hA := (Below.refl w.heap.size w).alloc (Nat.le_refl _) (.cells #[.string x.name, .slice ad x.cons.length cap] 37)
  have hA2 := hA.alloc hA.size (.cells #[.string ⟨#[70, 97, 108, 115, 101]⟩, .string ⟨#[84, 114, 117, 101]⟩] 9)
  have hsz : (w.alloc (.cells #[.string x.name, .slice ad x.cons.length cap] 37)).heap.size = w.heap.size + 1 := by simp
  have e0 : ∀ j v, (#[Value.string ⟨#[70, 97, 108, 115, 101]⟩, .string ⟨#[84, 114, 117, 101]⟩] : Array Value)[j]? = some v → ((w.alloc (.cells #[.string x.name, .slice ad x.cons.length cap] 37)).alloc (.cells #[.string ⟨#[70, 97, 108, 115, 101]⟩, .string ⟨#[84, 114, 117, 101]⟩] 9)).cell? ⟨w.heap.size + 1, j, none⟩ = some v := fun j v hj => by
    rw [← hsz, World.cell?_alloc_new]; exact hj
  have HC := Lib.hid (equalB_any (.slice ad x.cons.length cap) x.cons (w.heap.size + 1) q ((w.alloc (.cells #[.string x.name, .slice ad x.cons.length cap] 37)).alloc (.cells #[.string ⟨#[70, 97, 108, 115, 101]⟩, .string ⟨#[84, 114, 117, 101]⟩] 9)) (hf.keep hA2 (Nat.le_refl _)) (by simp) (e0 0 _ rfl) (e0 1 _ rfl) (Lib.hid hq))
  have HA := Lib.hid hA
  have HA2 := Lib.hid hA2
  generalize x.name = nm at HA HA2 HC hs
  generalize x.cons.length = n at HA HA2 HC
  clear hq hf hr hA hA2 hsz e0 hs2
  cases s with
  | false =>
    obtain rfl : r = false := by rw [← h]; rfl
    clear h
    go_enter Try.func37, Try.ntmps37
    go_wp2
    go_ret
    exact ⟨rfl, HA.out⟩
  | true =>
    obtain rfl : r = q := by rw [← h]; rfl
    clear h
    go_enter Try.func37, Try.ntmps37
    go_wp2_with fail
    refine HC.out.mono ?_
    rintro e w1 ⟨rfl, hb⟩
    have HB := Lib.hid (HA2.out.trans (hb.mono HA2.out.size))
    clear hb
    go_wp2
    go_ret
    exact ⟨rfl, HB.out⟩

set_option maxRecDepth 100000 in
set_option maxHeartbeats 3200000 in
theorem hasForm_any (v : Value) (d : List DataM) (r : Bool) (w : World) (hv : DsAt w v d) (hd : Sm d) (hr : Hid (Dt.form d = r)) :
    Calls Try.prog 15 #[v] w fun e w' => e = .returned (.bool r) ∧ Below w.heap.size w w' := by
  have h := hr.out
  have hl := hd.1
  cases d with
  | nil =>
    obtain ⟨ad, cap, rfl⟩ := hv.slice
    obtain rfl : r = false := h.symm
    clear hv hr
    go_enter Try.func15, Try.ntmps15
    go_wp2
    go_ret
    exact ⟨rfl, Below.refl _ _⟩
  | cons x d =>
    obtain ⟨s, hs⟩ : ∃ s, Dt.isBool x = s := ⟨_, rfl⟩
    obtain ⟨q, hq⟩ : ∃ q, (x :: d).any Dt.badD = q := ⟨_, rfl⟩
    have h2 : (s && !q) = r := by rw [← h, Dt.form, hs, hq]
    have hC : ∀ W, Below w.heap.size w W → Calls Try.prog 34 #[v, .func (.func 38) #[] #[]] W fun e w' => e = .returned (.bool q) ∧ Below W.heap.size W w' := fun W hW =>
      containsD 38 #[] Dt.badD v (x :: d) q W eForm1 (form1_pred _ hd.2 W) (hv.keep hW (Nat.le_refl _)) (by omega) (Lib.hid hq)
    obtain ⟨ad, cap, rfl⟩ := hv.slice
    obtain ⟨b, off, fa, fc, rfl, hb, c0, c1, hcs⟩ := hv.at 0 (by simp)
    obtain ⟨n, hn⟩ : ∃ n, (x :: d).length = n + 1 := ⟨d.length, rfl⟩
    rw [hn] at hC ⊢
    have hB0 := isBool_any x (.slice fa x.cons.length fc) s w hcs (Lib.hid hs)
    have c0' : w.cell? ⟨b, off, none⟩ = some (.string x.name) := by simpa using c0
    have c1' : w.cell? ⟨b, off + 1, none⟩ = some (.slice fa x.cons.length fc) := by simpa using c1
    have HC := Lib.hid hC
    have HB := Lib.hid hB0
    generalize x.name = nm at c0' HB
    generalize x.cons.length = cl at c1' HB
    have hn0 : (((n + 1 : Nat) : Int) == 0) = false := by simp; omega
    have hn1 : (0 : Int) < ((n + 1 : Nat) : Int) := by omega
    clear h hr hv c0 c1 hcs hs hq hC hB0 hl hd
    generalize n + 1 = m at *
    cases s with
    | false =>
      obtain rfl : r = false := by rw [← h2]; rfl
      clear h2
      go_enter Try.func15, Try.ntmps15
      go_wp2_with fail
      refine HB.out.mono ?_
      rintro e w1 ⟨rfl, hb'⟩
      have HB1 := Lib.hid hb'
      clear hb'
      go_wp2
      go_ret
      exact ⟨rfl, HB1.out⟩
    | true =>
      obtain rfl : r = !q := by rw [← h2]; rfl
      clear h2
      go_enter Try.func15, Try.ntmps15
      go_wp2_with fail
      refine HB.out.mono ?_
      rintro e w1 ⟨rfl, hb'⟩
      have HB1 := Lib.hid hb'
      have HCC := Lib.hid (HC.out w1 hb')
      clear hb' c0' c1'
      go_wp2_with fail
      refine HCC.out.mono ?_
      rintro e w2 ⟨rfl, hb'⟩
      have HB2 := Lib.hid (HB1.out.trans (hb'.mono HB1.out.size))
      clear hb'
      go_wp2
      go_ret
      exact ⟨rfl, HB2.out⟩

end Go.Proofs.Ytphlokjhfbfogaa
