/- slices.Backward over constructors and over fields: what its iterators yield. -/
import Derived.Test.YtphlokjhfbfogaaZE
import Derived.RangeFuncNested
import Derived.RangeFuncBound
import Derived.RangeFuncCalls
import Derived.RangeFuncLeaves
import Derived.Shelf.Abstract
import Derived.Shelf.RegionOpen
import Derived.WalkKit
import Derived.OwnWalkIn
import Derived.TacticsInMore
import Derived.LoopNIn
import Derived.LoopIn
set_option linter.unusedVariables false
set_option linter.unusedSimpArgs false
namespace Go.Proofs.Ytphlokjhfbfogaa
open Go.RowKit Go.Shelf
attribute [local go_sem] Oper.semAt_some

/-- A constructor as a row of w0 holds it, with its place. -/
abbrev AC (w0 : World) := { x : Int × ConM × (Option Addr × Nat) // FsAt w0 (.slice x.2.2.1 x.2.1.fields.length x.2.2.2) x.2.1.fields ∧ SmC x.2.1 }
def encC (w0 : World) (x : AC w0) : Array Value := #[.int .i64 x.1.1, .agg #[.string x.1.2.1.name, .slice x.1.2.2.1 x.1.2.1.fields.length x.1.2.2.2]]
/-- A field with its place. -/
abbrev AF := { x : Int × Int // In64 x.2 }
def encF (x : AF) : Array Value := #[.int .i64 x.1.1, .int .i64 x.1.2]

theorem wrap_pred (k : Nat) (h : k ≤ 100000) : IntKind.i64.wrap ((k : Int) - 1) = (k : Int) - 1 := by rw [IntWalk.i64_in _ (by omega)]
theorem wrap_pred2 (k : Nat) (h : k ≤ 100000) : wrap64 ((k : Int) - 1) = (k : Int) - 1 := by rw [IntWalk.wrap64_in _ (by omega)]

set_option maxRecDepth 100000 in
set_option maxHeartbeats 3200000 in
theorem backC_in (nF l Bn : Nat) (hn : 1 ≤ nF) (w0 : World) (cs : List ConM) (hsm : ∀ c ∈ cs, SmC c) (ad : Option Addr) (n cap : Nat) (hcs : CsAt w0 (.slice ad n cap) cs) (hln : cs.length = n) (hbig : n ≤ 100000)
    (Kp : World → World → Prop) (hKp : ∀ A B k, Kp A B → (k < w0.heap.size ∨ k = Bn) → A.heap[k]? = B.heap[k]?)
    (J Jx : List (AC w0) → World → Prop)
    (hY : ∀ pre (x : AC w0) W, J pre W → pre.length < n → YieldAt Fence.wide (nF - 1) Try.prog l (encC w0 x) W fun e W' =>
      (e = .returned (.bool true) ∧ J (pre ++ [x]) W' ∧ Kp W W') ∨ (e = .returned (.bool false) ∧ Jx (pre ++ [x]) W'))
    (W : World) (hW : ∀ k, k < w0.heap.size → W.heap[k]? = w0.heap[k]?) (hBn : W.cell? ⟨Bn, 0, none⟩ = some (.slice ad n cap)) (h0 : J [] W) :
    CallsIn Fence.wide nF Try.prog 47 #[.func (.yield l) #[] #[], .pointer (some ⟨Bn, 0, none⟩)] W fun e W' => (∃ v, e = .returned v) ∧
      ((∃ ys : List (AC w0), ys.map (fun x => x.1.2.1) = cs.reverse ∧ J ys W') ∨ (∃ pre : List (AC w0), True ∧ Jx pre W')) := by
  have HY := Lib.hid hY
  have HKP := Lib.hid hKp
  have HCS := Lib.hid hcs
  have HL := Lib.hid hln
  have HSM := Lib.hid hsm
  have HW0 := Lib.hid hW
  have H0 := Lib.hid h0
  have HB0 := Lib.hid hBn
  clear hY hKp hcs hln hsm hW h0
  refine callsIn_of_wp Try.func47 rfl trivial ?_ rfl
  simp only [Try.ntmps47, List.size_toArray, List.length_cons, List.length_nil, Nat.reduceAdd, Nat.reduceSub, Array.replicate_succ, Array.replicate_zero, List.push_toArray, List.append_toArray, List.nil_append, List.cons_append]
  gi_wp2
  clear hBn
  gi_loopw [3] (fun i wr => ∃ (j : Nat) (pre : List (AC w0)), j ≤ n ∧ i = .int .i64 ((j : Int) - 1) ∧ Hid (pre.map (fun x => x.1.2.1) = (cs.drop j).reverse) ∧ Hid (J pre wr) ∧ Hid (wr.cell? ⟨Bn, 0, none⟩ = some (.slice ad n cap)) ∧ Hid (∀ k, k < w0.heap.size → wr.heap[k]? = w0.heap[k]?)) (fun i _ => (intOf i + 1).toNat)
  case atStart =>
    refine ⟨n, [], Nat.le_refl _, ?_, Lib.hid (by rw [List.drop_eq_nil_of_le (by rw [HL.out]; exact Nat.le_refl _)]; rfl), H0, HB0, HW0⟩
    first | rfl | exact congrArg (Value.int .i64) (IntWalk.i64_in _ (by omega)) | exact congrArg (Value.int .i64) (IntWalk.wrap64_in _ (by omega))
  case round =>
    obtain ⟨j, pre, hj, rfl, HP, HJ, HB, HW⟩ := hrel
    rcases j with _ | j
    · have hneg : ¬ (0 : Int) ≤ ((0 : Nat) : Int) - 1 := by omega
      gi_wp2
      go_end0
      exact ⟨⟨_, rfl⟩, .inl ⟨pre, by rw [HP.out]; rfl, HJ.out⟩⟩
    · have hjl : j < cs.length := by rw [HL.out]; omega
      have hjn : (j : Int) < n := by omega
      have e1 : (((j + 1 : Nat) : Int) - 1) = j := by omega
      rw [e1]
      obtain ⟨b, off, fa, fc, rfl, hb, c0, c1, hfs⟩ := HCS.out.at j hjl
      have hcell : ∀ a : Nat, wr.cell? ⟨b, a, none⟩ = w0.cell? ⟨b, a, none⟩ := fun a => World.cell?_of_block (w := w0) (w' := wr) (a := ⟨b, a, none⟩) (HW.out b hb)
      have d0 := (hcell (off + j * 2)).trans c0
      have d1 := (hcell (off + j * 2 + 1)).trans c1
      obtain ⟨x, hx⟩ : ∃ x : AC w0, x = ⟨((j : Int), cs[j], (fa, fc)), hfs, HSM.out _ (List.getElem_mem hjl)⟩ := ⟨_, rfl⟩
      have hx1 : x.1.2.1 = cs[j] := by rw [hx]
      have hxe : encC w0 x = #[.int .i64 j, .agg #[.string cs[j].name, .slice fa cs[j].fields.length fc]] := by rw [hx]; rfl
      clear hcell c0 c1 hfs hx
      have hpl : pre.length < n := by
        have := congrArg List.length HP.out
        rw [List.length_map, List.length_reverse, List.length_drop, HL.out] at this
        omega
      obtain ⟨fn, tmps, assign, body, hy, hR⟩ := HY.out pre x wr HJ.out hpl
      have HX : Hid ((pre ++ [x]).map (fun x => x.1.2.1) = (cs.drop j).reverse) := Lib.hid (by
        rw [List.map_append, HP.out, List.drop_eq_getElem_cons hjl, List.reverse_cons, ← hx1]; rfl)
      rw [hxe] at hy
      have HP2 := Lib.hid hx1
      have hbc := HB.out
      have hwj : wrap64 ((j : Int) - 1) = (j : Int) - 1 := wrap_pred2 j (by omega)
      have hwj2 : IntKind.i64.wrap ((j : Int) - 1) = (j : Int) - 1 := wrap_pred j (by omega)
      clear hxe hx1 e1
      gi_wp2
      refine hR.mono ?_
      rintro e W3 (⟨rfl, hJ3, hk3⟩ | ⟨rfl, hJx3⟩)
      · have HJ3 := Lib.hid hJ3
        have HB3 := Lib.hid ((World.cell?_of_block (w := wr) (w' := W3) (a := ⟨Bn, 0, none⟩) (HKP.out wr W3 Bn hk3 (.inr rfl)).symm).trans HB.out)
        have HW3 : Hid (∀ k, k < w0.heap.size → W3.heap[k]? = w0.heap[k]?) := Lib.hid (fun k hk => (HKP.out wr W3 k hk3 (.inl hk)).symm.trans (HW.out k hk))
        clear hJ3 hk3 hR hbc d0 d1
        gi_wp2
        go_roundw
        case rel => exact ⟨j, pre ++ [x], by omega, by first | rfl | exact congrArg (Value.int .i64) hwj | exact congrArg (Value.int .i64) hwj2, HX, HJ3, HB3, HW3⟩
        case measure => first | (simp [intOf]; done) | (simp [intOf]; omega)
      · gi_wp2
        refine bodyPost_ret (results_none rfl _ _ _) rfl ?_
        exact ⟨⟨_, rfl⟩, .inr ⟨pre ++ [x], trivial, hJx3⟩⟩

set_option maxRecDepth 100000 in
set_option maxHeartbeats 3200000 in
theorem backF_in (nF l Bn : Nat) (hn : 1 ≤ nF) (w0 : World) (cs : List Int) (hsm : ∀ c ∈ cs, In64 c) (ad : Option Addr) (n cap : Nat) (hcs : FsAt w0 (.slice ad n cap) cs) (hln : cs.length = n) (hbig : n ≤ 100000)
    (Kp : World → World → Prop) (hKp : ∀ A B k, Kp A B → (k < w0.heap.size ∨ k = Bn) → A.heap[k]? = B.heap[k]?)
    (J Jx : List AF → World → Prop)
    (hY : ∀ pre (x : AF) W, J pre W → pre.length < n → YieldAt Fence.wide (nF - 1) Try.prog l (encF x) W fun e W' =>
      (e = .returned (.bool true) ∧ J (pre ++ [x]) W' ∧ Kp W W') ∨ (e = .returned (.bool false) ∧ Jx (pre ++ [x]) W'))
    (W : World) (hW : ∀ k, k < w0.heap.size → W.heap[k]? = w0.heap[k]?) (hBn : W.cell? ⟨Bn, 0, none⟩ = some (.slice ad n cap)) (h0 : J [] W) :
    CallsIn Fence.wide nF Try.prog 48 #[.func (.yield l) #[] #[], .pointer (some ⟨Bn, 0, none⟩)] W fun e W' => (∃ v, e = .returned v) ∧
      ((∃ ys : List AF, ys.map (fun x => x.1.2) = cs.reverse ∧ J ys W') ∨ (∃ pre : List AF, True ∧ Jx pre W')) := by
  have HY := Lib.hid hY
  have HKP := Lib.hid hKp
  have HCS := Lib.hid hcs
  have HL := Lib.hid hln
  have HSM := Lib.hid hsm
  have HW0 := Lib.hid hW
  have H0 := Lib.hid h0
  have HB0 := Lib.hid hBn
  clear hY hKp hcs hln hsm hW h0
  refine callsIn_of_wp Try.func48 rfl trivial ?_ rfl
  simp only [Try.ntmps48, List.size_toArray, List.length_cons, List.length_nil, Nat.reduceAdd, Nat.reduceSub, Array.replicate_succ, Array.replicate_zero, List.push_toArray, List.append_toArray, List.nil_append, List.cons_append]
  gi_wp2
  clear hBn
  gi_loopw [3] (fun i wr => ∃ (j : Nat) (pre : List AF), j ≤ n ∧ i = .int .i64 ((j : Int) - 1) ∧ Hid (pre.map (fun x => x.1.2) = (cs.drop j).reverse) ∧ Hid (J pre wr) ∧ Hid (wr.cell? ⟨Bn, 0, none⟩ = some (.slice ad n cap)) ∧ Hid (∀ k, k < w0.heap.size → wr.heap[k]? = w0.heap[k]?)) (fun i _ => (intOf i + 1).toNat)
  case atStart =>
    refine ⟨n, [], Nat.le_refl _, ?_, Lib.hid (by rw [List.drop_eq_nil_of_le (by rw [HL.out]; exact Nat.le_refl _)]; rfl), H0, HB0, HW0⟩
    first | rfl | exact congrArg (Value.int .i64) (IntWalk.i64_in _ (by omega)) | exact congrArg (Value.int .i64) (IntWalk.wrap64_in _ (by omega))
  case round =>
    obtain ⟨j, pre, hj, rfl, HP, HJ, HB, HW⟩ := hrel
    rcases j with _ | j
    · have hneg : ¬ (0 : Int) ≤ ((0 : Nat) : Int) - 1 := by omega
      gi_wp2
      go_end0
      exact ⟨⟨_, rfl⟩, .inl ⟨pre, by rw [HP.out]; rfl, HJ.out⟩⟩
    · have hjl : j < cs.length := by rw [HL.out]; omega
      have hjn : (j : Int) < n := by omega
      have e1 : (((j + 1 : Nat) : Int) - 1) = j := by omega
      rw [e1]
      obtain ⟨b, off, rfl, hb, c0⟩ := HCS.out.at j hjl
      have hcell : ∀ a : Nat, wr.cell? ⟨b, a, none⟩ = w0.cell? ⟨b, a, none⟩ := fun a => World.cell?_of_block (w := w0) (w' := wr) (a := ⟨b, a, none⟩) (HW.out b hb)
      have d0 := (hcell (off + j)).trans c0
      obtain ⟨x, hx⟩ : ∃ x : AF, x = ⟨((j : Int), cs[j]), HSM.out _ (List.getElem_mem hjl)⟩ := ⟨_, rfl⟩
      have hx1 : x.1.2 = cs[j] := by rw [hx]
      have hxe : encF x = #[.int .i64 j, .int .i64 cs[j]] := by rw [hx]; rfl
      clear hcell c0
      have hpl : pre.length < n := by
        have := congrArg List.length HP.out
        rw [List.length_map, List.length_reverse, List.length_drop, HL.out] at this
        omega
      obtain ⟨fn, tmps, assign, body, hy, hR⟩ := HY.out pre x wr HJ.out hpl
      have HX : Hid ((pre ++ [x]).map (fun x => x.1.2) = (cs.drop j).reverse) := Lib.hid (by
        rw [List.map_append, HP.out, List.drop_eq_getElem_cons hjl, List.reverse_cons, ← hx1]; rfl)
      rw [hxe] at hy
      have HP2 := Lib.hid hx1
      have hbc := HB.out
      have hwj : wrap64 ((j : Int) - 1) = (j : Int) - 1 := wrap_pred2 j (by omega)
      have hwj2 : IntKind.i64.wrap ((j : Int) - 1) = (j : Int) - 1 := wrap_pred j (by omega)
      clear hxe hx1 e1
      gi_wp2
      refine hR.mono ?_
      rintro e W3 (⟨rfl, hJ3, hk3⟩ | ⟨rfl, hJx3⟩)
      · have HJ3 := Lib.hid hJ3
        have HB3 := Lib.hid ((World.cell?_of_block (w := wr) (w' := W3) (a := ⟨Bn, 0, none⟩) (HKP.out wr W3 Bn hk3 (.inr rfl)).symm).trans HB.out)
        have HW3 : Hid (∀ k, k < w0.heap.size → W3.heap[k]? = w0.heap[k]?) := Lib.hid (fun k hk => (HKP.out wr W3 k hk3 (.inl hk)).symm.trans (HW.out k hk))
        clear hJ3 hk3 hR hbc d0
        gi_wp2
        go_roundw
        case rel => exact ⟨j, pre ++ [x], by omega, by first | rfl | exact congrArg (Value.int .i64) hwj | exact congrArg (Value.int .i64) hwj2, HX, HJ3, HB3, HW3⟩
        case measure => first | (simp [intOf]; done) | (simp [intOf]; omega)
      · gi_wp2
        refine bodyPost_ret (results_none rfl _ _ _) rfl ?_
        exact ⟨⟨_, rfl⟩, .inr ⟨pre ++ [x], trivial, hJx3⟩⟩

end Go.Proofs.Ytphlokjhfbfogaa
