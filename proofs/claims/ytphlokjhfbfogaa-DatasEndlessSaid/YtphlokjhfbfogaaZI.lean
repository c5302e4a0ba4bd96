/- What the function literal of Reach does. -/
import Derived.Test.YtphlokjhfbfogaaZH
set_option linter.unusedVariables false
set_option linter.unusedSimpArgs false
namespace Go.Proofs.Ytphlokjhfbfogaa
open Go.RowKit Go.Shelf Go.Maps
attribute [local go_sem] Oper.semAt_some

def colArgs (A : Ad) (t depth : Int) : Array Value := #[.int .i64 t, .int .i64 depth, .pointer (some ⟨A.bm, 0, none⟩), .pointer (some ⟨A.bd, 0, none⟩), .pointer (some ⟨A.bo, 0, none⟩), .pointer (some ⟨A.bl, 0, none⟩), .pointer (some ⟨A.bc, 0, none⟩)]

theorem wf64 {t : Int} (h : In64 t) : (Lit.int .i64 t).wf = true := by
  obtain ⟨h1, h2⟩ := h
  exact WalkArith.wf_i64 ⟨h1, h2⟩

set_option maxRecDepth 100000 in
set_option maxHeartbeats 6400000 in
theorem collect_met (A : Ad) (w : World) (dv : Value) (t depth : Int) (W : World) (o l : List Int) (vo vl : Value) (ht : In64 t) (hs : Sv A w dv W o l vo vl) (hto : t ∈ o) :
    Calls Try.prog 23 (colArgs A t depth) W fun e W' => (∃ v, e = .returned v) ∧ W' = W := by
  have hcm := hs.bm.cell
  have HK := Lib.hid (keyOf_int_mk Try.underlying27 (wf64 ht))
  have HM := Lib.hid hs.map
  have HR : Hid (Dt.keyI o (.int .i64 t) = true) := Lib.hid (by rw [Dt.keyI_in]; exact decide_eq_true hto)
  clear hs ht hto
  unfold colArgs
  go_enter Try.func23, Try.ntmps23
  go_wp2_with (first | (at_lookup; refine wpList_set_look _ rfl _ _ 46 rfl 27 lawTyp Try.underlying46 A.mb _ _ rfl HM.out _ _ rfl HK.out true HR.out ?_))
  refine bodyPost_ret (results_none rfl _ _ _) rfl ?_
  exact ⟨⟨_, rfl⟩, rfl⟩

set_option maxRecDepth 100000 in
set_option maxHeartbeats 6400000 in
theorem collect_not (A : Ad) (w : World) (d : List DataM) (dv : Value) (t depth : Int) (W : World) (o l : List Int) (vo vl : Value) (ht : In64 t) (hs : Sv A w dv W o l vo vl) (hto : ¬ t ∈ o) (hdv : DsAt w dv d) (hok : Dt.ok d t = false) :
    Calls Try.prog 23 (colArgs A t depth) W fun e W' => (∃ v, e = .returned v) ∧ W' = W := by
  obtain ⟨ad, cap, rfl⟩ := hdv.slice
  have hcm := hs.bm.cell
  have hcd := hs.bd.cell
  have HK := Lib.hid (keyOf_int_mk Try.underlying27 (wf64 ht))
  have HM := Lib.hid hs.map
  have HR : Hid (Dt.keyI o (.int .i64 t) = false) := Lib.hid (by rw [Dt.keyI_in]; exact decide_eq_false hto)
  have HE := Lib.hid (exists_any ad d.length cap t d false W (Lib.hid rfl) (Lib.hid hok))
  generalize d.length = n at hcd HE
  clear hs ht hto hdv hok
  unfold colArgs
  go_enter Try.func23, Try.ntmps23
  go_wp2_with (first | (at_lookup; refine wpList_set_look _ rfl _ _ 46 rfl 27 lawTyp Try.underlying46 A.mb _ _ rfl HM.out _ _ rfl HK.out false HR.out ?_) | (go_at_call 24; refine HE.out.mono ?_; rintro e w' ⟨rfl, rfl⟩))
  refine bodyPost_ret (results_none rfl _ _ _) rfl ?_
  exact ⟨⟨_, rfl⟩, rfl⟩

end Go.Proofs.Ytphlokjhfbfogaa
