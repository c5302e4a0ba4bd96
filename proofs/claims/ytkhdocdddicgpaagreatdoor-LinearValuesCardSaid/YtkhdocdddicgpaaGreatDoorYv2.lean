/- For every input the law LinearValues returns true,and each argument reads afterwards as it read before;the listed package variables are tied to the program's text. No further condition. -/
import Derived.Test.YtkhdocdddicgpaaGreatDoorYt0
import Derived.Test.YtkhdocdddicgpaaGreatDoorYt1
import Derived.Test.YtkhdocdddicgpaaGreatDoorYt2
import Derived.Test.YtkhdocdddicgpaaGreatDoorYt3
import Derived.Test.YtkhdocdddicgpaaGreatDoorYt4
import Derived.Test.YtkhdocdddicgpaaGreatDoorYt5
import Derived.Test.YtkhdocdddicgpaaGreatDoorYt6
import Derived.Test.YtkhdocdddicgpaaGreatDoorYt7
import Derived.Test.YtkhdocdddicgpaaGreatDoorYt8
import Derived.Test.YtkhdocdddicgpaaGreatDoorYt9
import Derived.Test.YtkhdocdddicgpaaGreatDoorYt10
import Derived.Test.YtkhdocdddicgpaaGreatDoorYt11
import Derived.Test.YtkhdocdddicgpaaGreatDoorYt12
import Derived.Test.YtkhdocdddicgpaaGreatDoorYt13
import Derived.Test.YtkhdocdddicgpaaGreatDoorYt14
import Derived.Test.YtkhdocdddicgpaaGreatDoorYt15
import Derived.Test.YtkhdocdddicgpaaGreatDoorYt16
import Derived.Test.YtkhdocdddicgpaaGreatDoorYt17
import Derived.Test.YtkhdocdddicgpaaGreatDoorYt18
import Derived.Test.YtkhdocdddicgpaaGreatDoorYt19
import Derived.Test.YtkhdocdddicgpaaGreatDoorYt20
import Derived.Test.YtkhdocdddicgpaaGreatDoorYt21
import Derived.Test.YtkhdocdddicgpaaGreatDoorYt22
import Derived.Test.YtkhdocdddicgpaaGreatDoorYt23
import Derived.Test.YtkhdocdddicgpaaGreatDoorYt24
import Derived.Test.YtkhdocdddicgpaaGreatDoorYt25
import Derived.Test.YtkhdocdddicgpaaGreatDoorYt26
import Derived.Test.YtkhdocdddicgpaaGreatDoorYt27
import Derived.Test.YtkhdocdddicgpaaGreatDoorYt28
import Derived.Test.YtkhdocdddicgpaaGreatDoorYt29
import Derived.Test.YtkhdocdddicgpaaGreatDoorYt30
import Derived.Test.YtkhdocdddicgpaaGreatDoorCards
import Derived.Test.YtkhdocdddicgpaaGreatDoorTie
import Derived.SliceStrings
import Derived.Carry
import Derived.Test.YtkhdocdddicgpaaGreatDoorYv0
import Derived.Lib.SmallJoins
import Derived.Deep.SlicePairs
import Derived.Test.YtkhdocdddicgpaaGreatDoorYv1
import Derived.WalkKit
import Derived.Deep.QuietTactic
import Derived.BigQuiet
import Derived.Lib.ItoaNum
import Derived.Test.YtkhdocdddicgpaaGreatDoorProg
import Derived.WalkSpells
import Derived.WalkLawsBesides
import Derived.IntWalk
import Derived.LoopTactic
import Derived.Lib.Hide
import Derived.Laws.CopyOwn
import Derived.StillTailTactics
import Derived.Deep.RegionHeld3
import Derived.Lib.AppendStr
import Derived.Lib.SliceRun
import Derived.Shelf.Small.Wraps
import Derived.Shelf.Strconv.Itoa4
import Derived.Shelf.Strconv.ErrVarAll
import Derived.Shelf.Strconv.ParseIntPublic10
import Derived.Shelf.Strings.Shaped
import Derived.Shelf.Strconv.AppendInt10
import Derived.Shelf.Bits.Mul64
import Derived.Lib.AtoiErrMem
import Derived.Lib.AppendIntMem
import Derived.Lib.ItoaLen
import Derived.Deep.Cut
import Derived.Shelf.Strings.BuilderX
import Derived.Lib.Strings
import Derived.Lib.Slices
import Derived.Lib.Walk
import Derived.Lib.Builder
import Derived.Lib.UnsafeStr
import Derived.Laws.Externs
import Derived.Laws.IdiomCopy
import Derived.Shelf.Strings.BuilderK
import Derived.Laws.Concat
import Derived.RangeFuncNested
import Derived.RangeFuncBound
import Derived.RangeFuncCalls
import Derived.RangeFuncLeaves
import Derived.Shelf.Abstract
import Derived.Shelf.RegionOpen
import Derived.OwnWalkIn
import Derived.TacticsInMore
import Derived.LoopNIn
import Derived.LoopIn
import Derived.Maps.OwnIn
import Derived.Maps.AppendAt
import Derived.RangeFuncBox
import Derived.ProofKit
import Derived.OpenShut
import Derived.ShutString
import Derived.ChangeOld
import Derived.Below
import Derived.Deep.DeepHandedRow
import Derived.Lib.LaidTab
import Derived.Stop.LaidErr
set_option linter.unusedVariables false
namespace Go.Proofs.YtkhdocdddicgpaaGreatDoor
open Go.ChangeShapes Go.WideShapes Go.ChangeAt Go.RowKit
open Go.ChangeMaps (open_string shut_string)
theorem strings_arg48 {H:Type} {enc:TypeId × Value→H} {W:World} {a0:Option Addr} {len cap fuel:Nat} {x:DataW H × List MemPlace}
 (hf:DataW.trod enc Tryz.prog W 0 (fun _=>true) true fuel 48 [.slice a0 len cap]=some x) :
 ∃ (b off:Nat) (Xs:List ByteArray),Xs.length=len∧(len=0∨a0=some ⟨b,off,none⟩∧b<W.heap.size)∧len≤cap∧∀ (j:Nat) (h:j<Xs.length),W.cell? ⟨b,off+j,none⟩=some (.string Xs[j]):=by
 rcases open_strings Tryz.underlying48 Tryz.underlying9 (show Tryz.prog.cellsOf 9=1 by kernel_rfl) hf with ⟨hcs,hx⟩ | ⟨a,len',cap',ss,hcs,_,hl,hm,hz,hx,hcell,_⟩
 · simp at hcs
   obtain ⟨rfl,rfl,rfl⟩:=hcs
   exact ⟨0,0,[],rfl,.inl rfl,Nat.le_refl _,fun j h=>by cases h⟩
 · simp at hcs
   obtain ⟨rfl,rfl,rfl⟩:=hcs
   simp only [if_true] at hz
   obtain ⟨b,off,spot⟩:=a
   by_cases h0:len=0
   · exact ⟨0,0,[],h0.symm,.inl h0,by omega,fun j h=>by cases h⟩
   · obtain rfl:spot=none:=by simpa [Addr.add] using World.cell?_spot (hcell 0 (by omega))
     refine ⟨b,off,ss.take len,by rw [List.length_take];omega,.inr ⟨rfl,World.block_lt_of_cell? _ _ (hcell 0 (by omega))⟩,by omega,fun j hj => ?_⟩
     have hj2:j<len:=by rw [List.length_take] at hj;omega
     have hc:=hcell j (by omega)
     rw [add_plain,List.getD_eq_getElem?_getD,List.getElem?_eq_getElem (by omega),Option.getD_some] at hc
     rw [List.getElem_take]
     exact hc
set_option maxRecDepth 100000 in
theorem linearValues_contract (H:Type) (enc:TypeId × Value→H) (W:World) (base:Nat) (args:Array Value) (ds gs:List (DataW H)) (before:List MemPlace)
 (hval0:∀ (j:Nat) t v,Tryz.f8.params[j]?=some t→args[j]?=some v→Value.okWide Tryz.prog W .any base t v)
 (hW:DataW.Whole enc Tryz.prog Tryz.f8.params.toList Rows.linearValuesSpec.vars false W args.toList ds gs before) (hL:laidMet Tryz.prog laidAll W) :
 Calls Tryz.prog 8 args W fun e W'=>∃ v,e = .returned v∧Rows.linearValuesSpec.post enc Tryz.prog Tryz.f8 false true false false W args v W':=by
 have hval:∀ (j:Nat) t v,Tryz.f8.params[j]?=some t→args[j]?=some v→Value.okWide Tryz.prog W .any base t v:=hval0
 have hW':=hW
 obtain ⟨p,q,hA0,hV,rfl,hfz,hnd⟩:=hW
 have hA:DataW.TrodAll enc Tryz.prog W 0 (fun _=>true) true Tryz.f8.params.toList args.toList ds p:=hA0
 rw [Tryz.params8] at hA hval
 obtain ⟨v0,vs0,d0,ds0,p0,q0,hargs,rfl,rfl,h0,r0⟩:=trodAll_cons hA
 obtain ⟨v1,vs1,d1,ds1,p1,q1,rfl,rfl,rfl,h1,r1⟩:=trodAll_cons r0
 obtain ⟨v2,vs2,d2,ds2,p2,q2,rfl,rfl,rfl,h2,r2⟩:=trodAll_cons r1
 obtain ⟨rfl,rfl,rfl⟩:=trodAll_nil r2
 obtain rfl:args=#[v0,v1,v2]:=by cases args;simp_all
 obtain ⟨rfl,rfl⟩:=trodVars_none hV
 have k0:=h0
 obtain ⟨x0,n0,c0,s0,l0,rfl,ha0,hn0,hm0⟩:=form_arg (hval 0 24 v0 rfl rfl) h0
 have k1:=h1
 obtain ⟨x1,n1,c1,s1,l1,rfl,ha1,hn1,hm1⟩:=form_arg (hval 1 24 v1 rfl rfl) h1
 obtain ⟨x2,l2,c2,rfl⟩:=okWide_slice Tryz.underlying48 (hval 2 48 v2 rfl rfl)
 have k2:=h2
 obtain ⟨fuel2,hf2⟩:=h2
 obtain ⟨g2,o2,Xs2,e2,ha2,hk2,hc2⟩:=strings_arg48 hf2
 clear hA0 hval0
 refine (law_LinearValues x0 n0 c0 s0 l0 x1 n1 c1 s1 l1 x2 g2 o2 c2 Xs2 l2 e2  W ha0 hn0 hm0 ha1 hn1 hm1 ha2 hk2 hc2 (tab_of hL) (ers_of hL)).mono fun e W' ⟨he,bel⟩ => ?_
 subst he
 exact ⟨_,rfl,_,_,_,[],_,[],hW',trodAll_mk1 (shut_bool Tryz.underlying4 _),(trodAll_cons_mk (Below.trod laidOutP (by kernel_rfl) (of_decide_eq_true (by kernel_rfl)) k0 bel (fun x hx=>hW'.lt x (by simp [hx]))) (trodAll_cons_mk (Below.trod laidOutP (by kernel_rfl) (of_decide_eq_true (by kernel_rfl)) k1 bel (fun x hx=>hW'.lt x (by simp [hx]))) (trodAll_cons_mk (Below.trod laidOutP (by kernel_rfl) (of_decide_eq_true (by kernel_rfl)) k2 bel (fun x hx=>hW'.lt x (by simp [hx]))) trodAll_mk0))),rfl,bel.frame _,fun h=>by cases h⟩
theorem linearValues_reads (os:Os) {H:Type} (enc:TypeId × Value→H):∃ places,DataW.whole enc Tryz.prog ((laidWorld os).forCall (fun _ _=>0) ⟨#[],#[.agg #[.slice none 0 0,.string ByteArray.empty],.agg #[.slice none 0 0,.string ByteArray.empty],.slice none 0 0],[]⟩).memory Tryz.f8.params.toList Rows.linearValuesSpec.vars false (#[.agg #[.slice none 0 0,.string ByteArray.empty],.agg #[.slice none 0 0,.string ByteArray.empty],.slice none 0 0]:Array Value).toList 8=some ([.agg [.nil,.lit (.string [])],.agg [.nil,.lit (.string [])],.nil],[],places) :=
 ⟨[],by kernel_rfl⟩
set_option maxRecDepth 100000 in
theorem linearValues_lifted (os:Os) (started:os.Started) (H:Type) (enc:TypeId × Value→H) (F:Stop.Interp) :
 ReturnsInHanded {} Tryz.checked os 8 .any ((OpenSpec.ofChange Rows.linearValuesSpec).preRow enc Tryz.prog Tryz.f8 Rows.linearValuesRow.domain false Rows.linearValuesRow.laid) (((OpenSpec.ofChange Rows.linearValuesSpec).at F).post enc Tryz.prog Tryz.f8 false true false false):=by
 obtain ⟨places,hx⟩:=linearValues_reads os enc
 refine returnsInHanded_of_row (C:=Tryz.checked) (s:=OpenSpec.ofChange Rows.linearValuesSpec) ownk started (by kernel_rfl) Tryz.func8
  (witness_row_at (enc:=enc) (C:=Tryz.checked) false (laidWorld os) #[.agg #[.slice none 0 0,.string ByteArray.empty],.agg #[.slice none 0 0,.string ByteArray.empty],.slice none 0 0] rfl (by kernel_rfl) (by kernel_rfl) (by kernel_rfl)
   (OpenSpec.preRow_of_cond 8 hx (by kernel_rfl) (fun k hk=>by cases hk) (by kernel_rfl) (laid_met os _))) ?_
 intro W base args ds gs before hval hW _ _ _ hL _ _
 exact linearValues_contract H enc W base args ds gs before hval hW hL
theorem linearValues_said:Rows.LinearValuesSaid :=
 OpenClaim.holds_of_cond 8 Tryz.f8 rfl rfl rfl rfl rfl rfl rfl ⟨rfl,rfl,rfl,rfl,rfl⟩ rfl rfl rfl rfl rfl (by kernel_rfl) Tryz.func8 (by kernel_rfl)
  (of_decide_eq_true (by kernel_rfl)) (by unfold Func.isWrapper;first | (rw [if_pos (by decide +kernel)];kernel_rfl) | (rw [if_neg (by decide +kernel)];exact ⟨rfl,rfl⟩))
  (fun os started H enc _ F=>by rw [OpenClaim.pre_eq_preRow];exact linearValues_lifted os started H enc F)
theorem linearValues_plain (f : FuncId) (fn : Func) (hf : Tryz.pinned.checked.prog.funcNamed "cellarer/cellarerlaw04.LinearValues" = some f) (hfn : Tryz.pinned.checked.prog.funcs[f]? = some fn) :
 true=Tryz.pinned.checked.prog.looks []∧∀ (j:Nat) t,fn.params[j]?=some t→Tryz.pinned.checked.prog.wantsStandIn t=false:=by
 obtain rfl : f = 8 := Option.some.inj ((show Tryz.prog.funcNamed "cellarer/cellarerlaw04.LinearValues" = some 8 by kernel_rfl).symm.trans hf) |>.symm
 obtain rfl:fn=Tryz.f8:=(Option.some.inj (Tryz.func8.symm.trans hfn)).symm
 refine ⟨by kernel_rfl,fun j t ht => ?_⟩
 rw [Tryz.params8] at ht
 have hm:t∈[24,24,48]:=by simpa using Array.mem_of_getElem? ht
 have hall:([24,24,48].all fun u => !Tryz.prog.wantsStandIn u)=true:=by kernel_rfl
 exact (show Tryz.prog.wantsStandIn t=false by simpa using List.all_eq_true.1 hall t hm)
theorem linearValues_card:Rows.LinearValuesCardSaid :=
 Claim7.holds_tied_plain_at .later [] _ _ _ _ linearValues_said (fun _ h=>by cases h) (by kernel_rfl) (fun _ h=>by cases h) linearValues_row_tie rfl ⟨rfl,rfl⟩ (by kernel_rfl) rfl linearValues_plain (by kernel_rfl)
end Go.Proofs.YtkhdocdddicgpaaGreatDoor
