/- For every input the law LinearParses returns true,and each argument reads afterwards as it read before;the listed package variables are tied to the program's text. No further condition. -/
import Derived.Test.YtkhdocdddicgpaaGreatDoorYt0
import Derived.Test.YtkhdocdddicgpaaGreatDoorYt1
import Derived.Test.YtkhdocdddicgpaaGreatDoorYt2
import Derived.Test.YtkhdocdddicgpaaGreatDoorYt3
import Derived.Test.YtkhdocdddicgpaaGreatDoorYt4
import Derived.Test.YtkhdocdddicgpaaGreatDoorYt5
import Derived.Test.YtkhdocdddicgpaaGreatDoorYt6
import Derived.Test.YtkhdocdddicgpaaGreatDoorYt7
import Derived.Test.YtkhdocdddicgpaaGreatDoorYt8
import Derived.Test.YtkhdocdddicgpaaGreatDoorYt9
import Derived.Test.YtkhdocdddicgpaaGreatDoorYt10
import Derived.Test.YtkhdocdddicgpaaGreatDoorYt11
import Derived.Test.YtkhdocdddicgpaaGreatDoorYt12
import Derived.Test.YtkhdocdddicgpaaGreatDoorYt13
import Derived.Test.YtkhdocdddicgpaaGreatDoorYt14
import Derived.Test.YtkhdocdddicgpaaGreatDoorYt15
import Derived.Test.YtkhdocdddicgpaaGreatDoorYt16
import Derived.Test.YtkhdocdddicgpaaGreatDoorYt17
import Derived.Test.YtkhdocdddicgpaaGreatDoorYt18
import Derived.Test.YtkhdocdddicgpaaGreatDoorYt19
import Derived.Test.YtkhdocdddicgpaaGreatDoorYt20
import Derived.Test.YtkhdocdddicgpaaGreatDoorYt21
import Derived.Test.YtkhdocdddicgpaaGreatDoorYt22
import Derived.Test.YtkhdocdddicgpaaGreatDoorYt23
import Derived.Test.YtkhdocdddicgpaaGreatDoorYt24
import Derived.Test.YtkhdocdddicgpaaGreatDoorYt25
import Derived.Test.YtkhdocdddicgpaaGreatDoorYt26
import Derived.Test.YtkhdocdddicgpaaGreatDoorYt27
import Derived.Test.YtkhdocdddicgpaaGreatDoorYt28
import Derived.Test.YtkhdocdddicgpaaGreatDoorYt29
import Derived.Test.YtkhdocdddicgpaaGreatDoorYt30
import Derived.WalkKit
import Derived.Deep.QuietTactic
import Derived.BigQuiet
import Derived.Lib.ItoaNum
import Derived.Test.YtkhdocdddicgpaaGreatDoorProg
import Derived.WalkSpells
import Derived.WalkLawsBesides
import Derived.IntWalk
import Derived.LoopTactic
import Derived.Lib.Hide
import Derived.Laws.CopyOwn
import Derived.StillTailTactics
import Derived.Deep.RegionHeld3
import Derived.Lib.AppendStr
import Derived.Lib.SliceRun
import Derived.Shelf.Small.Wraps
import Derived.Shelf.Strconv.Itoa4
import Derived.Shelf.Strconv.ErrVarAll
import Derived.Shelf.Strconv.ParseIntPublic10
import Derived.Shelf.Strings.Shaped
import Derived.Shelf.Strconv.AppendInt10
import Derived.Shelf.Bits.Mul64
import Derived.Lib.AtoiErrMem
import Derived.Lib.AppendIntMem
import Derived.Lib.SmallJoins
import Derived.Lib.ItoaLen
import Derived.Laws.IdiomStrings
import Derived.Lib.IndexMore
import Derived.Lib.IndexBytes
import Derived.Lib.IndexLaws
import Derived.Deep.Cut
import Derived.Deep.CutRange
import Derived.Deep.DeepCutAuto
import Derived.Deep.LoopGhost
import Derived.Deep.RegionWith
import Derived.RegionTactic
import Derived.Maps.OwnSet
import Derived.Maps.RangeWalk
import Derived.Maps.StringElems
import Derived.Sort.Statements
import Derived.Shelf.SlGeneric
import Derived.Shelf.SlicesQ.IndexFunc
import Derived.Ground.SlgfProg
import Derived.Shelf.SlSortCmp.WholeK
import Derived.Ground.SlsfProg
import Derived.Lib.OwnBridge
import Derived.Lib.AppendZeros
import Derived.Laws.AppendOwnNone
import Derived.Shelf.Strings.BuilderX
import Derived.Lib.Strings
import Derived.Lib.Slices
import Derived.Lib.Walk
import Derived.Lib.Builder
import Derived.Lib.UnsafeStr
import Derived.Laws.Externs
import Derived.Laws.IdiomCopy
import Derived.Shelf.Strings.BuilderK
import Derived.Laws.Concat
import Derived.RangeFuncNested
import Derived.RangeFuncBound
import Derived.RangeFuncCalls
import Derived.RangeFuncLeaves
import Derived.Shelf.Abstract
import Derived.Shelf.RegionOpen
import Derived.OwnWalkIn
import Derived.TacticsInMore
import Derived.LoopNIn
import Derived.LoopIn
import Derived.Maps.OwnIn
import Derived.Maps.AppendAt
import Derived.RangeFuncBox
import Derived.Test.YtkhdocdddicgpaaGreatDoorYp0
import Derived.Laws.AppendOwn
import Derived.OrdersIn
import Derived.Deep.RegionHeld
import Derived.Laws.EntriesVeiled
import Derived.Deep.AppendLies
import Derived.Test.YtkhdocdddicgpaaGreatDoorYp1
import Derived.Test.YtkhdocdddicgpaaGreatDoorCards
import Derived.Test.YtkhdocdddicgpaaGreatDoorTie
import Derived.ProofKit
import Derived.OpenShut
import Derived.ShutString
import Derived.ChangeOld
import Derived.Below
import Derived.Deep.DeepHandedRow
import Derived.Lib.LaidTab
import Derived.Stop.LaidErr
set_option linter.unusedVariables false
set_option linter.unusedSimpArgs false
namespace Go.Proofs.YtkhdocdddicgpaaGreatDoor
open Go.RowKit Go.Maps _root_.Go.Proofs.YtkhdocdddicgpaaGreatDoor.Nm
theorem numT_size (b:Bool) (x:ByteArray):(numT b x).size≤x.size+1:=by
 unfold numT
 split
 · rw [ByteArray.size_append]
   have:(⟨#[45]⟩:ByteArray).size=1:=rfl
   omega
 · omega
theorem rd_coefs (N:Nat) (hN:1≤N):∀ (l:List (List UInt8)) (st:RdSt),st.size.size≤N→(∀ x∈l,x.length≤N)→(∀ t∈st.terms,t.2.size≤N+1)→∀ t∈(rdAll st l).terms,t.2.size≤N+1
 | [],st,_,_,h=>h
 | x::l,st,hs,hl,h=>by
  have h1:(rdStep st x).size.size≤N:=rd_size N [x] st hs (fun y hy=>hl y (by rw [List.mem_singleton.1 hy];simp))
  refine rd_coefs N hN l (rdStep st x) h1 (fun y hy=>hl y (by simp [hy])) ?_
  unfold rdStep
  split
  · exact h
  · split
    · intro t ht
      rcases List.mem_append.1 ht with ht | ht
      · exact h t ht
      · rw [List.mem_singleton.1 ht]
        have h2:=numT_size st.neg (orT st.size ⟨#[49]⟩)
        have h3:(orT st.size ⟨#[49]⟩).size≤N:=by
         unfold orT
         split
         · exact hN
         · exact hs
        show (numT st.neg (orT st.size ⟨#[49]⟩)).size≤N+1
        omega
    · exact h
theorem read_small {l:List UInt8} (h:l.length≤200):ReadIn l:=by
 have hm:(magT l).length≤200:=Nat.le_trans (magT_length l) h
 have hw:∀ x∈splitW (magT l),x.length≤200:=fun x hx=>Nat.le_trans (splitW_mem _ x hx) hm
 have hn:=splitW_length (magT l)
 have h0:(rdStart l).size.size≤200:=by show (⟨#[]⟩:ByteArray).size≤200;decide
 have h1:=rd_size 200 (splitW (magT l)) (rdStart l) h0 hw
 have h2:=rd_terms (splitW (magT l)) (rdStart l)
 have h3:=rd_coefs 200 (by omega) (splitW (magT l)) (rdStart l) h0 hw (fun t ht=>by cases ht)
 refine ⟨?_,fun t ht => ?_,?_⟩
 · unfold readF rdEnd
   dsimp only
   split
   · decide
   · have:=numT_size (rdAll (rdStart l) (splitW (magT l))).neg (rdAll (rdStart l) (splitW (magT l))).size
     omega
 · have:=h3 t ht
   omega
 · have e:(rdStart l).terms.length=0:=rfl
   show (rdAll (rdStart l) (splitW (magT l))).terms.length≤500
   omega
theorem IsF.unique {s:ByteArray} {qc qc':Rat} {q q':List Qm} (h:IsF s qc q) (h':IsF s qc' q'):qc=qc'∧q=q':=by
 have h1:=read_form (qc:=qc) (q:=q) (fun p hp=>(h.1.1 p hp).1)
 have h2:=read_form (qc:=qc') (q:=q') (fun p hp=>(h'.1.1 p hp).1)
 rw [h.2.2, ← h'.2.2,h2] at h1
 simp only [Prod.mk.injEq] at h1
 exact ⟨(txt_inj h'.2.1 h.2.1 h1.1).symm,(tms_inj (fun p hp=>(h'.1.1 p hp).2.1) (fun p hp=>(h.1.1 p hp).2.1) h1.2).symm⟩
set_option maxRecDepth 100000 in
set_option maxHeartbeats 6400000 in
theorem law_LinearParses (s:ByteArray) (w:World) (htab:Tab w) (he:Ers w) :
 Calls Tryz.prog 7 #[.string s] w fun e w'=>e = .returned (.bool true)∧Below w.heap.size w w':=by
 have hsz:s.data.toList.length=s.size:=Array.length_toList
 have HSZ:=Lib.hid (And.intro trivial hsz)
 clear hsz
 by_cases h200:(200:Int)<s.size
 · go_enter Tryz.func7,Tryz.ntmps7
   go_wp2_with fail
   refine (lawake_any _ htab he).mono ?_
   rintro e wz ⟨rfl,hb⟩
   have HZ:=Lib.hid hb
   clear hb
   go_wp2
   go_ret
   exact ⟨rfl,HZ.out⟩
 · have HIN:Hid (ReadIn s.data.toList):=Lib.hid (read_small (by rw [HSZ.out.2];omega))
   have HS:Hid (s.size≤200):=Lib.hid (by omega)
   have HT:=Lib.hid htab
   have HE:=Lib.hid he
   clear htab he
   by_cases hF:∃ qc q,IsF s qc q
   · obtain ⟨qc,q,hf⟩:=hF
     have HF:=Lib.hid hf
     have HTX:Hid (TextOf s.data.toList qc q):=Lib.hid (by rw [← hf.2.2];exact form_text hf.2.1 hf.1)
     obtain ⟨x,hx⟩:∃ x,txt qc=x:=⟨_,rfl⟩
     have HX:=Lib.hid hx
     clear hf hx
     go_enter Tryz.func7,Tryz.ntmps7
     go_wp2_with fail
     refine (Parse_good s x qc q _ HTX.out HX.out HIN.out (by have:=HS.out;omega) HT.out HE.out).mono ?_
     rintro e w1 ⟨⟨ad,n,cap,rfl,hinv⟩,hb⟩
     have hC:Below w1.heap.size w1 (w1.alloc (.cells #[.slice ad n cap,.string x] 24)):=(Below.refl _ w1).alloc (Nat.le_refl _) _
     have hbC:=hb.trans (hC.mono hb.size)
     have HV1:=Lib.hid (hinv.keep hC (Nat.le_refl _))
     have HB1:=Lib.hid (Bx.new w1 (.slice ad n cap) (.string x) 24)
     have HW1:=Lib.hid hbC
     clear hb hC hbC hinv
     go_wp2_with fail
     refine (gParse_any s _ HS.out).mono ?_
     rintro e w2 ⟨hb,ho⟩
     have HV2:=Lib.hid (HV1.out.keep hb (Nat.le_refl _))
     have HB2:=Lib.hid (HB1.out.below hb HB1.out.lt)
     have HW2:=Lib.hid (HW1.out.trans (hb.mono HW1.out.size))
     clear hb
     rcases ho with ⟨qc',q',ad2,n2,cap2,hf2,rfl,hts⟩ | ⟨hno,_⟩
     · obtain ⟨e1,e2⟩:=HF.out.unique hf2
       subst e1 e2
       have HTS:=Lib.hid hts
       clear hf2 hts
       rw [HX.out]
       obtain ⟨b0,b1,b2,b3⟩:=HB2.out.cell
       go_wp2_with fail
       refine (Text_good qc x ad n cap q s 0 _ HV2.out (tab_keep HT.out HW2.out) (Lib.hid (by
        rw [HF.out.2.2,if_neg (by rw [HSZ.out.2];have:=HS.out;omega)]
        exact ⟨(toB_back s).symm,rfl⟩))).mono ?_
       rintro e w3 ⟨rfl,hb⟩
       have HV3:=Lib.hid (HV2.out.keep hb (Nat.le_refl _))
       have HB3:=Lib.hid (HB2.out.below hb HB2.out.lt)
       have HTS3:=Lib.hid (HTS.out.keep hb (Nat.le_refl _))
       have HW3:=Lib.hid (HW2.out.trans (hb.mono HW2.out.size))
       clear hb b0 b1 b2 b3
       obtain ⟨b0,b1,b2,b3⟩:=HB3.out.cell
       go_wp2_with fail
       refine (Equal_same ad ad2 n cap n2 cap2 (tms q) _ HV3.out.in_.at_ HTS3.out (by have:=HV3.out.in_.len;omega)).mono ?_
       rintro e w4 ⟨rfl,hb⟩
       have HW4:=Lib.hid (HW3.out.trans (hb.mono HW3.out.size))
       clear hb b0 b1 b2 b3
       go_wp2_with fail
       refine (lawake_any _ (tab_keep HT.out HW4.out) (HE.out.keep HW4.out (Nat.le_refl _))).mono ?_
       rintro e wz ⟨rfl,hb⟩
       have HZ:=Lib.hid (HW4.out.trans (hb.mono HW4.out.size))
       clear hb
       go_wp2
       go_ret
       exact ⟨rfl,HZ.out⟩
     · exact absurd ⟨qc,q,HF.out⟩ hno
   · have HNT:Hid (¬ ∃ qc q,TextOf s.data.toList qc q):=Lib.hid (by
      rintro ⟨qc,q,_,h2,h3,h4⟩
      exact hF ⟨qc,q,h2,h3,h4⟩)
     have HNF:=Lib.hid hF
     clear hF
     go_enter Tryz.func7,Tryz.ntmps7
     go_wp2_with fail
     refine (Parse_bad s _ HNT.out HIN.out (by have:=HS.out;omega) HT.out HE.out).mono ?_
     rintro e w1 ⟨hb,rfl⟩
     have hC:Below w1.heap.size w1 (w1.alloc (.cells #[.slice none 0 0,.string ⟨#[]⟩] 24)):=(Below.refl _ w1).alloc (Nat.le_refl _) _
     have hbC:=hb.trans (hC.mono hb.size)
     have HB1:=Lib.hid (Bx.new w1 (.slice none 0 0) (.string ⟨#[]⟩) 24)
     have HW1:=Lib.hid hbC
     clear hb hC hbC
     go_wp2_with fail
     refine (gParse_any s _ HS.out).mono ?_
     rintro e w2 ⟨hb,ho⟩
     have HB2:=Lib.hid (HB1.out.below hb HB1.out.lt)
     have HW2:=Lib.hid (HW1.out.trans (hb.mono HW1.out.size))
     clear hb
     rcases ho with ⟨qc',q',ad2,n2,cap2,hf2,_,_⟩ | ⟨_,rfl⟩
     · exact absurd ⟨qc',q',hf2⟩ HNF.out
     · obtain ⟨b0,b1,b2,b3⟩:=HB2.out.cell
       go_wp2_with fail
       refine (lawake_any _ (tab_keep HT.out HW2.out) (HE.out.keep HW2.out (Nat.le_refl _))).mono ?_
       rintro e wz ⟨rfl,hb⟩
       have HZ:=Lib.hid (HW2.out.trans (hb.mono HW2.out.size))
       clear hb
       go_wp2
       go_ret
       exact ⟨rfl,HZ.out⟩
end Go.Proofs.YtkhdocdddicgpaaGreatDoor
set_option linter.unusedVariables false
namespace Go.Proofs.YtkhdocdddicgpaaGreatDoor
open Go.ChangeShapes Go.WideShapes Go.ChangeAt Go.RowKit
open Go.ChangeMaps (open_string shut_string)
set_option maxRecDepth 100000 in
theorem linearParses_contract (H:Type) (enc:TypeId × Value→H) (W:World) (base:Nat) (args:Array Value) (ds gs:List (DataW H)) (before:List MemPlace)
 (hval0:∀ (j:Nat) t v,Tryz.f7.params[j]?=some t→args[j]?=some v→Value.okWide Tryz.prog W .any base t v)
 (hW:DataW.Whole enc Tryz.prog Tryz.f7.params.toList Rows.linearParsesSpec.vars false W args.toList ds gs before) (hL:laidMet Tryz.prog laidAll W) :
 Calls Tryz.prog 7 args W fun e W'=>∃ v,e = .returned v∧Rows.linearParsesSpec.post enc Tryz.prog Tryz.f7 false true false false W args v W':=by
 have hval:∀ (j:Nat) t v,Tryz.f7.params[j]?=some t→args[j]?=some v→Value.okWide Tryz.prog W .any base t v:=hval0
 have hW':=hW
 obtain ⟨p,q,hA0,hV,rfl,hfz,hnd⟩:=hW
 have hA:DataW.TrodAll enc Tryz.prog W 0 (fun _=>true) true Tryz.f7.params.toList args.toList ds p:=hA0
 rw [Tryz.params7] at hA hval
 obtain ⟨v0,vs0,d0,ds0,p0,q0,hargs,rfl,rfl,h0,r0⟩:=trodAll_cons hA
 obtain ⟨rfl,rfl,rfl⟩:=trodAll_nil r0
 obtain rfl:args=#[v0]:=by cases args;simp_all
 obtain ⟨rfl,rfl⟩:=trodVars_none hV
 obtain ⟨a0,rfl,rfl,rfl,w0⟩:=open_string Tryz.underlying9 (hval 0 9 v0 rfl rfl) h0
 clear hA0 hval0
 refine (law_LinearParses a0  W (tab_of hL) (ers_of hL)).mono fun e W' ⟨he,bel⟩ => ?_
 subst he
 exact ⟨_,rfl,_,_,_,[],_,[],hW',trodAll_mk1 (shut_bool Tryz.underlying4 _),(trodAll_cons_mk (shut_string Tryz.underlying9 w0) trodAll_mk0),rfl,bel.frame _,fun h=>by cases h⟩
theorem linearParses_reads (os:Os) {H:Type} (enc:TypeId × Value→H):∃ places,DataW.whole enc Tryz.prog ((laidWorld os).forCall (fun _ _=>0) ⟨#[],#[.string ByteArray.empty],[]⟩).memory Tryz.f7.params.toList Rows.linearParsesSpec.vars false (#[.string ByteArray.empty]:Array Value).toList 8=some ([.lit (.string [])],[],places) :=
 ⟨[],by kernel_rfl⟩
set_option maxRecDepth 100000 in
theorem linearParses_lifted (os:Os) (started:os.Started) (H:Type) (enc:TypeId × Value→H) (F:Stop.Interp) :
 ReturnsInHanded {} Tryz.checked os 7 .any ((OpenSpec.ofChange Rows.linearParsesSpec).preRow enc Tryz.prog Tryz.f7 Rows.linearParsesRow.domain false Rows.linearParsesRow.laid) (((OpenSpec.ofChange Rows.linearParsesSpec).at F).post enc Tryz.prog Tryz.f7 false true false false):=by
 obtain ⟨places,hx⟩:=linearParses_reads os enc
 refine returnsInHanded_of_row (C:=Tryz.checked) (s:=OpenSpec.ofChange Rows.linearParsesSpec) ownk started (by kernel_rfl) Tryz.func7
  (witness_row_at (enc:=enc) (C:=Tryz.checked) false (laidWorld os) #[.string ByteArray.empty] rfl (by kernel_rfl) (by kernel_rfl) (by kernel_rfl)
   (OpenSpec.preRow_of_cond 8 hx (by kernel_rfl) (fun k hk=>by cases hk) (by kernel_rfl) (laid_met os _))) ?_
 intro W base args ds gs before hval hW _ _ _ hL _ _
 exact linearParses_contract H enc W base args ds gs before hval hW hL
theorem linearParses_said:Rows.LinearParsesSaid :=
 OpenClaim.holds_of_cond 7 Tryz.f7 rfl rfl rfl rfl rfl rfl rfl ⟨rfl,rfl,rfl,rfl,rfl⟩ rfl rfl rfl rfl rfl (by kernel_rfl) Tryz.func7 (by kernel_rfl)
  (of_decide_eq_true (by kernel_rfl)) (by unfold Func.isWrapper;first | (rw [if_pos (by decide +kernel)];kernel_rfl) | (rw [if_neg (by decide +kernel)];exact ⟨rfl,rfl⟩))
  (fun os started H enc _ F=>by rw [OpenClaim.pre_eq_preRow];exact linearParses_lifted os started H enc F)
theorem linearParses_plain (f : FuncId) (fn : Func) (hf : Tryz.pinned.checked.prog.funcNamed "cellarer/cellarerlaw04.LinearParses" = some f) (hfn : Tryz.pinned.checked.prog.funcs[f]? = some fn) :
 true=Tryz.pinned.checked.prog.looks []∧∀ (j:Nat) t,fn.params[j]?=some t→Tryz.pinned.checked.prog.wantsStandIn t=false:=by
 obtain rfl : f = 7 := Option.some.inj ((show Tryz.prog.funcNamed "cellarer/cellarerlaw04.LinearParses" = some 7 by kernel_rfl).symm.trans hf) |>.symm
 obtain rfl:fn=Tryz.f7:=(Option.some.inj (Tryz.func7.symm.trans hfn)).symm
 refine ⟨by kernel_rfl,fun j t ht => ?_⟩
 rw [Tryz.params7] at ht
 have hm:t∈[9]:=by simpa using Array.mem_of_getElem? ht
 have hall:([9].all fun u => !Tryz.prog.wantsStandIn u)=true:=by kernel_rfl
 exact (show Tryz.prog.wantsStandIn t=false by simpa using List.all_eq_true.1 hall t hm)
theorem linearParses_card:Rows.LinearParsesCardSaid :=
 Claim7.holds_tied_plain_at .later [] _ _ _ _ linearParses_said (fun _ h=>by cases h) (by kernel_rfl) (fun _ h=>by cases h) linearParses_row_tie rfl ⟨rfl,rfl⟩ (by kernel_rfl) rfl linearParses_plain (by kernel_rfl)
end Go.Proofs.YtkhdocdddicgpaaGreatDoor
