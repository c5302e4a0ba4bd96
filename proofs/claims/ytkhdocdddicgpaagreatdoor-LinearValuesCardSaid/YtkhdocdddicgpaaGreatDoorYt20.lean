/- Part 20: what the law's walk leans on. -/
import Derived.Test.YtkhdocdddicgpaaGreatDoorYt19
import Derived.RangeFuncNested
import Derived.RangeFuncBound
import Derived.RangeFuncCalls
import Derived.RangeFuncLeaves
import Derived.Shelf.Abstract
import Derived.Shelf.RegionOpen
import Derived.WalkKit
import Derived.OwnWalkIn
import Derived.TacticsInMore
import Derived.LoopNIn
import Derived.LoopIn
import Derived.Maps.OwnIn
import Derived.Maps.AppendAt
import Derived.RangeFuncBox
import Derived.Lib.AtoiErrMem
import Derived.OrdersIn
import Derived.Deep.RegionHeld
import Derived.Laws.EntriesVeiled
import Derived.Deep.AppendLies
set_option linter.unusedVariables false
set_option linter.unusedSimpArgs false
namespace Go.Proofs.YtkhdocdddicgpaaGreatDoor
open Go.RowKit Go.Maps Go.Shelf _root_.Go.Proofs.YtkhdocdddicgpaaGreatDoor.Nm
attribute [local go_sem] Oper.semAt_some
def splitW:List UInt8→List (List UInt8)
 | []=>[[]]
 | c::l=>if c=32 then []::splitW l else match splitW l with
  | []=>[[c]]
  | h::t=>(c::h)::t
theorem splitW_ne:∀ l,splitW l≠[]
 | []=>by simp [splitW]
 | c::l=>by
  unfold splitW
  split
  · simp
  · split <;> simp
theorem splitW_none:∀ l:List UInt8,(32:UInt8)∉l→splitW l=[l]
 | [],_=>rfl
 | c::l,h=>by
  have h1:=splitW_none l (fun k=>h (List.mem_cons_of_mem _ k))
  have h2:c≠32:=fun k=>h (by rw [k];exact List.mem_cons_self)
  unfold splitW
  rw [if_neg h2,h1]
theorem splitW_some:∀ (a b:List UInt8),(32:UInt8)∉a→splitW (a++32::b)=a::splitW b
 | [],b,_=>by show (if (32:UInt8)=32 then []::splitW b else _)=_;rw [if_pos rfl]
 | c::a,b,h=>by
  have h1:=splitW_some a b (fun k=>h (List.mem_cons_of_mem _ k))
  have h2:c≠32:=fun k=>h (by rw [k];exact List.mem_cons_self)
  show (if c=32 then []::splitW (a++32::b) else match splitW (a++32::b) with | []=>[[c]] | h::t=>(c::h)::t)=_
  rw [if_neg h2,h1]
theorem space_ex (l:List UInt8):(32:UInt8)∉l∨∃ a b,l=a++32::b∧(32:UInt8)∉a:=by
 induction l with
 | nil=>exact .inl (by simp)
 | cons x l ih =>
  by_cases hx:x=32
  · exact .inr ⟨[],l,by rw [hx];rfl,by simp⟩
  · rcases ih with h | ⟨a,b,rfl,h⟩
    · exact .inl (by simp only [List.mem_cons,not_or];exact ⟨fun e=>hx e.symm,h⟩)
    · exact .inr ⟨x::a,b,rfl,by simp only [List.mem_cons,not_or];exact ⟨fun e=>hx e.symm,h⟩⟩
theorem splitW_length:∀ l:List UInt8,(splitW l).length≤l.length+1
 | []=>by simp [splitW]
 | c::l=>by
  have ih:=splitW_length l
  unfold splitW
  split
  · simp;omega
  · split
    · simp
    · next h t e=>rw [e] at ih;simp at ih ⊢;omega
def leftAt (W:World) (b:Nat):Nat:=match W.cell? ⟨b,0,none⟩ with
 | some (.string s)=>s.size
 | _=>0
theorem Bo.left {W:World} {b:Nat} {s:ByteArray} (h:Bo W b (.string s)):leftAt W b=s.size:=by
 unfold leftAt;rw [h.cell.1]
theorem Bo.same {W W':World} {b:Nat} {x:Value} (h:Bo W b x) (hk:W'.heap[b]?=W.heap[b]?):Bo W' b x:=by
 obtain ⟨T,hT⟩:=h;exact ⟨T,hk.trans hT⟩
set_option maxRecDepth 100000 in
set_option maxHeartbeats 3200000 in
theorem iter_any (l b:Nat) (s0:ByteArray) (J:List (List UInt8)→World→Prop) (W:World)
 (hJ:∀ pre W v,J pre W→J pre (W.setCell ⟨b,0,none⟩ v))
 (hY:∀ pre (x:ByteArray) W,x.size≤s0.size→(∃ rest,pre++[x.data.toList]++rest=splitW s0.data.toList)→J pre W→YieldAt Fence.wide 1 Tryz.prog l #[.string x] W fun e W'=>e = .returned (.bool true)∧J (pre++[x.data.toList]) W'∧∀ k,b≤k→k<b+3→W'.heap[k]?=W.heap[k]?)
 (h0:J [] W) (hb0:Bo W b (.string s0)) (hb1:Bo W (b+1) (.string ⟨#[32]⟩)) (hb2:Bo W (b+1+1) (.int .i64 0)) (hs:s0.size≤100000) :
 CallsIn Fence.wide 2 Tryz.prog 163 #[.func (.yield l) #[] #[],.pointer (some ⟨b+1,0,none⟩),.pointer (some ⟨b,0,none⟩),.pointer (some ⟨b+1+1,0,none⟩)] W fun e W'=>(∃ v,e = .returned v)∧J (splitW s0.data.toList) W':=by
 have HJ:=Lib.hid hJ
 have HY:=Lib.hid hY
 have H0:=Lib.hid h0
 have HB0:=Lib.hid hb0
 have HB1:=Lib.hid hb1
 have HB2:=Lib.hid hb2
 obtain ⟨a0,a1⟩:=hb1.cell
 clear hJ hY h0 hb0 hb1 hb2
 refine callsIn_of_wp Tryz.func163 rfl trivial ?_ rfl
 simp only [Tryz.ntmps163,List.size_toArray,List.length_cons,List.length_nil,Nat.reduceAdd,Nat.reduceSub,Array.replicate_succ,Array.replicate_zero,List.push_toArray,List.append_toArray,List.nil_append,List.cons_append]
 gi_wp2
 clear a0 a1
 gi_loopw [7,8] (fun _ _ wr=>∃ (pre:List (List UInt8)) (s:ByteArray),Hid (pre++splitW s.data.toList=splitW s0.data.toList)∧s.size≤s0.size∧Hid (J pre wr)∧Hid (Bo wr b (.string s))∧Hid (Bo wr (b+1) (.string ⟨#[32]⟩))∧Hid (Bo wr (b+1+1) (.int .i64 0))) (fun _ _ wr=>leftAt wr b)
 case atStart=>exact ⟨[],s0,Lib.hid rfl,Nat.le_refl _,H0,HB0,HB1,HB2⟩
 case round =>
  obtain ⟨pre,s,HP,hss,HJS,HBA,HBB,HBC⟩:=hrel
  obtain ⟨a0,a1⟩:=HBB.out.cell
  obtain ⟨b0,b1⟩:=HBA.out.cell
  obtain ⟨c0,c1⟩:=HBC.out.cell
  rcases space_ex s.data.toList with hm | ⟨u,v,huv,hu⟩
  · have HI:Hid (Lib.indexByte s.data.toList 32 = -1):=Lib.hid (indexByte_miss _ _ hm)
    have HX:Hid (pre++[s.data.toList]=splitW s0.data.toList):=Lib.hid (by rw [← HP.out,splitW_none _ hm])
    obtain ⟨fn,tmps,assign,body,hy,hR⟩:=HY.out pre s wr hss ⟨[],by rw [List.append_nil];exact HX.out⟩ HJS.out
    clear hm HP
    gi_wp2_with (first | (refine ⟨trivial,?_⟩;gi_at_call 165;refine (callsIn_wide.2 (index_any s (-1) _ HI)).mono ?_;rintro e w' ⟨rfl,rfl⟩))
    refine hR.mono ?_
    rintro e W3 ⟨rfl,hj3,hk3⟩
    gi_wp2
    go_end0
    exact ⟨⟨_,rfl⟩,by rw [← HX.out];exact hj3⟩
  · obtain ⟨A,hA⟩:∃ A:ByteArray,A=⟨u.toArray⟩:=⟨_,rfl⟩
    have hAl:A.data.toList=u:=by rw [hA]
    obtain ⟨V,hV⟩:∃ V:ByteArray,V=⟨v.toArray⟩:=⟨_,rfl⟩
    have hVl:V.data.toList=v:=by rw [hV]
    have hsz:s.size=A.size+1+V.size:=by rw [Lib.size_eq,Lib.size_eq,Lib.size_eq,huv,hAl,hVl];simp;omega
    have HI:Hid (Lib.indexByte s.data.toList 32=(A.size:Int)):=Lib.hid (by rw [huv,indexByte_hit _ _ _ hu,Lib.size_eq,hAl])
    have h1:(0:Int)≤(A.size:Int):=by omega
    have h2:(A.size:Int)≤(s.size:Int):=by omega
    have h3:(A.size:Int)+1≤(s.size:Int):=by omega
    have hs1:s.size≤100000:=by omega
    have hx1:s.extract 0 A.size=A:=by
     apply ByteArray.ext
     rw [ByteArray.data_extract]
     apply Array.ext'
     rw [Array.toList_extract,huv,hAl,Lib.size_eq,hAl]
     simp
    have hx2:s.extract (A.size+1) s.size=V:=by
     apply ByteArray.ext
     rw [ByteArray.data_extract]
     apply Array.ext'
     rw [Array.toList_extract,hVl,Lib.size_eq,Lib.size_eq,huv,hAl]
     simp
     exact List.take_of_length_le (by omega)
    have hw1:wrap64 (A.size:Int)=A.size:=IntWalk.wrap64_in _ (by omega)
    have hw2:wrap64 ((A.size:Int)+1)=A.size+1:=IntWalk.wrap64_in _ (by omega)
    have HX:Hid (∀ W',J (pre++[A.data.toList]) W'→J (pre++[u]) W'):=Lib.hid (fun W' h=>by rw [hAl] at h;exact h)
    have HPV:Hid (pre++[u]++splitW V.data.toList=splitW s0.data.toList):=Lib.hid (by rw [← HP.out,huv,splitW_some _ _ hu,hVl,List.append_assoc];rfl)
    have HSZ:Hid (V.size<s.size∧V.size≤s0.size):=Lib.hid ⟨by omega,by omega⟩
    have HLF:=Lib.hid HBA.out.left
    obtain ⟨fn,tmps,assign,body,hy,hR⟩:=HY.out pre A wr (by omega) ⟨splitW V.data.toList,by rw [hAl];exact HPV.out⟩ HJS.out
    clear hA hAl hV hVl huv hu hsz HP
    gi_wp2_with (first | (refine ⟨trivial,?_⟩;gi_at_call 165;refine (callsIn_wide.2 (index_any s (A.size:Int) _ HI)).mono ?_;rintro e w' ⟨rfl,rfl⟩))
    refine hR.mono ?_
    rintro e W3 ⟨rfl,hj3,hk3⟩
    have HJ3:=Lib.hid (HX.out _ hj3)
    have HBA3:=Lib.hid (HBA.out.same (hk3 b (Nat.le_refl _) (by omega)))
    have HBB3:=Lib.hid (HBB.out.same (hk3 (b+1) (by omega) (by omega)))
    have HBC3:=Lib.hid (HBC.out.same (hk3 (b+1+1) (by omega) (by omega)))
    clear hj3 hk3 a0 a1 b0 b1 c0 c1 hy hR
    obtain ⟨a0,a1⟩:=HBB3.out.cell
    obtain ⟨b0,b1⟩:=HBA3.out.cell
    gi_wp2
    go_roundw
    case rel=>exact ⟨pre++[u],V,HPV,HSZ.out.2,Lib.hid (HJ.out _ _ _ HJ3.out),Lib.hid (HBA3.out.set _),Lib.hid (HBB3.out.past _ _ (by omega)),Lib.hid (HBC3.out.past _ _ (by omega))⟩
    case measure=>rw [(HBA3.out.set (.string V)).left,HLF.out];exact HSZ.out.1
end Go.Proofs.YtkhdocdddicgpaaGreatDoor
set_option linter.unusedVariables false
set_option linter.unusedSimpArgs false
namespace Go.Proofs.YtkhdocdddicgpaaGreatDoor
open Go.RowKit Go.Maps Go.Shelf _root_.Go.Proofs.YtkhdocdddicgpaaGreatDoor.Nm
def LoopRow (b:Nat) (row:Option Nat):Prop:=row=none∨row=some b∨row=some (b+3)∨row=some (b+4)
def KeepsLoop (b:Nat) (W W':World):Prop:=∀ k,b≤k→k<b+5→W'.heap[k]?=W.heap[k]?
def RoundOk (b:Nat) (I:List (List UInt8)→World→Prop) (xs:List (List UInt8)) (W:World):Exit→Act→World→Prop
 | .normal,_,W'=>KeepsLoop b W W'∧I xs W'
 | _,_,_=>False
set_option maxRecDepth 100000 in
set_option maxHeartbeats 3200000 in
theorem range_words {g:Operand} {ps:Array Tmp} {assign body:Code} {Q:Exit→Act→World→Prop} {a:Act} {w:World} (b:Nat) (s0:ByteArray)
 (hg:a.eval g = .func (.func 163) #[] #[.pointer (some ⟨b+1,0,none⟩),.pointer (some ⟨b,0,none⟩),.pointer (some ⟨b+1+1,0,none⟩)])
 (hD:w.heap.size=b+3) (hb0:Bo w b (.string s0)) (hb1:Bo w (b+1) (.string ⟨#[32]⟩)) (hb2:Bo w (b+1+1) (.int .i64 0)) (hs:s0.size≤100000) (hps:ps.size=1)
 (I:List (List UInt8)→World→Prop) (hI:∀ pre W W' row,I pre W→W.grownBy W' row→LoopRow b row→I pre W') (h0:I [] w) (a₁:ByteArray→Act)
 (hassign:∀ (l:Nat) (x:ByteArray) (W:World) (K:Act→World→Prop),K (a₁ x) W→assign.wpIn (Fence.wide.inRound l) 1 Tryz.prog (Exit.then K (fun _ _ _=>False)) { tmps:=(ps.zip #[.string x]).foldl (fun t (p,v)=>t.setIfInBounds p v) a.tmps,defers:=[] } W)
 (hbody:∀ (l:Nat) (pre:List (List UInt8)) (x:ByteArray) (W:World),x.size≤s0.size→(∃ rest,pre++[x.data.toList]++rest=splitW s0.data.toList)→b+5≤W.heap.size→I pre W→body.wpIn (Fence.wide.inRound l) 1 Tryz.prog (RoundOk b I (pre++[x.data.toList]) W) (a₁ x) W)
 (hdone:∀ W:World,I (splitW s0.data.toList) W→W.heap[b+3]?=some (.deferred (some []))→Q .normal { a with defers:={ target := .collected (b+3),args:=#[] }::a.defers } W) :
 (Code.rangeFunc g ps assign body).wpIn Fence.wide 3 Tryz.prog Q a w:=by
 refine wpIn_rangeFunc fun fn _ => ?_
 obtain ⟨rc,hrc⟩:∃ rc:LoopState→Loop,rc=fun st=>{ state:=st,pending:=none,fn,tmps:=a.tmps,params:=ps,assign,body,defers:=b+3 }:=⟨_,rfl⟩
 have r1:=World.alloc_heap_new w (.deferred (some []))
 rw [hD] at r1
 have r2:=World.alloc_heap_new (w.alloc (.deferred (some []))) (.loop (rc .ready))
 rw [World.size_alloc,hD] at r2
 have r3:((w.alloc (.deferred (some []))).alloc (.loop (rc .ready))).heap[b+3]?=some (.deferred (some [])):=(Below.heap_alloc _ _ _ (by rw [World.size_alloc];omega)).trans r1
 have hw:Below w.heap.size w ((w.alloc (.deferred (some []))).alloc (.loop (rc .ready))):=((Below.refl _ w).alloc (Nat.le_refl _) _).alloc (by simp) _
 have hI1:I [] ((w.alloc (.deferred (some []))).alloc (.loop (rc .ready))):=hI _ _ _ none (hI _ _ _ none h0 (World.grownBy_alloc _ _ none) (.inl rfl)) (World.grownBy_alloc _ _ none) (.inl rfl)
 have hall:b+5≤((w.alloc (.deferred (some []))).alloc (.loop (rc .ready))).heap.size:=by simp;omega
 have hent:=run_enterLoop_outer (P:=Tryz.prog) (w:=w) fn a.tmps ps assign body
 rw [hD] at hent
 have hent2:(Instr.enterLoop fn a.tmps ps assign body none).run Tryz.prog w = .ok (b+4,[{ target := .collected (b+3),args:=#[] }]) ((w.alloc (.deferred (some []))).alloc (.loop (rc .ready))):=by rw [hrc];exact hent
 clear hent r1
 generalize (w.alloc (.deferred (some []))).alloc (.loop (rc .ready))=W1 at r2 r3 hw hI1 hall hent2
 refine ⟨b+4,[{ target := .collected (b+3),args:=#[] }],W1,{ target := .fn (.func 163) #[.pointer (some ⟨b+1,0,none⟩),.pointer (some ⟨b,0,none⟩),.pointer (some ⟨b+1+1,0,none⟩)],args:=#[.func (.yield (b+4)) #[] #[]] },W1,163,
  #[.func (.yield (b+4)) #[] #[],.pointer (some ⟨b+1,0,none⟩),.pointer (some ⟨b,0,none⟩),.pointer (some ⟨b+1+1,0,none⟩)],W1,hent2,?_,fun _ _=>trivial,?_,fun _=>by decide,?_⟩
 · simp only [resolve,hg]
   simp [go_sem]
 · have he:=enters_of Tryz.func163 (by kernel_rfl) rfl #[.func (.yield (b+4)) #[] #[],.pointer (some ⟨b+1,0,none⟩),.pointer (some ⟨b,0,none⟩),.pointer (some ⟨b+1+1,0,none⟩)] W1
   simp [invoke,go_sem,he]
 · refine (iter_any (b+4) b s0 (fun pre W=>I pre W∧W.heap[b+4]?=some (.loop (rc .ready))∧W.heap[b+3]?=some (.deferred (some []))∧b+5≤W.heap.size) W1 ?_ ?_ ⟨hI1,r2,r3,hall⟩ (hb0.below hw hb0.lt) (hb1.below hw hb1.lt) (hb2.below hw hb2.lt) hs).mono ?_
   · rintro pre W v ⟨i1,i2,i3,i4⟩
     exact ⟨hI _ _ _ _ i1 (grownBy_setCell' W b v) (.inr (.inl rfl)),(Below.heap_setCell W _ v (b+4) (by dsimp only;omega)).trans i2,(Below.heap_setCell W _ v (b+3) (by dsimp only;omega)).trans i3,by simpa [World.setCell] using i4⟩
   · rintro pre x W hx hpx ⟨i1,i2,i3,i4⟩
     have hl:b+4<W.heap.size:=by omega
     have hy:=run_yield (P:=Tryz.prog) (args:=#[.string x]) i2 (by rw [hrc];exact hps.symm)
     rw [hrc] at hy
     refine ⟨fn,_,assign,body,hy,roundIn_of_wpIn trivial (hassign _ x W _ ⟨_,run_beginRound i2 (by rw [hrc]),?_⟩)⟩
     have k1:(W.putObj (b+4) (.loop { rc .ready with state := .busy })).heap[b+4]?=some (.loop { rc .ready with state := .busy }):=World.putObj_heap_same hl
     refine wpIn_mono (hbody (b+4) pre x _ hx hpx (by simpa using i4) (hI _ _ _ _ i1 (grownBy_putObj' W _ _) (.inr (.inr (.inr rfl))))) ?_
     rintro e a3 W3 hp
     cases e with
     | normal =>
      obtain ⟨hk,hi⟩:=hp
      have m1:=(hk (b+4) (by omega) (by omega)).trans k1
      have m2:=run_endRound (P:=Tryz.prog) none m1
      have m3:b+4<W3.heap.size:=(Array.getElem?_eq_some_iff.1 m1).1
      refine ⟨_,_,m2,rfl,⟨hI _ _ _ _ hi (grownBy_putObj' W3 _ _) (.inr (.inr (.inr rfl))),?_,?_,by simp;omega⟩,fun k h1 h2 => ?_⟩
      · rw [World.putObj_heap_same m3,hrc];rfl
      · rw [World.putObj_heap_other (by omega),hk (b+3) (by omega) (by omega),World.putObj_heap_other (by omega)];exact i3
      · rw [World.putObj_heap_other (by omega),hk k h1 (by omega),World.putObj_heap_other (by omega)]
     | ret=>exact hp.elim
     | exit id=>exact hp.elim
     | goto t=>exact hp.elim
     | panic ch=>exact hp.elim
     | outgrown=>exact hp.elim
   · rintro e W2 ⟨⟨v,rfl⟩,i1,i2,i3,i4⟩
     have h:=run_endLoop (P:=Tryz.prog) i2 (by rw [hrc];simp)
     have hp:(rc .ready).pending=none:=by rw [hrc]
     rw [hp] at h
     refine ⟨none,_,h,hdone _ (hI _ _ _ _ i1 (grownBy_putObj' W2 _ _) (.inr (.inr (.inr rfl)))) ((World.putObj_heap_other (by omega)).trans i3)⟩
end Go.Proofs.YtkhdocdddicgpaaGreatDoor
set_option linter.unusedVariables false
set_option linter.unusedSimpArgs false
namespace Go.Proofs.YtkhdocdddicgpaaGreatDoor
open Go.RowKit Go.Maps Go.Shelf _root_.Go.Proofs.YtkhdocdddicgpaaGreatDoor.Nm
attribute [local go_sem] Oper.semAt_some
def ErAt (g:Nat) (w:World):Prop:=∃ ev,w.cell? ⟨g,0,none⟩=some ev∧(ev = .nilIface∨∃ te pe,ev = .iface te pe)∧g<w.heap.size
def Ers (w:World):Prop:=ErAt 0 w∧ErAt 1 w
theorem ErAt.keep {g B:Nat} {w w':World} (h:ErAt g w) (hb:Below B w w') (hB:w.heap.size≤B):ErAt g w':=by
 obtain ⟨ev,h1,h2,h3⟩:=h
 exact ⟨ev,(hb.cell (p:=⟨g,0,none⟩) (Nat.lt_of_lt_of_le h3 hB)).trans h1,h2,Nat.lt_of_lt_of_le h3 hb.size⟩
theorem Ers.keep {B:Nat} {w w':World} (h:Ers w) (hb:Below B w w') (hB:w.heap.size≤B):Ers w':=⟨h.1.keep hb hB,h.2.keep hb hB⟩
def atoiV (l:List UInt8):Int:=match Lib.atoiAll l with
 | .ok v=>v
 | .range=>Lib.atoiSat l
 | _=>0
theorem atoi_any (s:ByteArray) (v:Int) (w:World) (hv:Hid (atoiV s.data.toList=v)) (hs:s.size≤100000) (he:Ers w) :
 Calls Tryz.prog 105 #[.string s] w fun e w'=>(∃ er,e = .returned (.tuple #[.int .i64 v,er]))∧Below w.heap.size w w':=by
 have h:=hv.out
 unfold atoiV at h
 obtain ⟨⟨e1,c1,d1,_⟩,⟨e2,c2,d2,_⟩⟩:=he
 rcases hr:Lib.atoiAll s.data.toList with u | _ | _
 · rw [hr] at h
   obtain rfl:u=v:=h
   refine (Tryz.strconv_Atoi_ok s (by omega) u hr w).mono ?_
   rintro e w' ⟨rfl,h⟩
   refine ⟨⟨_,rfl⟩,?_⟩
   rcases h with rfl | ⟨t,rfl⟩
   · exact Below.refl _ _
   · exact Lib.bytesWorld_below w _ t
 · rw [hr] at h
   obtain rfl:0=v:=h
   refine (Tryz.strconv_Atoi_syntax s (by omega) hr e1 w c1 d1).mono ?_
   rintro e w' ⟨N,rfl,_,_,hb⟩
   exact ⟨⟨_,rfl⟩,hb⟩
 · rw [hr] at h
   obtain rfl:Lib.atoiSat s.data.toList=v:=h
   refine (Tryz.strconv_Atoi_range s (by omega) hr e2 w c2 d2).mono ?_
   rintro e w' ⟨N,rfl,_,_,hb⟩
   exact ⟨⟨_,rfl⟩,hb⟩
structure RdSt where
 neg:Bool
 size:ByteArray
 terms:List Tm
def rdStep (st:RdSt) (x:List UInt8):RdSt :=
 if x=[43]∨x=[45] then ⟨decide (x=[45]),st.size,st.terms⟩
 else if Lib.hasPrefix x [120]=true then ⟨st.neg,⟨#[]⟩,st.terms++[(atoiV (x.drop 1),numT st.neg (orT st.size ⟨#[49]⟩))]⟩
 else ⟨st.neg,⟨x.toArray⟩,st.terms⟩
def rdAll (st:RdSt) (l:List (List UInt8)):RdSt:=l.foldl rdStep st
theorem rdAll_snoc (st:RdSt) (l:List (List UInt8)) (x:List UInt8):rdAll st (l++[x])=rdStep (rdAll st l) x:=by simp [rdAll]
def rdStart (s:List UInt8):RdSt:=⟨negT s,⟨#[]⟩,[]⟩
def rdEnd (st:RdSt):ByteArray × List Tm:=(if st.size.data.toList=[] then ⟨#[48]⟩ else numT st.neg st.size,st.terms)
def readF (s:List UInt8):ByteArray × List Tm:=rdEnd (rdAll (rdStart s) (splitW (magT s)))
def flatB (l:List Tm):List Value:=l.flatMap fun t=>[.int .i64 t.1,.string t.2]
theorem flatB_snoc (l:List Tm) (t:Tm):flatB (l++[t])=flatB l++[.int .i64 t.1,.string t.2]:=by simp [flatB]
theorem flatB_get:∀ (q:List Tm) (i:Nat) (h:i<q.length),(flatB q)[i*2]?=some (.int .i64 q[i].1)∧(flatB q)[i*2+1]?=some (.string q[i].2)
 | [],i,h=>absurd h (Nat.not_lt_zero i)
 | p::q,0,h=>⟨rfl,rfl⟩
 | p::q,i+1,h=>by
  have e1:(i+1)*2=i*2+1+1:=by omega
  have ih:=flatB_get q i (by simpa using h)
  rw [e1,show flatB (p::q) = .int .i64 p.1 :: .string p.2::flatB q from rfl]
  simpa using ih
theorem terms_of_flat {W:World} {B:Nat} {ad:Option Addr} {n cap:Nat} {q:List Tm} (h:W.ownsRow B 68 2 (.slice ad n cap) q.length (flatB q)) (hn:n=q.length):TsAt W (.slice ad n cap) q:=by
 obtain ⟨h1,h2⟩:=h
 rcases h2 with ⟨h,h0⟩ | ⟨g,cap',cur,h3,h4,h5,h6,h7,h8,h9⟩
 · cases h
   exact ⟨_,_,_,rfl,hn,.inl rfl⟩
 · cases h3
   refine ⟨_,_,_,rfl,rfl,.inr ⟨g,0,rfl,(Array.getElem?_eq_some_iff.1 h5).1,fun i hi => ?_⟩⟩
   have hf:=flatB_get q i hi
   have hcur:∀ (j:Nat),j<q.length*2→cur[j]?=(flatB q)[j]?:=fun j hj=>by
    rw [← h9,List.getElem?_take,if_pos hj];simp
   refine ⟨?_,?_⟩
   · simp only [World.cell?,h5]
     rw [← hf.1, ← hcur _ (by omega)];simp
   · simp only [World.cell?,h5]
     rw [← hf.2, ← hcur _ (by omega)];simp
structure Rdm (w W:World) (st:RdSt) (v:Value):Prop where
 b0:Bx W w.heap.size (.slice none 0 0) (.string ⟨#[]⟩)
 b1:Bx W (w.heap.size+1) v (.string ⟨#[48]⟩)
 b2:Bo W (w.heap.size+2) (.bool st.neg)
 b3:Bo W (w.heap.size+3) (.string st.size)
 b4:Bo W (w.heap.size+4) (.func (.func 102) #[] #[.pointer (some ⟨w.heap.size+2,0,none⟩)])
 row:W.ownsRow (w.heap.size+10) 68 2 v st.terms.length (flatB st.terms)
 below:Below w.heap.size w W
theorem Bo.grown {W W':World} {g:Nat} {x:Value} {row:Option Nat} (h:Bo W g x) (hg:W.grownBy W' row) (hr:row≠some g):Bo W' g x:=by
 obtain ⟨T,hT⟩:=h
 exact ⟨T,(hg.block g (Array.getElem?_eq_some_iff.1 hT).1 (fun e=>hr e.symm)).trans hT⟩
theorem Rdm.grown {w W W':World} {st:RdSt} {v:Value} {row:Option Nat} (h:Rdm w W st v) (hg:W.grownBy W' row) (hr:∀ k,row=some k→w.heap.size+5≤k) (hn:v.ownBlock=none∨v.ownBlock≠row):Rdm w W' st v :=
 ⟨h.b0.grown hg (fun e=>by have:=hr _ e;omega),h.b1.grown hg (fun e=>by have:=hr _ e;omega),h.b2.grown hg (fun e=>by have:=hr _ e;omega),h.b3.grown hg (fun e=>by have:=hr _ e;omega),h.b4.grown hg (fun e=>by have:=hr _ e;omega),
  h.row.kept hg hn,h.below.grown hg h.below.size (fun k e=>by have:=hr _ e;omega)⟩
theorem Rdm.keep {w W W':World} {st:RdSt} {v:Value} (h:Rdm w W st v) (hb:Below W.heap.size W W'):Rdm w W' st v :=
 h.grown (grown_of hb none) (fun k e=>by cases e) (by cases v.ownBlock <;> simp)
theorem Rdm.loop {w W W':World} {st:RdSt} {v:Value} {row:Option Nat} (h:Rdm w W st v) (hg:W.grownBy W' row) (hr:LoopRow (w.heap.size+5) row):Rdm w W' st v:=by
 refine h.grown hg (fun k e => ?_) ?_
 · rcases hr with rfl | rfl | rfl | rfl
   · cases e
   · have:=Option.some.inj e;omega
   · have:=Option.some.inj e;omega
   · have:=Option.some.inj e;omega
 · cases hv:v.ownBlock with
   | none=>exact .inl rfl
   | some k =>
    have hk:=(h.row.lt k hv).1
    refine .inr fun e => ?_
    rcases hr with rfl | rfl | rfl | rfl
    · cases e
    · have:=Option.some.inj e;omega
    · have:=Option.some.inj e;omega
    · have:=Option.some.inj e;omega
end Go.Proofs.YtkhdocdddicgpaaGreatDoor
set_option linter.unusedVariables false
set_option linter.unusedSimpArgs false
namespace Go.Proofs.YtkhdocdddicgpaaGreatDoor
open Go.RowKit
theorem op_round {P:Program} {l n:Nat} {o:Oper} {a:Act} {w:World} {K K':Act→World→Prop} {Q:Exit→Act→World→Prop} (hd:∀ c,o.op ≠ .defer c) (hK:∀ a w,K a w→K' a w) (h:o.wp P a w K Q) :
 o.wpIn (Fence.wide.inRound l) n P a w K' Q:=by
 refine ⟨fun _ _=>trivial,?_⟩
 rw [show (Fence.wide.inRound l).round=some l from rfl,Oper.semAt_some l _ _ hd]
 unfold Oper.wp at h
 generalize (execOp a.eval o).run P w=r at h ⊢
 cases r with
 | ok nx w' =>
  cases nx <;> simp only [Oper.upon,Oper.uponIn] at h ⊢
  case value v=>exact hK _ _ h
  case skip=>exact hK _ _ h
  case defer d=>exact hK _ _ h
  case enter f args =>
   refine ⟨fun e=>absurd (show false=true from e) (by decide),(CallsIn.inRound l (callsIn_wide.2 h)).mono fun e w'' he => ?_⟩
   cases e with
   | returned v=>exact hK _ _ he
   | panicked c=>exact he
   | outgrown=>exact he
  case row row args =>
   refine ⟨fun e=>absurd (show false=true from e) (by decide),fun c cs _ => ?_⟩
   obtain ⟨v,w1,r,s⟩:=h c cs
   exact ⟨v,w1,hK _ _ r,stepsIn_wide.2 s⟩
 | halt x w' =>
  cases x <;> simp only [Oper.upon,Oper.uponIn] at h ⊢
  case panic v=>exact h
def noDefer (o:Oper):Bool:=match o.op with
 | .defer _=>false
 | _=>true
theorem noDefer_of {o:Oper} (h:noDefer o=true):∀ c,o.op ≠ .defer c:=by
 intro c e
 unfold noDefer at h
 rw [e] at h
 cases h
theorem any_round {P:Program} {l n:Nat} {md:Region.Mode} {ops:Array Oper} {Q:Exit→Act→World→Prop} (hd:∀ (i:Nat) (o:Oper),ops[i]?=some o→noDefer o=true) (hQ:¬ LetsOut Q) :
 ∀ (fuel:Nat) (listed:Array Bool) (a:Act) (w:World),wpAny P md ops Q fuel listed a w→wpAnyIn (Fence.wide.inRound l) n P md ops Q fuel listed a w
 | 0,_,_,_,h=>h
 | fuel+1,listed,a,w,h=>by
  refine ⟨h.1,fun i hi => ?_⟩
  have h2:=h.2 i hi
  unfold wpOp at h2
  unfold wpOpIn
  cases ho:ops[i]? with
  | none=>rw [ho] at h2;exact any_round hd hQ fuel _ _ _ h2
  | some o =>
   rw [ho] at h2
   dsimp only at h2 ⊢
   split
   · next hw =>
     rw [if_pos hw] at h2
     rcases h2 with h2 | ⟨_,h2⟩
     · exact op_round (noDefer_of (hd i o ho)) (fun a w hk=>any_round hd hQ fuel _ _ _ hk) h2
     · exact absurd h2 hQ
   · next hw =>
     rw [if_neg hw] at h2
     exact ⟨fun _ _=>trivial,any_round hd hQ fuel _ _ _ h2⟩
def wpAnyX (P:Program) (md:Region.Mode) (ops:Array Oper) (Q:Exit→Act→World→Prop) (S:World→Prop) (m:Nat):Nat→Array Bool→Act→World→Prop
 | 0,listed,a,w=>Region.ready md ops listed=[]∧Q .normal a w
 | fuel+1,listed,a,w=>(Region.ready md ops listed=[]→Q .normal a w)∧∀ i∈Region.ready md ops listed,wpOp P ops Q i (fun a' w'=>(i≠m→S w')∧wpAnyX P md ops Q S m fuel (listed.setIfInBounds i true) a' w') a w
section
variable {P:Program} {ops:Array Oper} {Q:Exit→Act→World→Prop} {md:Region.Mode} {S:World→Prop} {m:Nat}
theorem any_of_x:∀ (fuel:Nat) (listed:Array Bool) (a:Act) (w:World),wpAnyX P md ops Q S m fuel listed a w→wpAny P md ops Q fuel listed a w
 | 0,_,_,_,h=>h
 | fuel+1,_,_,_,h=>⟨h.1,fun i hi=>wpOp_mono (fun a' w' h'=>any_of_x fuel _ a' w' h'.2) (h.2 i hi)⟩
theorem x_first {i:Nat} {oi om:Oper} {v:Value} (hi:ops[i]?=some oi) (hm:ops[m]?=some om) (hw:om.after.any (fun e=>Region.binds md e&&e.on==i)=true) (hsel:∀ (j:Nat) (o:Oper) cs b,ops[j]?=some o→o.op ≠ .select cs b)
 (hQ:∀ c a w,Q (.panic c) (a.put oi.dst v) w→Q (.panic c) a w) :
 ∀ (fuel:Nat) (listed:Array Bool) (a:Act) (w:World),
  (∀ j oj,ops[j]?=some oj→j≠i→listed.getD j true=false→(∀ e∈oj.after,Region.binds md e=true→e.on≠i)→oi.apart ops oj=true) →
  i∈Region.ready md ops listed→YieldsIf P ops S oi v a→S w →
  wpAnyX P md ops Q S m fuel (listed.setIfInBounds i true) (a.put oi.dst v) w→wpAnyX P md ops Q S m (fuel+1) listed a w:=by
 intro fuel
 induction fuel with
 | zero =>
  intro listed a w _ hr hy hS H
  refine ⟨fun h=>(by rw [h] at hr;cases hr),fun j hj => ?_⟩
  by_cases hji:j=i
  · subst hji;exact hy.wpOp hi hS ⟨fun _=>hS,H⟩
  · have h0:=ready_mono hj hji
    rw [H.1] at h0
    cases h0
 | succ fuel ih =>
  intro listed a w hfree hr hy hS H
  refine ⟨fun h=>(by rw [h] at hr;cases hr),fun j hj => ?_⟩
  by_cases hji:j=i
  · subst hji;exact hy.wpOp hi hS ⟨fun _=>hS,H⟩
  · have h1:=H.2 j (ready_mono hj hji)
    obtain ⟨hjun,oj,hoj,hall⟩:=mem_ready.1 hj
    have hnot:∀ e∈oj.after,Region.binds md e=true→e.on≠i:=fun e he hb heq=>by
     have g1:=hall e he hb
     have g0:=(mem_ready.1 hr).1
     rw [heq] at g1
     rcases Nat.lt_or_ge i listed.size with h' | h'
     · simp [h'] at g0 g1;rw [g0] at g1;cases g1
     · simp [Array.getElem?_eq_none h'] at g1
    have hjm:j≠m:=fun e=>by
     subst e
     rw [hm] at hoj
     obtain rfl:=Option.some.inj hoj
     rw [Array.any_eq_true'] at hw
     obtain ⟨x,hx,hb⟩:=hw
     rw [Bool.and_eq_true,beq_iff_eq] at hb
     exact hnot x hx hb.1 hb.2
    have h2:=wpOp_putIf hoj (hfree j oj hoj hji hjun hnot) (fun cs b=>hsel i oi cs b hi) (fun cs b=>hsel j oj cs b hoj) hQ hy h1
    have hfree':∀ k ok,ops[k]?=some ok→k≠i→(listed.setIfInBounds j true).getD k true=false →
     (∀ e∈ok.after,Region.binds md e=true→e.on≠i)→oi.apart ops ok=true:=fun k ok hk hki hun hno=>by
     refine hfree k ok hk hki ?_ hno
     by_cases hjk:j=k
     · subst hjk;exact hjun
     · rw [getD_set_ne true hjk] at hun;exact hun
    refine wpOp_mono (fun a' w' h3=>⟨h3.2.1,ih (listed.setIfInBounds j true) a' w' hfree' (ready_mono hr (Ne.symm hji)) h3.1 (h3.2.1 hjm) ?_⟩) h2
    rw [Array.setIfInBounds_comm _ _ hji]
    exact h3.2.2
theorem x_take {i:Nat} {oi om:Oper} {v:Value} {fuel:Nat} {listed:Array Bool} {a:Act} {w:World} (hi:ops[i]?=some oi) (hm:ops[m]?=some om) (hw:om.after.any (fun e=>Region.binds md e&&e.on==i)=true)
 (hs:Region.noSelect ops=true) (hf:Region.free md ops listed i=true) (hr:(Region.ready md ops listed).contains i=true)
 (hQ:∀ c a w,Q (.panic c) (a.put oi.dst v) w→Q (.panic c) a w) (hy:YieldsIf P ops S oi v a) (hS:S w)
 (h:wpAnyX P md ops Q S m fuel (listed.setIfInBounds i true) (a.put oi.dst v) w):wpAnyX P md ops Q S m (fuel+1) listed a w :=
 x_first hi hm hw (Region.noSelect_spec hs) hQ fuel listed a w (Region.free_spec hi hf) (by simpa using hr) hy hS h
theorem x_one {i:Nat} {o:Oper} {fuel:Nat} {listed:Array Bool} {a:Act} {w:World} (hr:Region.ready md ops listed=[i]) (ho:ops[i]?=some o)
 (h:∀ K':Act→World→Prop,Shut (∀ a w,(i≠m→S w)→wpAnyX P md ops Q S m fuel (listed.setIfInBounds i true) a w→K' a w)→if Region.wanted o (yielded ops a.tmps)=true then Oper.wp P o a w K' Q else K' (a.put o.dst undef) w) :
 wpAnyX P md ops Q S m (fuel+1) listed a w:=by
 refine ⟨fun h0=>(by rw [h0] at hr;cases hr),fun j hj => ?_⟩
 rw [hr] at hj
 obtain rfl:j=i:=by simpa using hj
 exact wpOp_step ho (fun K' hK=>h K' (fun a w hS hW=>hK a w ⟨hS,hW⟩))
theorem x_done {listed:Array Bool} {a:Act} {w:World} (hr:Region.ready md ops listed=[]) (h:Q .normal a w):∀ fuel,wpAnyX P md ops Q S m fuel listed a w
 | 0=>⟨hr,h⟩
 | _+1=>⟨fun _=>h,by rw [hr];simp⟩
end
theorem region_roundX {P:Program} {l n id m:Nat} {ops:Array Oper} {Q:Exit→Act→World→Prop} {S:World→Prop} {a:Act} {w:World} (hm:P.follows .mixedOrders=true) (hd:ops.all noDefer=true) (hQ:¬ LetsOut Q)
 (h:wpAnyX P .any ops Q S m ops.size (Array.replicate ops.size false) a w.drew):(Code.region id ops true).wpIn (Fence.wide.inRound l) n P Q a w:=by
 refine wpIn_region_any hm (any_round (fun i o ho => ?_) hQ _ _ _ _ (any_of_x _ _ _ _ h))
 rw [Array.all_eq_true_iff_forall_mem] at hd
 exact hd o (Array.mem_of_getElem? ho)
end Go.Proofs.YtkhdocdddicgpaaGreatDoor
set_option linter.unusedVariables false
set_option linter.unusedSimpArgs false
namespace Go.Proofs.YtkhdocdddicgpaaGreatDoor
open Go.RowKit Go.Maps Go.Shelf _root_.Go.Proofs.YtkhdocdddicgpaaGreatDoor.Nm
attribute [local go_sem] Oper.semAt_some
theorem splitW_mem:∀ (l x:List UInt8),x∈splitW l→x.length≤l.length
 | [],x,h=>by
  have:x=[]:=by simpa [splitW] using h
  subst this;exact Nat.le_refl _
 | c::l,x,h=>by
  have ih:=splitW_mem l
  unfold splitW at h
  split at h
  · rcases List.mem_cons.1 h with e | h
    · rw [e];exact Nat.zero_le _
    · have:=ih x h
      rw [List.length_cons];omega
  · split at h
    · next h0=>exact absurd h0 (splitW_ne l)
    · next a t e =>
      rcases List.mem_cons.1 h with e2 | h
      · have:=ih a (by rw [e];exact List.mem_cons_self ..)
        rw [e2,List.length_cons,List.length_cons];omega
      · have:=ih x (by rw [e];exact List.mem_cons_of_mem _ h)
        rw [List.length_cons];omega
theorem rd_terms:∀ (l:List (List UInt8)) (st:RdSt),(rdAll st l).terms.length≤st.terms.length+l.length
 | [],st=>Nat.le_refl _
 | x::l,st=>by
  have ih:=rd_terms l (rdStep st x)
  have:(rdStep st x).terms.length≤st.terms.length+1:=by
   unfold rdStep
   split
   · exact Nat.le_succ _
   · split
     · simp
     · exact Nat.le_succ _
  show (rdAll (rdStep st x) l).terms.length≤_
  rw [List.length_cons];omega
theorem rd_size (N:Nat):∀ (l:List (List UInt8)) (st:RdSt),st.size.size≤N→(∀ x∈l,x.length≤N)→(rdAll st l).size.size≤N
 | [],st,h,_=>h
 | x::l,st,h,hl=>by
  refine rd_size N l (rdStep st x) ?_ (fun y hy=>hl y (by simp [hy]))
  unfold rdStep
  split
  · exact h
  · split
    · exact Nat.zero_le _
    · show (⟨x.toArray⟩:ByteArray).size≤N
      rw [Lib.size_eq]
      exact hl x (by simp)
theorem Rdm.setNeg {w W:World} {st:RdSt} {v:Value} (h:Rdm w W st v) (b:Bool):Rdm w (W.setCell ⟨w.heap.size+2,0,none⟩ (.bool b)) ⟨b,st.size,st.terms⟩ v:=by
 have hg:=grownBy_setCell' W (w.heap.size+2) (.bool b)
 refine ⟨h.b0.grown hg (by simp),h.b1.grown hg (by simp),h.b2.set (.bool b),h.b3.grown hg (by simp),h.b4.grown hg (by simp),h.row.kept hg ?_,h.below.setCell (by dsimp only;omega) _⟩
 cases hv:v.ownBlock with
 | none=>exact .inl rfl
 | some k=>have:=(h.row.lt k hv).1;exact .inr (by simp;omega)
theorem Rdm.setSize {w W:World} {st:RdSt} {v:Value} (h:Rdm w W st v) (s:ByteArray):Rdm w (W.setCell ⟨w.heap.size+3,0,none⟩ (.string s)) ⟨st.neg,s,st.terms⟩ v:=by
 have hg:=grownBy_setCell' W (w.heap.size+3) (.string s)
 refine ⟨h.b0.grown hg (by simp),h.b1.grown hg (by simp),h.b2.grown hg (by simp),h.b3.set (.string s),h.b4.grown hg (by simp),h.row.kept hg ?_,h.below.setCell (by dsimp only;omega) _⟩
 cases hv:v.ownBlock with
 | none=>exact .inl rfl
 | some k=>have:=(h.row.lt k hv).1;exact .inr (by simp;omega)
theorem keeps_set (W:World) (b g i:Nat) (v:Value) (h:g<b):KeepsLoop b W (W.setCell ⟨g,i,none⟩ v):=fun k h1 _=>Below.heap_setCell W _ v k (by dsimp only;omega)
theorem keeps_below {b:Nat} {W W':World} (h:Below W.heap.size W W') (hb:b+5≤W.heap.size):KeepsLoop b W W':=fun k _ h2=>h.block k (by omega)
theorem KeepsLoop.trans {b:Nat} {W W' W'':World} (h:KeepsLoop b W W') (h':KeepsLoop b W' W''):KeepsLoop b W W'':=fun k h1 h2=>(h' k h1 h2).trans (h k h1 h2)
theorem prefix_one (x:ByteArray) (h:0<x.size):((x.extract 0 1).toList==[120])=Lib.hasPrefix x.data.toList [120]:=by
 rw [Lib.toList_data,ByteArray.data_extract,Array.toList_extract]
 rw [Lib.size_eq] at h
 cases hl:x.data.toList with
 | nil=>rw [hl] at h;exact absurd h (by simp)
 | cons c l =>
  unfold Lib.hasPrefix
  simp only [List.isPrefixOf,Bool.and_true]
  by_cases hc:c=120
  · subst hc;rfl
  · have h1:((120:UInt8)==c)=false:=by simpa using fun e=>hc e.symm
    have h2:((c::l).extract 0 1==[(120:UInt8)])=false:=by
     show ([c]==[(120:UInt8)])=false
     simpa using hc
    rw [h1,h2]
set_option maxRecDepth 100000 in
set_option maxHeartbeats 1600000 in
theorem hasX_any (x:ByteArray) (b:Bool) (w:World) (hb:Hid (Lib.hasPrefix x.data.toList [120]=b)) (hs:x.size≤100000) :
 Calls Tryz.prog 104 #[.string x,.string ⟨#[120]⟩] w fun e w'=>e = .returned (.bool b)∧w'=w:=by
 have h1:Calls Tryz.prog 138 #[.string x,.string ⟨#[120]⟩] w fun e w'=>e = .returned (.bool b)∧w'=w:=by
  by_cases h0:x.size=0
  · have hg:¬ (1:Int)≤x.size:=by omega
    obtain rfl:b=false:=by
     rw [← hb.out,show x.data.toList=[] from List.eq_nil_of_length_eq_zero (by rw [← Lib.size_eq];exact h0)]
     rfl
    clear hb h0
    go_enter Tryz.func138,Tryz.ntmps138
    go_wp2
    go_ret
    exact ⟨rfl,rfl⟩
  · have hg:(1:Int)≤x.size:=by omega
    have ht:=(prefix_one x (by omega)).trans hb.out
    clear hb h0
    go_enter Tryz.func138,Tryz.ntmps138
    go_wp2
    go_ret
    exact ⟨rfl,rfl⟩
 clear hb
 go_enter Tryz.func104,Tryz.ntmps104
 go_wp2_with (first | (go_at_call 138;refine h1.mono ?_;rintro e w' ⟨rfl,rfl⟩))
 go_ret
 exact ⟨rfl,rfl⟩
theorem grown_set (W:World) (b i:Nat) (v:Value):W.grownBy (W.setCell ⟨b,i,none⟩ v) (some b) :=
 ⟨rfl,rfl,rfl,(KeepsWalks.setCell W _ v).size,fun k _ hk=>Below.heap_setCell _ _ _ k (fun e=>hk (by rw [e]))⟩
structure Rout (w W:World) (v:Value) (l:List Tm):Prop where
 row:W.ownsRow (w.heap.size+10) 68 2 v l.length (flatB l)
 below:Below w.heap.size w W
theorem Rout.step {w W W':World} {v:Value} {l:List Tm} {k:Nat} (h:Rout w W v l) (hg:W.grownBy W' (some k)) (h1:w.heap.size≤k) (h2:k<w.heap.size+10):Rout w W' v l:=by
 refine ⟨h.row.kept hg ?_,h.below.grown hg h.below.size (fun j e=>by cases e;exact h1)⟩
 cases hv:v.ownBlock with
 | none=>exact .inl rfl
 | some j=>have:=(h.row.lt j hv).1;exact .inr (by simp;omega)
theorem Rout.form {w W:World} {v:Value} {l:List Tm} (h:Rout w W v l):∃ ad cap,v = .slice ad l.length cap∧TsAt W (.slice ad l.length cap) l∧(ad=none→cap=0)∧∀ a,ad=some a→w.heap.size≤a.block:=by
 have h0:=h.row
 rcases h.row.2 with ⟨rfl,e0⟩ | ⟨g,cap,cur,rfl,_⟩
 · have hl:l=[]:=List.eq_nil_of_length_eq_zero e0
   subst hl
   exact ⟨none,0,rfl,TsAt.nil W none 0,fun _=>rfl,fun a e=>by cases e⟩
 · refine ⟨_,cap,rfl,terms_of_flat h0 rfl,(fun e=>by cases e),fun a e => ?_⟩
   cases e
   have:=(h0.lt g rfl).1
   dsimp only;omega
theorem Rdm.add {w W W':World} {st:RdSt} {v v':Value} {t:Tm} (h:Rdm w W st v) (hg:W.grownBy W' v.ownBlock) (hown:W'.ownsRow (w.heap.size+10) 68 2 v' (st.terms.length+1) (flatB st.terms++[.int .i64 t.1,.string t.2])) (hv:v'.ownBlock≠some (w.heap.size+1)) :
 Rdm w (W'.setCell ⟨w.heap.size+1,0,none⟩ v') ⟨st.neg,st.size,st.terms++[t]⟩ v':=by
 have hb:∀ k,v.ownBlock=some k→w.heap.size+10≤k:=fun k e=>(h.row.lt k e).1
 have h1:∀ k,k<w.heap.size+10→v.ownBlock≠some k:=fun k hk e=>by have:=hb k e;omega
 have hs:=grown_set W' (w.heap.size+1) 0 v'
 refine ⟨(h.b0.grown hg (h1 _ (by omega))).grown hs (by simp),?_,(h.b2.grown hg (h1 _ (by omega))).grown hs (by simp),(h.b3.grown hg (h1 _ (by omega))).grown hs (by simp),(h.b4.grown hg (h1 _ (by omega))).grown hs (by simp),?_,?_⟩
 · exact Bx.set0 (h.b1.grown hg (h1 _ (by omega))) v'
 · rw [flatB_snoc,List.length_append]
   refine World.ownsRow.kept hown hs ?_
   cases e:v'.ownBlock with
   | none=>exact .inl rfl
   | some k=>exact .inr (by rw [← e];exact hv)
 · exact (h.below.grown hg h.below.size (fun k e=>by have:=hb k e;omega)).setCell (by dsimp only;omega) _
theorem heap_alloc_at (W:World) (o:Obj) (k:Nat):(W.alloc o).heap[k]?=if k=W.heap.size then some o else W.heap[k]?:=by
 show (W.heap.push o)[k]?=_
 rw [Array.getElem?_push]
set_option maxRecDepth 100000 in
theorem read_start (w:World) (M:ByteArray) (b:Bool) (c:Value) (hc:c = .func (.func 102) #[] #[.pointer (some ⟨w.heap.size+1+1,0,none⟩)]) :
 let W:=(((((((w.alloc (.cells #[.slice none 0 0,.string ⟨#[]⟩] 24)).alloc (.cells #[.slice none 0 0,.string ⟨#[48]⟩] 24)).alloc (.cells #[.bool b] 4)).alloc (.cells #[.string ⟨#[]⟩] 9)).alloc (.cells #[c] 143)).alloc (.cells #[.string M] 9)).alloc (.cells #[.string ⟨#[32]⟩] 9)).alloc (.cells #[.int .i64 0] 3)
 Rdm w W ⟨b,⟨#[]⟩,[]⟩ (.slice none 0 0)∧Bo W (w.heap.size+5) (.string M)∧Bo W (w.heap.size+5+1) (.string ⟨#[32]⟩)∧Bo W (w.heap.size+5+1+1) (.int .i64 0):=by
 subst hc
 intro W
 refine ⟨⟨⟨24,?_⟩,⟨24,?_⟩,⟨4,?_⟩,⟨9,?_⟩,⟨143,?_⟩,?_,?_⟩,⟨9,?_⟩,⟨9,?_⟩,⟨3,?_⟩⟩ <;> subst W
 · simp only [heap_alloc_at,World.size_alloc];(repeat (first | refine (if_pos (by omega)).trans ?_ | refine (if_neg (by omega)).trans ?_));rfl
 · simp only [heap_alloc_at,World.size_alloc];(repeat (first | refine (if_pos (by omega)).trans ?_ | refine (if_neg (by omega)).trans ?_));rfl
 · simp only [heap_alloc_at,World.size_alloc];(repeat (first | refine (if_pos (by omega)).trans ?_ | refine (if_neg (by omega)).trans ?_));rfl
 · simp only [heap_alloc_at,World.size_alloc];(repeat (first | refine (if_pos (by omega)).trans ?_ | refine (if_neg (by omega)).trans ?_));rfl
 · simp only [heap_alloc_at,World.size_alloc];(repeat (first | refine (if_pos (by omega)).trans ?_ | refine (if_neg (by omega)).trans ?_));rfl
 · exact ⟨by simp [flatB],.inl ⟨rfl,rfl⟩⟩
 · repeat (refine Below.alloc ?_ (by simp <;> omega) _)
   exact Below.refl _ _
 · simp only [heap_alloc_at,World.size_alloc];(repeat (first | refine (if_pos (by omega)).trans ?_ | refine (if_neg (by omega)).trans ?_));rfl
 · simp only [heap_alloc_at,World.size_alloc];(repeat (first | refine (if_pos (by omega)).trans ?_ | refine (if_neg (by omega)).trans ?_));rfl
 · simp only [heap_alloc_at,World.size_alloc];(repeat (first | refine (if_pos (by omega)).trans ?_ | refine (if_neg (by omega)).trans ?_));rfl
theorem Rdm.three {w W:World} {st:RdSt} {v:Value} (h:Rdm w W st v) {sz:ByteArray} (hs:st.size=sz) {clo:Value} (hc:clo = .func (.func 102) #[] #[.pointer (some ⟨w.heap.size+1+1,0,none⟩)]) :
 W.cell? ⟨w.heap.size+1,0,none⟩=some v∧W.cell? ⟨w.heap.size+1+1+1,0,none⟩=some (.string sz)∧W.cell? ⟨w.heap.size+1+1+1+1,0,none⟩=some clo :=
 ⟨h.b1.cell.1,by rw [← hs];exact h.b3.cell.1,by rw [hc];exact h.b4.cell.1⟩
theorem orT_size {a b:ByteArray} {n:Nat} (ha:a.size≤n) (hb:b.size≤n):(orT a b).size≤n:=by
 unfold orT
 split
 · exact hb
 · exact ha
theorem Rdm.three_grown {w W W':World} {st:RdSt} {v:Value} (h:Rdm w W st v) (hg:W.grownBy W' v.ownBlock) {sz:ByteArray} (hs:st.size=sz) {clo:Value} (hc:clo = .func (.func 102) #[] #[.pointer (some ⟨w.heap.size+1+1,0,none⟩)]) :
 (W'.cell? ⟨w.heap.size+1,0,none⟩=some v∧W'.cell? ⟨w.heap.size+1+1+1,0,none⟩=some (.string sz)∧W'.cell? ⟨w.heap.size+1+1+1+1,0,none⟩=some clo)∧W'.frozen? ⟨w.heap.size+1,0,none⟩=false:=by
 have h1:∀ k,k<w.heap.size+10→v.ownBlock≠some k:=fun k hk e=>by have:=(h.row.lt k e).1;omega
 have hb:=h.b1.grown hg (h1 _ (by omega))
 exact ⟨⟨hb.cell.1,by rw [← hs];exact (h.b3.grown hg (h1 _ (by omega))).cell.1,by rw [hc];exact (h.b4.grown hg (h1 _ (by omega))).cell.1⟩,hb.cell.2.2.1⟩
theorem Rdm.keeps {w W W':World} {st:RdSt} {v:Value} (h:Rdm w W st v) (hg:W.grownBy W' v.ownBlock) (hW:w.heap.size+5+5≤W.heap.size):KeepsLoop (w.heap.size+5) W W':=fun k h1 h2 =>
 hg.block k (by omega) (fun e=>by have:=(h.row.lt k e.symm).1;omega)
end Go.Proofs.YtkhdocdddicgpaaGreatDoor
