/- Part 0: what the law's walk leans on. -/
import Derived.Test.YtkhdocdddicgpaaGreatDoorYt0
import Derived.Test.YtkhdocdddicgpaaGreatDoorYt1
import Derived.Test.YtkhdocdddicgpaaGreatDoorYt2
import Derived.Test.YtkhdocdddicgpaaGreatDoorYt3
import Derived.Test.YtkhdocdddicgpaaGreatDoorYt4
import Derived.Test.YtkhdocdddicgpaaGreatDoorYt5
import Derived.Test.YtkhdocdddicgpaaGreatDoorYt6
import Derived.Test.YtkhdocdddicgpaaGreatDoorYt7
import Derived.Test.YtkhdocdddicgpaaGreatDoorYt8
import Derived.Test.YtkhdocdddicgpaaGreatDoorYt9
import Derived.Test.YtkhdocdddicgpaaGreatDoorYt10
import Derived.Test.YtkhdocdddicgpaaGreatDoorYt11
import Derived.Test.YtkhdocdddicgpaaGreatDoorYt12
import Derived.Test.YtkhdocdddicgpaaGreatDoorYt13
import Derived.Test.YtkhdocdddicgpaaGreatDoorYt14
import Derived.Test.YtkhdocdddicgpaaGreatDoorYt15
import Derived.Test.YtkhdocdddicgpaaGreatDoorYt16
import Derived.Test.YtkhdocdddicgpaaGreatDoorYt17
import Derived.Test.YtkhdocdddicgpaaGreatDoorYt18
import Derived.Test.YtkhdocdddicgpaaGreatDoorYt19
import Derived.Test.YtkhdocdddicgpaaGreatDoorYt20
import Derived.Test.YtkhdocdddicgpaaGreatDoorYt21
import Derived.Test.YtkhdocdddicgpaaGreatDoorYt22
import Derived.Test.YtkhdocdddicgpaaGreatDoorYt23
import Derived.Test.YtkhdocdddicgpaaGreatDoorYt24
import Derived.Test.YtkhdocdddicgpaaGreatDoorYt25
import Derived.Test.YtkhdocdddicgpaaGreatDoorYt26
import Derived.Test.YtkhdocdddicgpaaGreatDoorYt27
import Derived.Test.YtkhdocdddicgpaaGreatDoorYt28
import Derived.Test.YtkhdocdddicgpaaGreatDoorYt29
import Derived.Test.YtkhdocdddicgpaaGreatDoorYt30
import Derived.WalkKit
import Derived.Deep.QuietTactic
import Derived.BigQuiet
import Derived.Lib.ItoaNum
import Derived.Test.YtkhdocdddicgpaaGreatDoorProg
import Derived.WalkSpells
import Derived.WalkLawsBesides
import Derived.IntWalk
import Derived.LoopTactic
import Derived.Lib.Hide
import Derived.Laws.CopyOwn
import Derived.StillTailTactics
import Derived.Deep.RegionHeld3
import Derived.Lib.AppendStr
import Derived.Lib.SliceRun
import Derived.Shelf.Small.Wraps
import Derived.Shelf.Strconv.Itoa4
import Derived.Shelf.Strconv.ErrVarAll
import Derived.Shelf.Strconv.ParseIntPublic10
import Derived.Shelf.Strings.Shaped
import Derived.Shelf.Strconv.AppendInt10
import Derived.Shelf.Bits.Mul64
import Derived.Lib.AtoiErrMem
import Derived.Lib.AppendIntMem
import Derived.Lib.SmallJoins
import Derived.Lib.ItoaLen
import Derived.Laws.IdiomStrings
import Derived.Lib.IndexMore
import Derived.Lib.IndexBytes
import Derived.Lib.IndexLaws
import Derived.Deep.Cut
import Derived.Deep.CutRange
import Derived.Deep.DeepCutAuto
import Derived.Deep.LoopGhost
import Derived.Deep.RegionWith
import Derived.RegionTactic
import Derived.Maps.OwnSet
import Derived.Maps.RangeWalk
import Derived.Maps.StringElems
import Derived.Sort.Statements
import Derived.Shelf.SlGeneric
import Derived.Shelf.SlicesQ.IndexFunc
import Derived.Ground.SlgfProg
import Derived.Shelf.SlSortCmp.WholeK
import Derived.Ground.SlsfProg
import Derived.Lib.OwnBridge
import Derived.Lib.AppendZeros
import Derived.Laws.AppendOwnNone
import Derived.Shelf.Strings.BuilderX
import Derived.Lib.Strings
import Derived.Lib.Slices
import Derived.Lib.Walk
import Derived.Lib.Builder
import Derived.Lib.UnsafeStr
import Derived.Laws.Externs
import Derived.Laws.IdiomCopy
import Derived.Shelf.Strings.BuilderK
import Derived.Laws.Concat
import Derived.RangeFuncNested
import Derived.RangeFuncBound
import Derived.RangeFuncCalls
import Derived.RangeFuncLeaves
import Derived.Shelf.Abstract
import Derived.Shelf.RegionOpen
import Derived.OwnWalkIn
import Derived.TacticsInMore
import Derived.LoopNIn
import Derived.LoopIn
import Derived.Maps.OwnIn
import Derived.Maps.AppendAt
import Derived.RangeFuncBox
import Derived.OrdersIn
import Derived.Deep.RegionHeld
import Derived.Laws.EntriesVeiled
import Derived.Deep.AppendLies
import Derived.Laws.AppendOwn
set_option linter.unusedVariables false
set_option linter.unusedSimpArgs false
namespace Go.Proofs.YtkhdocdddicgpaaGreatDoor
open Go.RowKit Go.Maps Go.Shelf _root_.Go.Proofs.YtkhdocdddicgpaaGreatDoor.Nm
attribute [local go_sem] Oper.semAt_some
end Go.Proofs.YtkhdocdddicgpaaGreatDoor
set_option linter.unusedVariables false
set_option linter.unusedSimpArgs false
namespace Go.Proofs.YtkhdocdddicgpaaGreatDoor
open Go.RowKit Go.Maps _root_.Go.Proofs.YtkhdocdddicgpaaGreatDoor.Nm
theorem not_text {l:List UInt8} {qc:Rat} {q:List Qm} {t:ByteArray} {ec:Int} (h:¬ ∃ qc q,TextOf l qc q) (hr:readF l=(txt qc,tms q)) (hf:Fo q) (hs:rshort qc=true) (ht:if 65536<(formT qc q).length then t=⟨#[]⟩∧ec=5 else t=⟨(formT qc q).toArray⟩∧ec=0) :
 ec=5∨(ec=0∧(t.toList==l)=false):=by
 split at ht
 · exact .inl ht.2
 · refine .inr ⟨ht.2,?_⟩
   cases hb:(t.toList==l) with
   | false=>rfl
   | true =>
    have e:t.toList=l:=by simpa using hb
    rw [Lib.toList_data,ht.1] at e
    exact absurd ⟨qc,q,hr,hf,hs,e⟩ h
set_option maxRecDepth 100000 in
set_option maxHeartbeats 3200000 in
theorem Parse_bad (s:ByteArray) (w:World) (h:¬ ∃ qc q,TextOf s.data.toList qc q) (hin:ReadIn s.data.toList) (hs:s.size≤65536) (htab:Tab w) (he:Ers w) :
 Calls Tryz.prog 29 #[.string s] w (FormErr 4 w):=by
 have hsz:¬ (65536:Int)<s.size:=by omega
 obtain ⟨i1,i2,i3⟩:=hin
 obtain ⟨x,l,hr⟩:∃ x l,readF s.data.toList=(x,l):=⟨_,_,rfl⟩
 rw [hr] at i1 i2 i3
 have HR:=Lib.hid hr
 have HH:=Lib.hid h
 have HI:=Lib.hid (And.intro i1 (And.intro i2 i3))
 have HT:=Lib.hid htab
 have hA:=(Below.refl w.heap.size w).alloc (Nat.le_refl _) (.cells #[.slice none 0 0,.string ⟨#[]⟩] 24)
 have HE:=Lib.hid (he.keep hA (Nat.le_refl _))
 have HW:=Lib.hid hA
 have HB:=Lib.hid (Bx.new w (.slice none 0 0) (.string ⟨#[]⟩) 24)
 clear h hr i1 i2 i3 htab he hA
 go_enter Tryz.func29,Tryz.ntmps29
 go_wp2_with fail
 refine (fread_any s _ (by omega) HE.out).mono ?_
 rintro e w1 ⟨⟨ad,n,cap,rfl,hts,hnone,hfr⟩,hb⟩
 rw [HR.out] at hts
 rw [HR.out]
 have hv:InF w1 ad n cap x l:=⟨hts,HI.out.1,HI.out.2.1,HI.out.2.2,hnone⟩
 have hC:Below w1.heap.size w1 (w1.alloc (.cells #[.slice ad n cap,.string x] 24)):=(Below.refl _ w1).alloc (Nat.le_refl _) _
 have HB1:=Lib.hid ((HB.out.below hb HB.out.lt).below hC (HB.out.below hb HB.out.lt).lt)
 have HB2:=Lib.hid (Bx.new w1 (.slice ad n cap) (.string x) 24)
 have HV:=Lib.hid (hv.keep hC (Nat.le_refl _))
 have HW1:=Lib.hid (HW.out.trans ((hb.trans (hC.mono hb.size)).mono HW.out.size))
 obtain ⟨a0,a1,a2,a3⟩:=HB2.out.cell
 dsimp only
 clear hts hnone hv hC hb hfr
 go_wp2_with fail
 by_cases hc:checkErr x l=0
 · obtain ⟨qc,q,rfl,hvq⟩:=HV.out.valid hc
   have hrq:=HR.out
   rw [← hvq.is_] at hrq
   obtain ⟨t,ec,hte⟩:∃ (t:ByteArray) (ec:Int),if 65536<(formT qc q).length then t=⟨#[]⟩∧ec=5 else t=⟨(formT qc q).toArray⟩∧ec=0:=by
    by_cases h:65536<(formT qc q).length
    · exact ⟨⟨#[]⟩,5,by rw [if_pos h];exact ⟨rfl,rfl⟩⟩
    · exact ⟨_,0,by rw [if_neg h];exact ⟨rfl,rfl⟩⟩
   have HNT:=Lib.hid (not_text HH.out hrq hvq.fo hvq.short hte)
   have HTE:=Lib.hid hte
   refine (Text_good qc x ad n cap q t ec _ hvq (tab_keep HT.out HW1.out) HTE).mono ?_
   rintro e w2 ⟨rfl,hb⟩
   have HB3:=Lib.hid (HB1.out.below hb HB1.out.lt)
   have HW2:=Lib.hid (HW1.out.trans (hb.mono HW1.out.size))
   clear hb a0 a1 a2 a3 hte hrq hvq hc
   obtain ⟨a0,a1,a2,a3⟩:=HB3.out.cell
   obtain ⟨d0,d1,d2,d3⟩:=(HB3.out.store (.slice none 0 0) (.string ⟨#[]⟩)).cell
   rcases HNT.out with rfl | ⟨rfl,htl⟩
   · go_wp2
     refine bodyPost_ret (v := .tuple #[.agg #[.slice none 0 0,.string ⟨#[]⟩],.int .i64 4]) (by simp only [results,Tryz.results29];simp [go_sem,d0,d1]) rfl ?_
     exact ⟨(HW2.out.setCell (Nat.le_refl _) _).setCell (Nat.le_refl _) _,rfl⟩
   · rw [← Lib.toList_data] at htl
     go_wp2
     refine bodyPost_ret (v := .tuple #[.agg #[.slice none 0 0,.string ⟨#[]⟩],.int .i64 4]) (by simp only [results,Tryz.results29];simp [go_sem,d0,d1]) rfl ?_
     exact ⟨(HW2.out.setCell (Nat.le_refl _) _).setCell (Nat.le_refl _) _,rfl⟩
 · refine (Text_bad x ad n cap l _ HV.out hc).mono ?_
   rintro e w2 ⟨rfl,hb⟩
   have HB3:=Lib.hid (HB1.out.below hb HB1.out.lt)
   have HW2:=Lib.hid (HW1.out.trans (hb.mono HW1.out.size))
   clear hb a0 a1 a2 a3 hc
   obtain ⟨a0,a1,a2,a3⟩:=HB3.out.cell
   obtain ⟨d0,d1,d2,d3⟩:=(HB3.out.store (.slice none 0 0) (.string ⟨#[]⟩)).cell
   go_wp2
   refine bodyPost_ret (v := .tuple #[.agg #[.slice none 0 0,.string ⟨#[]⟩],.int .i64 4]) (by simp only [results,Tryz.results29];simp [go_sem,d0,d1]) rfl ?_
   exact ⟨(HW2.out.setCell (Nat.le_refl _) _).setCell (Nat.le_refl _) _,rfl⟩
end Go.Proofs.YtkhdocdddicgpaaGreatDoor
set_option linter.unusedVariables false
set_option linter.unusedSimpArgs false
namespace Go.Proofs.YtkhdocdddicgpaaGreatDoor
open Go.RowKit Go.Maps _root_.Go.Proofs.YtkhdocdddicgpaaGreatDoor.Nm
end Go.Proofs.YtkhdocdddicgpaaGreatDoor
set_option linter.unusedVariables false
set_option linter.unusedSimpArgs false
namespace Go.Proofs.YtkhdocdddicgpaaGreatDoor
open Go.RowKit Go.Maps _root_.Go.Proofs.YtkhdocdddicgpaaGreatDoor.Nm
theorem row_below {W W':World} {B n:Nat} {E:TypeId} {z:Nat} {v:Value} {xs:List Value} (h:W.ownsRow B E z v n xs) (hb:Below W.heap.size W W'):W'.ownsRow B E z v n xs :=
 h.kept (grown_of hb none) (by cases v.ownBlock <;> simp)
end Go.Proofs.YtkhdocdddicgpaaGreatDoor
set_option linter.unusedVariables false
set_option linter.unusedSimpArgs false
namespace Go.Proofs.YtkhdocdddicgpaaGreatDoor
open Go.RowKit Go.Maps _root_.Go.Proofs.YtkhdocdddicgpaaGreatDoor.Nm
def colW (s:List UInt8):Int:=match s with
 | [] => -1
 | c::r=>if c=120∧1≤r.length∧r.length≤5∧r.all isDig=true then (tv r:Int) else -1
def rsw (s x:List UInt8) (ws:List (List UInt8)) (c:List UInt8) (l:List Tm):List (List UInt8) × List UInt8 × List Tm :=
 if 0≤colW x then (ws,c,l++[(colW x,⟨(s++[49]).toArray⟩)]) else match ws with
  | []=>([],s++x,l)
  | y::ws'=>if 0≤colW y then (ws',c,l++[(colW y,⟨(s++x).toArray⟩)]) else (y::ws',s++x,l)
theorem rsw_length (s x:List UInt8) (ws:List (List UInt8)) (c:List UInt8) (l:List Tm):(rsw s x ws c l).1.length≤ws.length:=by
 unfold rsw
 split
 · exact Nat.le_refl _
 · split
   · exact Nat.le_refl _
   · split
     · simp
     · simp
def rsgn (g:List UInt8):List UInt8:=if g=[45] then [45] else []
def rgo (ws:List (List UInt8)) (c:List UInt8) (l:List Tm):Option (List UInt8 × List Tm):=match ws with
 | []=>some (c,l)
 | [_]=>none
 | g::x::ws=>rgo (rsw (rsgn g) x ws c l).1 (rsw (rsgn g) x ws c l).2.1 (rsw (rsgn g) x ws c l).2.2
termination_by ws.length
decreasing_by have:=rsw_length (rsgn g) x ws c l;simp;omega
def rfirst (ws:List (List UInt8)):Option (List UInt8 × List Tm):=match ws with
 | []=>some ([48],[])
 | x::ws=>rgo (rsw (if x.head?=some 45 then [45] else []) (if x.head?=some 45 then x.drop 1 else x) ws [48] []).1 (rsw (if x.head?=some 45 then [45] else []) (if x.head?=some 45 then x.drop 1 else x) ws [48] []).2.1 (rsw (if x.head?=some 45 then [45] else []) (if x.head?=some 45 then x.drop 1 else x) ws [48] []).2.2
theorem rgo_nil (c:List UInt8) (l:List Tm):rgo [] c l=some (c,l):=by unfold rgo;rfl
theorem rgo_one (g c:List UInt8) (l:List Tm):rgo [g] c l=none:=by unfold rgo;rfl
theorem rgo_two (g x:List UInt8) (ws:List (List UInt8)) (c:List UInt8) (l:List Tm):rgo (g::x::ws) c l=rgo (rsw (rsgn g) x ws c l).1 (rsw (rsgn g) x ws c l).2.1 (rsw (rsgn g) x ws c l).2.2:=by
 rw [rgo]
theorem NumTx.col {l m:List UInt8} {n:Bool} (h:NumTx l m n):colW m = -1:=by
 obtain ⟨d,t,rfl,hd⟩:=h.head
 unfold colW
 dsimp only
 rw [if_neg]
 rintro ⟨rfl,_⟩
 revert hd;decide
theorem col_name {c:Int} (h:ColIn c):colW (nameT c)=c:=by
 rw [name_eq h]
 have h1:(Lib.decDigits c.toNat).length≤5:=by
  have h2:=itoa_col h
  unfold Lib.itoa at h2
  rw [if_neg (by have:=h.1;omega)] at h2
  omega
 have h2:1≤(Lib.decDigits c.toNat).length:=by
  obtain ⟨x,r,e,_⟩:=dec_cons c.toNat
  rw [e];simp
 unfold colW
 simp only
 rw [if_pos ⟨trivial,h2,h1,dec_all _⟩,tv_dec]
 have:=h.1
 omega
theorem rsw_term (p:Qm) (hc:ColIn p.1) {m:List UInt8} {n:Bool} (h:NumTx (rt p.2) m n) (W:List (List UInt8)) (c:List UInt8) (l:List Tm) :
 ∃ x ws,termW p++W=x::ws∧x.head?≠some 45∧rsw (if n=true then [45] else []) x ws c l=(W,c,l++[(p.1,txt p.2)]):=by
 have h0:=hc.1
 have ht:(if n=true then [45] else [])++m=rt p.2:=by
  have:=h.eq
  cases n <;> simp_all
 unfold termW
 rw [h.mag]
 split
 · next e =>
   refine ⟨nameT p.1,W,rfl,by unfold nameT;simp,?_⟩
   unfold rsw
   rw [col_name hc,if_pos h0, ← e,ht];rfl
 · refine ⟨m,nameT p.1::W,rfl,?_,?_⟩
   · obtain ⟨d,t,rfl,hd⟩:=h.head
     simp only [List.head?_cons,ne_eq,Option.some.injEq]
     rintro rfl;revert hd;decide
   · unfold rsw
     rw [h.col,if_neg (by omega)]
     dsimp only
     rw [col_name hc,if_pos h0,ht];rfl
theorem rgo_rest (qc:Rat):∀ (q:List Qm),(∀ p∈q,ColIn p.1)→∀ (c:List UInt8) (l:List Tm),rgo (restW qc q) c l=some (if rt qc=[48] then c else rt qc,l++tms q)
 | [],_,c,l=>by
  unfold restW
  split
  · rw [rgo_nil,show tms []=[] from rfl,List.append_nil]
  · obtain ⟨m,n,h⟩:=rt_numTx qc
    rw [h.mag,h.neg,rgo_two]
    have ht:(if n=true then [45] else [])++m=rt qc:=by
     have:=h.eq
     cases n <;> simp_all
    have hs:rsgn (sgnW n)=if n=true then [45] else []:=by unfold rsgn sgnW;cases n <;> simp
    rw [hs]
    unfold rsw
    rw [h.col,if_neg (by omega)]
    dsimp only
    rw [rgo_nil,ht,show tms []=[] from rfl,List.append_nil]
 | p::q,hq,c,l=>by
  obtain ⟨m,n,h⟩:=rt_numTx p.2
  obtain ⟨x,ws,e,_,hr⟩:=rsw_term p (hq p (by simp)) h (restW qc q) c l
  have hs:rsgn (sgnW n)=if n=true then [45] else []:=by unfold rsgn sgnW;cases n <;> simp
  unfold restW
  rw [e,rgo_two,h.neg,hs,hr]
  dsimp only
  rw [rgo_rest qc q (fun x hx=>hq x (by simp [hx])),List.append_assoc];rfl
theorem first_words (p:Qm) (hc:ColIn p.1) (n:Bool) (W:List (List UInt8)) {t:List UInt8} (h:splitW (bodyT (magT (rt p.2)) (nameT p.1)++t)=termW p++W) {x:List UInt8} {ws:List (List UInt8)} (e:termW p++W=x::ws) :
 splitW (sgnT n true++(bodyT (magT (rt p.2)) (nameT p.1)++t))=((if n=true then [45] else [])++x)::ws:=by
 cases n with
 | false=>rw [show sgnT false true=[] from rfl,List.nil_append,h,e];rfl
 | true =>
  show splitW (45::(bodyT (magT (rt p.2)) (nameT p.1)++t))=_
  rw [splitW,if_neg (by decide),h,e]
  rfl
theorem rfirst_form {qc:Rat} {q:List Qm} (hq:∀ p∈q,ColIn p.1):rfirst (splitW (formT qc q))=some (rt qc,tms q):=by
 cases q with
 | nil =>
  obtain ⟨m,n,h⟩:=rt_numTx qc
  rw [show formT qc []=rt qc from rfl]
  have hsp:(32:UInt8)∉rt qc:=by
   rw [h.eq]
   cases n with
   | true=>simp only [if_true,List.mem_cons,not_or];exact ⟨by decide,h.space⟩
   | false=>simpa using h.space
  rw [splitW_none _ hsp]
  have h1:(if (rt qc).head?=some 45 then ([45]:List UInt8) else [])=(if n=true then [45] else [])∧(if (rt qc).head?=some 45 then (rt qc).drop 1 else rt qc)=m:=by
   rw [h.eq]
   cases n with
   | true=>simp
   | false =>
    obtain ⟨d,t,rfl,hd⟩:=h.head
    have:d≠45:=by rintro rfl;revert hd;decide
    simp [this]
  unfold rfirst
  dsimp only
  rw [h1.1,h1.2]
  unfold rsw
  rw [h.col,if_neg (by omega)]
  dsimp only
  rw [rgo_nil,show tms []=[] from rfl]
  have ht:(if n=true then [45] else [])++m=rt qc:=by
   have:=h.eq
   cases n <;> simp_all
  rw [ht]
 | cons p q =>
  have hq':∀ x∈q,ColIn x.1:=fun x hx=>hq x (by simp [hx])
  have hc:=hq p (by simp)
  have hb:=body_words p hc (rest_words qc q hq')
  obtain ⟨m,n,h⟩:=rt_numTx p.2
  obtain ⟨x,ws,e,hx,hr⟩:=rsw_term p hc h (restW qc q) [48] []
  rw [form_cons]
  unfold partT
  rw [List.append_assoc,h.neg,first_words p hc n _ hb e]
  have h1:(if ((if n=true then [45] else [])++x).head?=some 45 then ([45]:List UInt8) else [])=(if n=true then [45] else [])∧(if ((if n=true then [45] else [])++x).head?=some 45 then ((if n=true then [45] else [])++x).drop 1 else (if n=true then [45] else [])++x)=x:=by
   cases n with
   | true=>simp
   | false=>simp [hx]
  unfold rfirst
  dsimp only
  rw [h1.1,h1.2,hr]
  dsimp only
  rw [rgo_rest qc q hq',List.nil_append]
  congr 2
  split
  · next e=>exact e.symm
  · rfl
end Go.Proofs.YtkhdocdddicgpaaGreatDoor
set_option linter.unusedVariables false
set_option linter.unusedSimpArgs false
namespace Go.Proofs.YtkhdocdddicgpaaGreatDoor
open Go.RowKit Go.Maps _root_.Go.Proofs.YtkhdocdddicgpaaGreatDoor.Nm
def toB (l:List UInt8):ByteArray:=⟨l.toArray⟩
theorem ext_part (s:ByteArray) (f k:Nat) (hk:k≤s.size) (hf:f≤k):s.extract f k=toB ((s.data.toList.drop f).take (k-f)):=by
 apply ByteArray.ext
 rw [ByteArray.data_extract]
 apply Array.ext'
 simp [toB,Array.toList_extract,List.extract]
theorem stringInfo:(Tryz.prog.info? 9).map (fun i=>(i.zero,i.size,i.bytes))=some (some (.string ⟨#[]⟩),1,16):=by kernel_rfl
theorem strs_row {W:World} {B n:Nat} {v:Value} {l:List ByteArray} (h:W.ownsRow B 9 1 v n (l.map Value.string)) (hn:n=l.length):∃ ad cap,v = .slice ad n cap∧SsAt W (.slice ad n cap) l:=by
 obtain ⟨h1,h2⟩:=h
 rcases h2 with ⟨h,h0⟩ | ⟨g,cap,cur,h3,h4,h5,h6,h7,h8,h9⟩
 · exact ⟨none,0,by rw [h,h0],_,_,_,rfl,hn,.inl h0⟩
 · refine ⟨_,cap,h3,_,_,_,rfl,hn,.inr ⟨g,0,rfl,(Array.getElem?_eq_some_iff.1 h5).1,fun i hi => ?_⟩⟩
   have hcur:cur[i]?=(l.map Value.string)[i]?:=by
    rw [← h9,List.getElem?_take,if_pos (by omega)];simp
   simp only [World.cell?,h5]
   rw [Nat.zero_add]
   simpa [hi] using hcur
def WdAt (L:List UInt8) (k f:Nat) (ws:List (List UInt8)):Prop :=
 (k≤L.length∧f≤k∧splitW L=ws++splitW (L.drop f)∧(32:UInt8)∉(L.drop f).take (k-f))∨(k=L.length+1∧f=k∧ws=splitW L)
theorem WdAt.start (L:List UInt8):WdAt L 0 0 [] := .inl ⟨Nat.zero_le _,Nat.le_refl _,rfl,by simp⟩
theorem WdAt.last {L:List UInt8} {f:Nat} {ws:List (List UInt8)} (h:WdAt L L.length f ws):f≤L.length∧WdAt L (L.length+1) (L.length+1) (ws++[(L.drop f).take (L.length-f)]):=by
 rcases h with ⟨_,h2,h3,h4⟩ | ⟨h1,_⟩
 · refine ⟨h2,.inr ⟨rfl,rfl,?_⟩⟩
   have e:(L.drop f).take (L.length-f)=L.drop f:=List.take_of_length_le (by rw [List.length_drop];exact Nat.le_refl _)
   rw [e] at h4 ⊢
   rw [h3,splitW_none _ h4]
 · omega
theorem WdAt.space {L:List UInt8} {k f:Nat} {ws:List (List UInt8)} (h:WdAt L k f ws) (hk:k<L.length) (hc:L[k]=32):f≤k∧WdAt L (k+1) (k+1) (ws++[(L.drop f).take (k-f)]):=by
 rcases h with ⟨h1,h2,h3,h4⟩ | ⟨h1,_⟩
 · refine ⟨h2,.inl ⟨hk,Nat.le_refl _,?_,by simp⟩⟩
   have e:L.drop f=(L.drop f).take (k-f)++32::L.drop (k+1):=by
    have h5:(L.drop f).drop (k-f)=32::L.drop (k+1):=by
     rw [List.drop_drop,show f+(k-f)=k from by omega,List.drop_eq_getElem_cons hk,hc]
    rw [← h5,List.take_append_drop]
   rw [h3,List.append_assoc]
   congr 1
   rw [e,splitW_some _ _ h4, ← e]
   simp
 · omega
theorem WdAt.more {L:List UInt8} {k f:Nat} {ws:List (List UInt8)} (h:WdAt L k f ws) (hk:k<L.length) (hc:L[k]≠32):WdAt L (k+1) f ws:=by
 rcases h with ⟨h1,h2,h3,h4⟩ | ⟨h1,_⟩
 · refine .inl ⟨hk,by omega,h3,?_⟩
   rw [show k+1-f=(k-f)+1 from by omega]
   have hl:k-f<(L.drop f).length:=by rw [List.length_drop];omega
   rw [List.take_succ_eq_append_getElem hl]
   intro hm
   rcases List.mem_append.1 hm with h | h
   · exact h4 h
   · have e:(L.drop f)[k-f]=L[k]:=by rw [List.getElem_drop];congr 1;omega
     rw [List.mem_singleton,e] at h
     exact hc h.symm
 · omega
theorem WdAt.len {L:List UInt8} {k f:Nat} {ws:List (List UInt8)} (h:WdAt L k f ws):ws.length≤L.length+1∧f≤L.length+1:=by
 rcases h with ⟨h1,h2,h3,_⟩ | ⟨h1,h2,h3⟩
 · have h5:=splitW_length L
   rw [h3,List.length_append] at h5
   omega
 · have h5:=splitW_length L
   rw [h3]
   omega
set_option maxRecDepth 100000 in
set_option maxHeartbeats 6400000 in
theorem gWords_any (s:ByteArray) (w:World) (hs:s.size≤1000) :
 Calls Tryz.prog 67 #[.string s] w fun e w'=>(∃ ad n cap,e = .returned (.slice ad n cap)∧SsAt w' (.slice ad n cap) ((splitW s.data.toList).map toB))∧Below w.heap.size w w':=by
 have hL:s.data.toList.length=s.size:=Array.length_toList
 have HLN:=Lib.hid (And.intro trivial hL)
 clear hL
 go_enter Tryz.func67,Tryz.ntmps67
 go_wp2
 go_loopw [3,4,5] (fun v fv i wr=>∃ (k f:Nat) (v':Value) (ws:List (List UInt8)),k≤s.size+1∧f≤k∧v'=v∧fv = .int .i64 f∧i = .int .i64 k∧Hid (WdAt s.data.toList k f ws)∧Hid (wr.ownsRow w.heap.size 9 1 v' ws.length (ws.map fun x=>Value.string (toB x)))∧Hid (Below w.heap.size w wr)) (fun _ _ i _=>s.size+1-(intOf i).toNat)
 case atStart=>exact ⟨0,0,.slice none 0 0,[],by omega,Nat.le_refl _,rfl,rfl,rfl,Lib.hid (WdAt.start _),Lib.hid ⟨rfl,.inl ⟨rfl,rfl⟩⟩,Lib.hid (Below.refl _ _)⟩
 case round =>
  obtain ⟨k,f,v,ws,hk,hf,rfl,rfl,rfl,HD,HROW,HW⟩:=hrel
  by_cases hlt:k<s.size
  · have hkl:k<s.data.toList.length:=by rw [HLN.out.2];exact hlt
    have h1:(0:Int)≤k:=by omega
    have h2:(k:Int)<s.size:=by omega
    have h3:(0:Int)≤f:=by omega
    have h4:(f:Int)≤k:=by omega
    have h5:(k:Int)≤s.size:=by omega
    have h6:((k:Int)==s.size)=false:=by
     show decide ((k:Int)=s.size)=false
     exact decide_eq_false (by omega)
    have hgl:s.data.toList[k]=s[k]:=by simp;rfl
    have HKS:Hid (True∧k≤s.size):=Lib.hid ⟨trivial,by omega⟩
    by_cases hc:s[k]=32
    · have hb:((s[k].toNat:Int)==32)=true:=by rw [hc];rfl
      have HD2:=Lib.hid (HD.out.space hkl (hgl.trans hc)).2
      clear hc hgl
      have hA4:=(Below.refl wr.heap.size wr).alloc (Nat.le_refl _) (.cells #[.string (s.extract f k)] 9)
      have HROW4:=Lib.hid (row_below HROW.out hA4)
      have HW4:=Lib.hid (HW.out.trans (hA4.mono HW.out.size))
      have hnew:∀ (j:Nat) (u:Value),[Value.string (s.extract f k)][j]?=some u→(wr.alloc (.cells #[.string (s.extract f k)] 9)).cell? ((⟨wr.heap.size,0,none⟩:Addr).add j)=some u:=by
       intro j u h
       match j with
       | 0 =>
        have e:Value.string (s.extract f k)=u:=by simpa using h
        subst e
        exact cell_lit wr #[.string (s.extract f k)] 9 0 _ rfl
       | j+1=>simp at h
      have HNEW:=Lib.hid hnew
      have hwl:ws.length≤1001:=by have h7:=HD.out.len.1;have h8:=HLN.out.2;omega
      have HWL:=Lib.hid (And.intro trivial hwl)
      have hbase:w.heap.size≤wr.heap.size:=HW.out.size
      obtain ⟨i0,hi,hz0,hz1,hz2⟩:=info_parts stringInfo
      have HI:=Lib.hid (And.intro hi (And.intro hz0 (And.intro hz1 hz2)))
      clear hA4 hnew hwl hi hz0 hz1 hz2
      go_wp2_with (first | (at_builtin;refine wpList_append_own _ rfl _ _ 48 rfl w.heap.size 9 i0 (.string ⟨#[]⟩) 1 16 Tryz.underlying48 HI.out.1 HI.out.2.1 HI.out.2.2.1 HI.out.2.2.2 rfl (by decide) _ _ _ rfl HROW4.out _ 1 1 [.string (s.extract f k)] rfl rfl HNEW.out (by simp [Value.oneCell']) (by have:=HWL.out.2;unfold maxLen;omega) (by have:=HWL.out.2;omega) (by simp;omega) ?_;intro v5 w5 hown hgrow hnil;refine hold ?_))
      have HROW5:Hid (w5.ownsRow w.heap.size 9 1 v5 (ws++[(s.data.toList.drop f).take (k-f)]).length ((ws++[(s.data.toList.drop f).take (k-f)]).map fun x=>Value.string (toB x))):=Lib.hid (by
       rw [List.map_append,List.length_append]
       have e:[Value.string (s.extract f k)]=[(s.data.toList.drop f).take (k-f)].map fun x=>Value.string (toB x):=by
        rw [List.map_singleton,ext_part s f k HKS.out.2 hf]
       rw [← e]
       exact hown)
      have HW5:=Lib.hid (HW4.out.grown hgrow HW4.out.size (fun j e=>(HROW4.out.lt j e).1))
      clear hown hgrow hnil
      refine go_on ?_
      go_wp2
      go_roundw
      case rel=>exact ⟨k+1,k+1,v5,ws++[(s.data.toList.drop f).take (k-f)],by omega,Nat.le_refl _,rfl,by go_num,by go_num,HD2,HROW5,HW5⟩
      case measure=>simp [intOf];omega
    · have hb:((s[k].toNat:Int)==32)=false:=by
       have:s[k].toNat≠32:=fun e=>hc (UInt8.toNat_inj.1 e)
       show decide ((s[k].toNat:Int)=32)=false
       exact decide_eq_false (by omega)
      have HD2:=Lib.hid (HD.out.more hkl (fun e=>hc (hgl.symm.trans e)))
      clear hc hgl
      go_wp2
      go_roundw
      case rel=>exact ⟨k+1,f,v,ws,by omega,by omega,rfl,rfl,by go_num,HD2,HROW,HW⟩
      case measure=>simp [intOf];omega
  · by_cases hend:k=s.size
    · have HE:=Lib.hid (And.intro trivial hend)
      have h1:(0:Int)≤k:=by omega
      have h3:(0:Int)≤f:=by omega
      have h4:(f:Int)≤k:=by omega
      have h5:(k:Int)≤s.size:=by omega
      have h6:((k:Int)==s.size)=true:=by
       show decide ((k:Int)=s.size)=true
       exact decide_eq_true (by omega)
      have HKS:Hid (True∧k≤s.size):=Lib.hid ⟨trivial,by omega⟩
      have HD2:Hid (WdAt s.data.toList (k+1) (k+1) (ws++[(s.data.toList.drop f).take (k-f)])):=Lib.hid (by
       have h:=HD.out
       rw [hend, ← HLN.out.2] at h ⊢
       exact h.last.2)
      clear hend
      have hA4:=(Below.refl wr.heap.size wr).alloc (Nat.le_refl _) (.cells #[.string (s.extract f k)] 9)
      have HROW4:=Lib.hid (row_below HROW.out hA4)
      have HW4:=Lib.hid (HW.out.trans (hA4.mono HW.out.size))
      have hnew:∀ (j:Nat) (u:Value),[Value.string (s.extract f k)][j]?=some u→(wr.alloc (.cells #[.string (s.extract f k)] 9)).cell? ((⟨wr.heap.size,0,none⟩:Addr).add j)=some u:=by
       intro j u h
       match j with
       | 0 =>
        have e:Value.string (s.extract f k)=u:=by simpa using h
        subst e
        exact cell_lit wr #[.string (s.extract f k)] 9 0 _ rfl
       | j+1=>simp at h
      have HNEW:=Lib.hid hnew
      have hwl:ws.length≤1001:=by have h7:=HD.out.len.1;have h8:=HLN.out.2;omega
      have HWL:=Lib.hid (And.intro trivial hwl)
      have hbase:w.heap.size≤wr.heap.size:=HW.out.size
      obtain ⟨i0,hi,hz0,hz1,hz2⟩:=info_parts stringInfo
      have HI:=Lib.hid (And.intro hi (And.intro hz0 (And.intro hz1 hz2)))
      clear hA4 hnew hwl hi hz0 hz1 hz2
      go_wp2_with (first | (at_builtin;refine wpList_append_own _ rfl _ _ 48 rfl w.heap.size 9 i0 (.string ⟨#[]⟩) 1 16 Tryz.underlying48 HI.out.1 HI.out.2.1 HI.out.2.2.1 HI.out.2.2.2 rfl (by decide) _ _ _ rfl HROW4.out _ 1 1 [.string (s.extract f k)] rfl rfl HNEW.out (by simp [Value.oneCell']) (by have:=HWL.out.2;unfold maxLen;omega) (by have:=HWL.out.2;omega) (by simp;omega) ?_;intro v5 w5 hown hgrow hnil;refine hold ?_))
      have HROW5:Hid (w5.ownsRow w.heap.size 9 1 v5 (ws++[(s.data.toList.drop f).take (k-f)]).length ((ws++[(s.data.toList.drop f).take (k-f)]).map fun x=>Value.string (toB x))):=Lib.hid (by
       rw [List.map_append,List.length_append]
       have e:[Value.string (s.extract f k)]=[(s.data.toList.drop f).take (k-f)].map fun x=>Value.string (toB x):=by
        rw [List.map_singleton,ext_part s f k HKS.out.2 hf]
       rw [← e]
       exact hown)
      have HW5:=Lib.hid (HW4.out.grown hgrow HW4.out.size (fun j e=>(HROW4.out.lt j e).1))
      clear hown hgrow hnil
      refine go_on ?_
      go_wp2
      go_roundw
      case rel=>exact ⟨k+1,k+1,v5,ws++[(s.data.toList.drop f).take (k-f)],by omega,Nat.le_refl _,rfl,by go_num,by go_num,HD2,HROW5,HW5⟩
      case measure=>simp [intOf];omega
    · have hk1:k=s.size+1:=by omega
      have hall:ws=splitW s.data.toList:=by
       rcases HD.out with ⟨h,_⟩ | ⟨_,_,h⟩
       · rw [HLN.out.2] at h;omega
       · exact h
      have HALL:=Lib.hid hall
      have hnn:¬ (k:Int)≤s.size:=by omega
      clear hall hk1 hend
      go_wp2
      obtain ⟨ad,cap,rfl,hss⟩:=strs_row (l:=ws.map toB) (n:=ws.length) (by rw [List.map_map];exact HROW.out) (by simp)
      go_ret
      exact ⟨⟨ad,_,cap,rfl,by rw [← HALL.out];exact hss⟩,HW.out⟩
end Go.Proofs.YtkhdocdddicgpaaGreatDoor
set_option linter.unusedVariables false
set_option linter.unusedSimpArgs false
namespace Go.Proofs.YtkhdocdddicgpaaGreatDoor
open Go.RowKit Go.Maps _root_.Go.Proofs.YtkhdocdddicgpaaGreatDoor.Nm
theorem colW_cons {c:UInt8} {r:List UInt8}:colW (c::r)=if c=120∧1≤r.length∧r.length≤5∧r.all isDig=true then (tv r:Int) else -1:=rfl
theorem col_short {L:List UInt8} (h:L.length<2∨6<L.length):colW L = -1:=by
 cases L with
 | nil=>rfl
 | cons c r =>
  rw [colW_cons,if_neg]
  rintro ⟨_,h1,h2,_⟩
  simp at h
  omega
theorem col_other {L:List UInt8} (c:UInt8) (h0:L[0]?=some c) (h:c≠120):colW L = -1:=by
 cases L with
 | nil=>cases h0
 | cons d r =>
  obtain rfl:d=c:=by simpa using h0
  rw [colW_cons,if_neg (fun x=>h x.1)]
theorem col_stop {L:List UInt8} (k:Nat) (hk:1≤k) (c:UInt8) (h0:L[k]?=some c) (h:isDig c=false):colW L = -1:=by
 cases L with
 | nil=>cases h0
 | cons d r =>
  obtain ⟨j,rfl⟩:∃ j,k=j+1:=⟨k-1,by omega⟩
  rw [List.getElem?_cons_succ] at h0
  rw [colW_cons,if_neg]
  rintro ⟨_,_,_,h4⟩
  have:=List.all_eq_true.1 h4 c (List.mem_of_getElem? h0)
  rw [h] at this;cases this
def ClAt (L:List UInt8) (k:Nat) (n:Nat):Prop:=L.head?=some 120∧2≤L.length∧L.length≤6∧(L.tail.take (k-1)).all isDig=true∧n=tv (L.tail.take (k-1))
theorem ClAt.small {L:List UInt8} {k n:Nat} (h:ClAt L k n):n<100000:=by
 obtain ⟨_,h2,h3,h4,rfl⟩:=h
 have h5:=tv_lt _ h4
 have h6:(L.tail.take (k-1)).length≤5:=by
  rw [List.length_take,List.length_tail];omega
 exact Nat.lt_of_lt_of_le h5 (Nat.pow_le_pow_right (by omega) h6)
theorem ClAt.next {L:List UInt8} {k n:Nat} (h:ClAt L k n) (hk:1≤k) (c:UInt8) (h0:L[k]?=some c) (hc:isDig c=true):ClAt L (k+1) (10*n+(c.toNat-48)):=by
 obtain ⟨h1,h2,h3,h4,h5⟩:=h
 cases L with
 | nil=>cases h0
 | cons d r =>
  obtain ⟨j,rfl⟩:∃ j,k=j+1:=⟨k-1,by omega⟩
  rw [List.getElem?_cons_succ] at h0
  obtain ⟨hj,hcj⟩:=List.getElem?_eq_some_iff.1 h0
  have e:(d::r).tail.take (j+1+1-1)=(d::r).tail.take (j+1-1)++[c]:=by
   show r.take (j+1)=r.take j++[c]
   rw [List.take_succ_eq_append_getElem hj,hcj]
  refine ⟨h1,h2,h3,?_,?_⟩
  · rw [e,List.all_append,h4];simp [hc]
  · rw [e,tv_snoc, ← h5]
    show 10*n+(c.toNat-48)=(c.toNat-48)+10*n
    omega
theorem ClAt.all {L:List UInt8} {k n:Nat} (h:ClAt L k n) (hk:L.length≤k):colW L=(n:Int):=by
 obtain ⟨h1,h2,h3,h4,h5⟩:=h
 cases L with
 | nil=>simp at h2
 | cons d r =>
  obtain rfl:d=120:=by simpa using h1
  have e:r.take (k-1)=r:=List.take_of_length_le (by simp at hk;omega)
  simp only [List.tail_cons] at h4 h5
  rw [e] at h4 h5
  rw [colW_cons,if_pos ⟨rfl,by simp at h2;omega,by simp at h3;omega,h4⟩,h5]
set_option maxRecDepth 100000 in
set_option maxHeartbeats 6400000 in
theorem gColumn_any (s:ByteArray) (r:Int) (w:World) (hs:s.size≤100000) (hr:Hid (colW s.data.toList=r)) :
 Calls Tryz.prog 68 #[.string s] w fun e w'=>e = .returned (.int .i64 r)∧w'=w:=by
 have hL:s.data.toList.length=s.size:=Array.length_toList
 have HLN:=Lib.hid (And.intro trivial hL)
 clear hL
 go_enter Tryz.func68,Tryz.ntmps68
 by_cases h2:(s.size:Int)<2
 · obtain rfl:r = -1:=by rw [← hr.out];exact col_short (.inl (by rw [HLN.out.2];omega))
   go_wp2
   go_ret
   exact ⟨rfl,rfl⟩
 · by_cases h6:(6:Int)<s.size
   · obtain rfl:r = -1:=by rw [← hr.out];exact col_short (.inr (by rw [HLN.out.2];omega))
     go_wp2
     go_ret
     exact ⟨rfl,rfl⟩
   · have h0:0<s.size:=by omega
     have hz0:(0:Int)<s.size:=by omega
     have hl0:s.data.toList[0]?=some s[0]:=byte_at s 0 h0
     by_cases hx:s[0]=120
     · have hb:((s[0].toNat:Int)==120)=true:=by rw [hx];rfl
       have HC:Hid (ClAt s.data.toList 1 0):=Lib.hid ⟨by rw [List.head?_eq_getElem?,hl0,hx],by rw [HLN.out.2];omega,by rw [HLN.out.2];omega,by simp,by simp [tv_nil]⟩
       clear hx hl0
       go_wp2
       go_loopw [3,4] (fun nv i wr=>∃ k n:Nat,1≤k∧k≤s.size∧nv = .int .i64 n∧i = .int .i64 k∧Hid (ClAt s.data.toList k n)∧wr=w) (fun _ i _=>s.size-(intOf i).toNat)
       case atStart=>exact ⟨1,0,Nat.le_refl _,by omega,rfl,rfl,HC,rfl⟩
       case round =>
        obtain ⟨k,n,hk1,hk,rfl,rfl,HC2,rfl⟩:=hrel
        by_cases hlt:k<s.size
        · have a1:(0:Int)≤k:=by omega
          have a2:(k:Int)<s.size:=by omega
          have hlk:s.data.toList[k]?=some s[k]:=byte_at s k hlt
          by_cases hlo:s[k].toNat<48
          · have g1:(s[k].toNat:Int)<48:=by omega
            obtain rfl:r = -1:=by
             rw [← hr.out]
             exact col_stop k hk1 _ hlk (by unfold isDig;rw [decide_eq_false (by omega),Bool.false_and])
            clear hlk hlo
            go_wp2
            go_ret
            exact ⟨rfl,rfl⟩
          · by_cases hhi:57<s[k].toNat
            · have g1:¬ (s[k].toNat:Int)<48:=by omega
              have g2:(57:Int)<(s[k].toNat:Int):=by omega
              obtain rfl:r = -1:=by
               rw [← hr.out]
               exact col_stop k hk1 _ hlk (by unfold isDig;rw [decide_eq_false (show ¬ s[k].toNat≤57 by omega),Bool.and_false])
              clear hlk hlo hhi
              go_wp2
              go_ret
              exact ⟨rfl,rfl⟩
            · have g1:¬ (s[k].toNat:Int)<48:=by omega
              have g2:¬ (57:Int)<(s[k].toNat:Int):=by omega
              have HC3:=Lib.hid (HC2.out.next hk1 _ hlk (by unfold isDig;rw [decide_eq_true (show 48≤s[k].toNat by omega),decide_eq_true (show s[k].toNat≤57 by omega)];rfl))
              have hn:=HC2.out.small
              obtain ⟨b,hb9⟩:∃ b,s[k].toNat=b:=⟨_,rfl⟩
              rw [hb9] at HC3
              have w1:IntKind.u8.wrap ((b:Int)-48)=((b-48:Nat):Int):=by
               rw [show (b:Int)-48=((b-48:Nat):Int) from by omega]
               have hb8:b<256:=by rw [← hb9];exact UInt8.toNat_lt _
               exact IntWalk.u8_in _ (by omega)
              clear hlk
              go_wp2
              exact ⟨⟨k+1,10*n+(b-48),by omega,by omega,by congr 1,by go_num,HC3,trivial⟩,by simp [intOf];omega⟩
        · obtain rfl:k=s.size:=by omega
          have hnn:¬ (s.size:Int)<s.size:=by omega
          obtain rfl:r=(n:Int):=by rw [← hr.out];exact HC2.out.all (by rw [HLN.out.2];exact Nat.le_refl _)
          go_wp2
          go_ret
          exact ⟨rfl,rfl⟩
     · have hb:((s[0].toNat:Int)==120)=false:=by
        have:s[0].toNat≠120:=fun e=>hx (UInt8.toNat_inj.1 e)
        show decide ((s[0].toNat:Int)=120)=false
        exact decide_eq_false (by omega)
       obtain rfl:r = -1:=by rw [← hr.out];exact col_other _ hl0 hx
       clear hx hl0
       go_wp2
       go_ret
       exact ⟨rfl,rfl⟩
end Go.Proofs.YtkhdocdddicgpaaGreatDoor
