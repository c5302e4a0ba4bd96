/- Part 14: what the law's walk leans on. -/
import Derived.Test.YtkhdocdddicgpaaGreatDoorYt13
import Derived.Maps.OwnSet
import Derived.Maps.RangeWalk
import Derived.Maps.StringElems
import Derived.Sort.Statements
import Derived.Shelf.SlGeneric
import Derived.Shelf.SlicesQ.IndexFunc
import Derived.Ground.SlgfProg
import Derived.Shelf.SlSortCmp.WholeK
import Derived.Ground.SlsfProg
import Derived.Test.YtkhdocdddicgpaaGreatDoorProg
set_option linter.unusedVariables false
set_option linter.unusedSimpArgs false
namespace Go.Proofs.YtkhdocdddicgpaaGreatDoor
open Go.RowKit Go.Maps _root_.Go.Proofs.YtkhdocdddicgpaaGreatDoor.Nm
abbrev Qm:=Int × Rat
abbrev Tm:=Int × ByteArray
def txt (q:Rat):ByteArray:=⟨(rt q).toArray⟩
def tms (q:List Qm):List Tm:=q.map fun p=>(p.1,txt p.2)
theorem txt_is {q:Rat} (h:rshort q=true):RIs (txt q) q:=⟨rfl,h⟩
theorem txt_val {q:Rat} (h:rshort q=true):rval (txt q).data.toList=some q:=(txt_is h).val
def upd (f:Int→Rat) (c:Int) (s:Rat):Int→Rat:=fun x=>if x=c then s else f x
theorem upd_same (f:Int→Rat) (c:Int) (s:Rat):upd f c s c=s:=by simp [upd]
theorem upd_other (f:Int→Rat) {c d:Int} (s:Rat) (h:d≠c):upd f c s d=f d:=by simp [upd,h]
def ColIn (c:Int):Prop:=0≤c∧c<2048
def MapIs (D:DataW Unit) (f:Int→Rat):Prop:=IsMap D∧∀ c:Int,(f c≠0→ColIn c∧rshort (f c)=true)∧has D (.int .i64 c)=decide (f c≠0)∧(f c≠0→∀ z,D.atKey (.int .i64 c) z = .lit (.string (rt (f c))))
theorem MapIs.start:MapIs (.map []) (fun _=>0):=⟨isMap_empty,fun c=>⟨fun h=>absurd rfl h,by simp [has_eq],fun h=>absurd rfl h⟩⟩
theorem lit_ne {c d:Int} (h:d≠c):(Lit.int .i64 d) ≠ .int .i64 c:=fun e=>h (by cases e;rfl)
theorem isMap_put {D:DataW Unit} (h:IsMap D) (k:Lit) (d:DataW Unit):IsMap (D.put k d):=by
 obtain ⟨es,rfl⟩:=h;exact ⟨_,rfl⟩
theorem isMap_del {D:DataW Unit} (h:IsMap D) (k:Lit):IsMap (D.del k):=by
 obtain ⟨es,rfl⟩:=h;exact ⟨_,rfl⟩
theorem MapIs.put {D:DataW Unit} {f:Int→Rat} {c:Int} {s:Rat} (h:MapIs D f) (hc:ColIn c) (hs:s≠0) (hr:rshort s=true):MapIs (D.put (.int .i64 c) (.lit (.string (rt s)))) (upd f c s):=by
 refine ⟨isMap_put h.1 _ _,fun d => ?_⟩
 by_cases e:d=c
 · subst e
   rw [upd_same,has_put_same (k := .int .i64 d) h.1 trivial]
   exact ⟨fun _=>⟨hc,hr⟩,by simp [hs],fun _ z=>atKey_put_same (k := .int .i64 d) h.1 trivial _ _⟩
 · rw [upd_other f s e,has_put_other (lit_ne e)]
   exact ⟨(h.2 d).1,(h.2 d).2.1,fun hf z=>by rw [atKey_put_other (lit_ne e)];exact (h.2 d).2.2 hf z⟩
theorem MapIs.del {D:DataW Unit} {f:Int→Rat} {c:Int} (h:MapIs D f):MapIs (D.del (.int .i64 c)) (upd f c 0):=by
 refine ⟨isMap_del h.1 _,fun d => ?_⟩
 by_cases e:d=c
 · subst e
   rw [upd_same,has_del_same]
   exact ⟨fun h=>absurd rfl h,by simp,fun h=>absurd rfl h⟩
 · rw [upd_other f 0 e,has_del_other (lit_ne e)]
   exact ⟨(h.2 d).1,(h.2 d).2.1,fun hf z=>by rw [atKey_del_other (lit_ne e)];exact (h.2 d).2.2 hf z⟩
def Coll (f:Int→Rat) (left:Lit→Bool) (q:List Qm):Prop:=(q.map Prod.fst).Nodup∧(∀ p∈q,p.2=f p.1)∧∀ c:Int,c∈q.map Prod.fst↔(f c≠0∧left (.int .i64 c)=false)
theorem Coll.start {D:DataW Unit} {f:Int→Rat} (h:MapIs D f):Coll f (has D) []:=⟨List.nodup_nil,by simp,fun c=>by rw [(h.2 c).2.1];simp⟩
theorem Coll.step {D:DataW Unit} {f:Int→Rat} {left:Lit→Bool} {q:List Qm} {c:Int} {s:ByteArray} (h:Coll f left q) (hm:MapIs D f) (hl:left (.int .i64 c)=true) (hat:∀ z,D.atKey (.int .i64 c) z = .lit (.string s.data.toList)) :
 s=txt (f c)∧f c≠0∧ColIn c∧rshort (f c)=true∧Coll f (fun z=>left z && !z.sameKey (.int .i64 c)) (q++[(c,f c)]):=by
 have h1:has D (.int .i64 c)=true:=has_true_of_atKey hat
 rw [(hm.2 c).2.1] at h1
 have h2:f c≠0:=by simpa using h1
 have h3:=(hm.2 c).2.2 h2 .nil
 rw [hat] at h3
 have h4:s.data.toList=rt (f c):=by simpa using h3
 have hnew:c∉q.map Prod.fst:=fun hx=>by have:=((h.2.2 c).1 hx).2;rw [hl] at this;cases this
 refine ⟨?_,h2,((hm.2 c).1 h2).1,((hm.2 c).1 h2).2,?_,?_,fun d => ?_⟩
 · unfold txt;rw [← h4]
 · rw [List.map_append,List.nodup_append]
   exact ⟨h.1,by simp,fun a ha b hb=>by simp at hb;subst hb;exact fun e=>hnew (e ▸ ha)⟩
 · intro p hp
   rcases List.mem_append.1 hp with hp | hp
   · exact h.2.1 p hp
   · simp at hp;subst hp;rfl
 · rw [List.map_append,List.mem_append,h.2.2 d]
   by_cases e:d=c
   · subst e;simp [h2,Lit.sameKey]
   · simp [e,Lit.sameKey]
theorem sorted_ext:∀ (l1 l2:List Qm),l1.Pairwise (fun a b=>a.1<b.1)→l2.Pairwise (fun a b=>a.1<b.1)→(∀ x,x∈l1↔x∈l2)→l1=l2
 | [],[],_,_,_=>rfl
 | [],b::l2,_,_,h=>absurd ((h b).2 (by simp)) (by simp)
 | a::l1,[],_,_,h=>absurd ((h a).1 (by simp)) (by simp)
 | a::l1,b::l2,h1,h2,h=>by
  rw [List.pairwise_cons] at h1 h2
  have hab:a=b:=by
   have ha:=(h a).1 (by simp)
   have hb:=(h b).2 (by simp)
   rcases List.mem_cons.1 ha with e | e
   · exact e
   · rcases List.mem_cons.1 hb with e' | e'
     · exact e'.symm
     · have:=h1.1 b e';have:=h2.1 a e;omega
  subst hab
  congr 1
  refine sorted_ext l1 l2 h1.2 h2.2 fun x=>⟨fun hx => ?_,fun hx => ?_⟩
  · have hlt:=h1.1 x hx
    rcases List.mem_cons.1 ((h x).1 (List.mem_cons_of_mem _ hx)) with e | e
    · subst e;omega
    · exact e
  · have hlt:=h2.1 x hx
    rcases List.mem_cons.1 ((h x).2 (List.mem_cons_of_mem _ hx)) with e | e
    · subst e;omega
    · exact e
def formOf (f:Int→Rat):List Qm:=((List.range 2048).filter fun (c:Nat)=>decide (f (c:Int)≠0)).map fun (c:Nat)=>((c:Int),f c)
theorem mem_formOf {f:Int→Rat} {x:Qm}:x∈formOf f↔0≤x.1∧x.1<2048∧x.2=f x.1∧x.2≠0:=by
 obtain ⟨c,q⟩:=x
 simp only [formOf,List.mem_map,List.mem_filter,List.mem_range,decide_eq_true_eq,Prod.mk.injEq]
 constructor
 · rintro ⟨a,⟨h1,h2⟩,rfl,rfl⟩
   exact ⟨by omega,by omega,rfl,h2⟩
 · rintro ⟨h1,h2,rfl,h4⟩
   refine ⟨c.toNat,⟨by omega,?_⟩,?_,?_⟩
   · rw [Int.toNat_of_nonneg h1];exact h4
   · exact Int.toNat_of_nonneg h1
   · rw [Int.toNat_of_nonneg h1]
theorem formOf_sorted (f:Int→Rat):(formOf f).Pairwise (fun a b=>a.1<b.1):=by
 unfold formOf
 rw [List.pairwise_map]
 refine List.Pairwise.filter _ ?_
 exact (List.pairwise_lt_range (n:=2048)).imp fun h=>by simpa using h
theorem formOf_eq {f:Int→Rat} {l:List Qm} (hs:l.Pairwise (fun a b=>a.1<b.1)) (hm:∀ x,x∈l↔(0≤x.1∧x.1<2048∧x.2=f x.1∧x.2≠0)):l=formOf f :=
 sorted_ext _ _ hs (formOf_sorted f) fun x=>(hm x).trans mem_formOf.symm
def co (q:List Qm) (c:Int):Rat:=match q.find? (fun p=>p.1==c) with
 | some p=>p.2
 | none=>0
theorem co_nil (c:Int):co [] c=0:=rfl
theorem co_cons (p:Qm) (q:List Qm) (c:Int):co (p::q) c=if p.1=c then p.2 else co q c:=by
 unfold co
 by_cases h:p.1=c
 · simp [h]
 · simp [h]
theorem co_none:∀ (q:List Qm) (c:Int),(∀ p∈q,p.1≠c)→co q c=0
 | [],c,_=>rfl
 | p::q,c,h=>by rw [co_cons,if_neg (h p (by simp)),co_none q c fun p' hp=>h p' (by simp [hp])]
theorem co_mem:∀ (q:List Qm),q.Pairwise (fun a b=>a.1<b.1)→∀ p∈q,co q p.1=p.2
 | [],_,p,h=>absurd h (by simp)
 | a::q,hs,p,h=>by
  rw [List.pairwise_cons] at hs
  rw [co_cons]
  rcases List.mem_cons.1 h with rfl | h
  · simp
  · have:=hs.1 p h
    rw [if_neg (by omega)]
    exact co_mem q hs.2 p h
theorem co_ne:∀ (q:List Qm) (c:Int),co q c≠0→(c,co q c)∈q
 | [],c,h=>absurd rfl h
 | a::q,c,h=>by
  rw [co_cons] at h ⊢
  by_cases e:a.1=c
  · rw [if_pos e];subst e;simp
  · rw [if_neg e] at h ⊢
    exact List.mem_cons_of_mem _ (co_ne q c h)
theorem Coll.sorted {f:Int→Rat} {left:Lit→Bool} {q:List Qm} {d':Array Qm} {lt:Qm→Qm→Bool} (h:Coll f left q) (hl:∀ kl,left kl=false) (hin:∀ c,f c≠0→ColIn c) (hlt:∀ x y,lt x y=decide (x.1<y.1))
 (hp:Go.Sort.PermIn 0 q.toArray.size q.toArray d') (hs:Go.Sort.SortedIn lt 0 q.toArray.size d'):d'.toList=formOf f:=by
 obtain ⟨hsz,_,hpm⟩:=hp
 have hsz':d'.size=q.length:=by simpa using hsz
 have e1:d'.extract 0 q.toArray.size=d':=by rw [show q.toArray.size=d'.size from hsz.symm];simp
 have e2:q.toArray.extract 0 q.toArray.size=q.toArray:=by simp
 rw [e1,e2] at hpm
 have hpm':d'.toList.Perm q:=by simpa using hpm
 have hnd:(d'.toList.map Prod.fst).Nodup:=(hpm'.map Prod.fst).nodup_iff.2 h.1
 have hmem:∀ p∈d'.toList,p.2=f p.1∧f p.1≠0:=fun p hp=>by
  have hq:=hpm'.mem_iff.1 hp
  exact ⟨h.2.1 p hq,((h.2.2 p.1).1 (List.mem_map_of_mem hq)).1⟩
 refine formOf_eq ?_ fun x=>⟨fun hx => ?_,fun hx => ?_⟩
 · rw [List.pairwise_iff_getElem]
   intro i j hi hj hij
   have h1:=hs i j (Nat.zero_le _) hij (by simpa [hsz'] using hj)
   rw [hlt] at h1
   have hi':i<d'.size:=by simpa using hi
   have hj':j<d'.size:=by simpa using hj
   rw [getElem!_pos d' i hi',getElem!_pos d' j hj'] at h1
   have h2:¬ (d'[j]).1<(d'[i]).1:=by simpa using h1
   have h3:(d'[i]).1≠(d'[j]).1:=fun e=>by
    rw [List.Nodup,List.pairwise_map,List.pairwise_iff_getElem] at hnd
    exact hnd i j hi hj hij (by simpa using e)
   have h4:d'.toList[i]=d'[i]:=by simp
   have h5:d'.toList[j]=d'[j]:=by simp
   rw [h4,h5];omega
 · obtain ⟨h1,h2⟩:=hmem x hx
   obtain ⟨h3,h4⟩:=hin x.1 h2
   exact ⟨h3,h4,h1,by rw [h1];exact h2⟩
 · obtain ⟨h1,h2,h3,h4⟩:=hx
   have h5:f x.1≠0:=by rw [← h3];exact h4
   have h6:=(h.2.2 x.1).2 ⟨h5,hl _⟩
   obtain ⟨p,hp,e⟩:=List.mem_map.1 h6
   have h7:=h.2.1 p hp
   have:p=x:=Prod.ext e (by rw [h7,e,h3])
   exact hpm'.mem_iff.2 (this ▸ hp)
def acc:(Int→Rat)→List Qm→Option (Int→Rat)
 | f,[]=>some f
 | f,p::l=>if rshort (f p.1+p.2)=true then acc (upd f p.1 (f p.1+p.2)) l else none
theorem acc_append:∀ (a b:List Qm) (f:Int→Rat),acc f (a++b)=(acc f a).bind fun g=>acc g b
 | [],b,f=>rfl
 | p::a,b,f=>by
  simp only [List.cons_append,acc]
  split
  · exact acc_append a b _
  · rfl
theorem acc_snoc {f g:Int→Rat} {l:List Qm} {p:Qm} (h:acc f l=some g):acc f (l++[p])=if rshort (g p.1+p.2)=true then some (upd g p.1 (g p.1+p.2)) else none:=by
 rw [acc_append,h];rfl
theorem acc_none {f:Int→Rat} {l:List Qm} (h:acc f l=none) (r:List Qm):acc f (l++r)=none:=by
 rw [acc_append,h];rfl
theorem acc_some:∀ (l:List Qm) (f:Int→Rat),l.Pairwise (fun a b=>a.1<b.1)→(∀ p∈l,rshort (f p.1+p.2)=true)→acc f l=some fun c=>f c+co l c
 | [],f,_,_=>by
  unfold acc
  congr 1;funext c
  rw [co_nil,Rat.add_zero]
 | p::l,f,hs,h=>by
  rw [List.pairwise_cons] at hs
  unfold acc
  rw [if_pos (h p (by simp)),acc_some l _ hs.2 (fun x hx=>by
   have:=hs.1 x hx
   rw [upd_other f _ (by omega)];exact h x (by simp [hx]))]
  congr 1;funext c
  rw [co_cons]
  by_cases e:p.1=c
  · subst e
    rw [upd_same,if_pos rfl,co_none l p.1 (fun x hx=>by have:=hs.1 x hx;omega),Rat.add_zero]
  · rw [upd_other f _ (fun k=>e k.symm),if_neg e]
theorem acc_bad:∀ (l:List Qm) (f:Int→Rat),l.Pairwise (fun a b=>a.1<b.1)→(∃ p∈l,rshort (f p.1+p.2)=false)→acc f l=none
 | [],f,_,⟨p,hp,_⟩=>absurd hp (by simp)
 | p::l,f,hs,⟨x,hx,hb⟩=>by
  rw [List.pairwise_cons] at hs
  unfold acc
  split
  · next h1 =>
    rcases List.mem_cons.1 hx with e | hx'
    · subst e;rw [hb] at h1;cases h1
    · refine acc_bad l _ hs.2 ⟨x,hx',?_⟩
      have:=hs.1 x hx'
      rw [upd_other f _ (by omega)];exact hb
  · rfl
def Good (f:Int→Rat):Prop:=∀ c,f c≠0→ColIn c∧rshort (f c)=true
def Fo (q:List Qm):Prop:=(∀ p∈q,ColIn p.1∧rshort p.2=true∧p.2≠0)∧q.Pairwise (fun a b=>a.1<b.1)
theorem formOf_fo {f:Int→Rat} (h:Good f):Fo (formOf f):=⟨fun p hp=>by
 obtain ⟨h1,h2,h3,h4⟩:=mem_formOf.1 hp
 exact ⟨⟨h1,h2⟩,by rw [h3];exact (h p.1 (by rw [← h3];exact h4)).2,h4⟩,formOf_sorted f⟩
theorem Fo.co {q:List Qm} (h:Fo q):Good (co q):=fun c hc=>by
 have:=h.1 _ (co_ne q c hc)
 exact ⟨this.1,this.2.1⟩
theorem rshort_zero:rshort 0=true:=by decide +kernel
theorem Good.short {f:Int→Rat} (h:Good f) (c:Int):rshort (f c)=true:=by
 by_cases e:f c=0
 · rw [e];exact rshort_zero
 · exact (h c e).2
def okCol (c:Int):Bool:=decide (0≤c)&&decide (c<2048)
theorem okCol_in {c:Int}:okCol c=true↔ColIn c:=by unfold okCol ColIn;simp
def noNum (s:ByteArray):Bool := !(rval s.data.toList).isSome
def partsErr (c:ByteArray) (l:List Tm):Int :=
 if (noNum c || l.any fun t=>noNum t.2)=true then 3 else if (l.any fun t => !okCol t.1)=true then 2 else 0
def asc:List Tm→Bool
 | []=>true
 | t::l => !(t.2.data.toList==[48])&&(match l with | []=>true | u::_=>decide (t.1<u.1))&&asc l
def checkErr (c:ByteArray) (l:List Tm):Int:=if partsErr c l≠0 then partsErr c l else if asc l=true then 0 else 3
theorem noNum_ex {s:ByteArray} (h:noNum s=false):∃ q,s=txt q∧rshort q=true:=by
 unfold noNum at h
 cases hr:rval s.data.toList with
 | none=>rw [hr] at h;cases h
 | some q =>
  obtain ⟨h1,h2⟩:=RIs.of (s:=s) hr
  exact ⟨q,h1,h2⟩
theorem noNum_txt {q:Rat} (h:rshort q=true):noNum (txt q)=false:=by unfold noNum;rw [txt_val h];rfl
theorem tms_ex:∀ (l:List Tm),(l.any fun t=>noNum t.2)=false→∃ q:List Qm,l=tms q∧∀ p∈q,rshort p.2=true
 | [],_=>⟨[],rfl,by simp⟩
 | t::l,h=>by
  simp only [List.any_cons,Bool.or_eq_false_iff] at h
  obtain ⟨q,h1,h2⟩:=noNum_ex h.1
  obtain ⟨r,h3,h4⟩:=tms_ex l h.2
  refine ⟨(t.1,q)::r,?_,?_⟩
  · rw [h3];show t::tms r=(t.1,txt q)::tms r;rw [← h1]
  · intro p hp
    rcases List.mem_cons.1 hp with rfl | hp
    · exact h2
    · exact h4 p hp
theorem partsErr_zero {c:ByteArray} {l:List Tm} (h:partsErr c l=0):∃ (qc:Rat) (q:List Qm),c=txt qc∧rshort qc=true∧l=tms q∧∀ p∈q,ColIn p.1∧rshort p.2=true:=by
 unfold partsErr at h
 split at h
 · cases h
 · next h1 =>
   split at h
   · cases h
   · next h2 =>
     have h3:noNum c=false∧(l.any fun t=>noNum t.2)=false:=by simpa using h1
     obtain ⟨qc,e1,e2⟩:=noNum_ex h3.1
     obtain ⟨q,e3,e4⟩:=tms_ex l h3.2
     refine ⟨qc,q,e1,e2,e3,fun p hp=>⟨?_,e4 p hp⟩⟩
     have h4:(l.any fun t => !okCol t.1)=false:=by simpa using h2
     rw [List.any_eq_false] at h4
     have:=h4 (p.1,txt p.2) (by rw [e3];exact List.mem_map_of_mem hp)
     exact okCol_in.1 (by simpa using this)
theorem partsErr_tms {qc:Rat} {q:List Qm} (hc:rshort qc=true) (h:∀ p∈q,ColIn p.1∧rshort p.2=true):partsErr (txt qc) (tms q)=0:=by
 unfold partsErr
 have h1:((tms q).any fun t=>noNum t.2)=false:=by
  rw [List.any_eq_false]
  intro t ht
  obtain ⟨p,hp,rfl⟩:=List.mem_map.1 ht
  rw [noNum_txt (h p hp).2];simp
 have h2:((tms q).any fun t => !okCol t.1)=false:=by
  rw [List.any_eq_false]
  intro t ht
  obtain ⟨p,hp,rfl⟩:=List.mem_map.1 ht
  rw [okCol_in.2 (h p hp).1];simp
 rw [noNum_txt hc,h1,h2];rfl
theorem rt_zero:txt 0=⟨#[48]⟩:=by decide +kernel
theorem txt_zero {q:Rat} (h:rshort q=true):(!((txt q).data.toList==[48]))=decide (q≠0):=by
 by_cases e:q=0
 · subst e;decide +kernel
 · have:(txt q).data.toList≠[48]:=fun k=>e (by
    have h1:=txt_val h
    rw [k] at h1
    have h2:=txt_val rshort_zero
    rw [rt_zero] at h2
    exact Option.some.inj (h1.symm.trans h2))
   rw [show ((txt q).data.toList==[48])=false from by simpa using this];simp [e]
theorem asc_fo:∀ (q:List Qm),(∀ p∈q,rshort p.2=true)→(asc (tms q)=true↔(∀ p∈q,p.2≠0)∧q.Pairwise (fun a b=>a.1<b.1))
 | [],_=>by simp [asc,tms]
 | p::q,h=>by
  have ih:=asc_fo q (fun x hx=>h x (by simp [hx]))
  have e1:asc (tms (p::q))=((!((txt p.2).data.toList==[48]))&&(match tms q with | []=>true | u::_=>decide (p.1<u.1))&&asc (tms q)):=rfl
  rw [e1,txt_zero (h p (by simp))]
  simp only [Bool.and_eq_true,decide_eq_true_eq]
  rw [ih,List.pairwise_cons]
  cases q with
  | nil=>simp [tms]
  | cons r q =>
   have e2:(match tms (r::q) with | []=>true | u::_=>decide (p.1<u.1))=decide (p.1<r.1):=rfl
   rw [e2,decide_eq_true_eq]
   constructor
   · rintro ⟨⟨h1,h2⟩,h3,h4⟩
     refine ⟨fun x hx => ?_,fun x hx => ?_,h4⟩
     · rcases List.mem_cons.1 hx with rfl | hx
       · exact h1
       · exact h3 x hx
     · rcases List.mem_cons.1 hx with rfl | hx
       · exact h2
       · exact Int.lt_trans h2 ((List.pairwise_cons.1 h4).1 x hx)
   · rintro ⟨h1,h2,h3⟩
     exact ⟨⟨h1 p (by simp),h2 r (by simp)⟩,fun x hx=>h1 x (by simp [hx]),h3⟩
theorem checkErr_zero {c:ByteArray} {l:List Tm} (h:checkErr c l=0):∃ (qc:Rat) (q:List Qm),c=txt qc∧rshort qc=true∧l=tms q∧Fo q:=by
 unfold checkErr at h
 split at h
 · next h1=>exact absurd h h1
 · next h1 =>
   obtain ⟨qc,q,e1,e2,e3,e4⟩:=partsErr_zero (by simpa using h1)
   split at h
   · next h2 =>
     rw [e3,asc_fo q (fun p hp=>(e4 p hp).2)] at h2
     exact ⟨qc,q,e1,e2,e3,fun p hp=>⟨(e4 p hp).1,(e4 p hp).2,h2.1 p hp⟩,h2.2⟩
   · cases h
theorem checkErr_fo {qc:Rat} {q:List Qm} (hc:rshort qc=true) (h:Fo q):checkErr (txt qc) (tms q)=0:=by
 unfold checkErr
 rw [partsErr_tms hc (fun p hp=>⟨(h.1 p hp).1,(h.1 p hp).2.1⟩),if_neg (by simp),if_pos ((asc_fo q (fun p hp=>(h.1 p hp).2.1)).2 ⟨fun p hp=>(h.1 p hp).2.2,h.2⟩)]
def TsAt (W:World) (v:Value) (l:List Tm):Prop:=∃ ad n cap,v = .slice ad n cap∧n=l.length ∧
 (n=0∨∃ g off,ad=some ⟨g,off,none⟩∧g<W.heap.size∧∀ (i:Nat) (h:i<l.length),W.cell? ⟨g,off+i*2,none⟩=some (.int .i64 l[i].1)∧W.cell? ⟨g,off+i*2+1,none⟩=some (.string l[i].2))
theorem TsAt.keep {W W':World} {v:Value} {l:List Tm} {B:Nat} (h:TsAt W v l) (hb:Below B W W') (hB:W.heap.size≤B):TsAt W' v l:=by
 obtain ⟨ad,n,cap,e1,e2,h⟩:=h
 refine ⟨ad,n,cap,e1,e2,?_⟩
 rcases h with h | ⟨g,off,e3,h1,h2⟩
 · exact .inl h
 · refine .inr ⟨g,off,e3,Nat.lt_of_lt_of_le h1 hb.size,fun i hi=>⟨?_,?_⟩⟩
   · rw [hb.cell (p:=⟨g,off+i*2,none⟩) (Nat.lt_of_lt_of_le h1 hB)];exact (h2 i hi).1
   · rw [hb.cell (p:=⟨g,off+i*2+1,none⟩) (Nat.lt_of_lt_of_le h1 hB)];exact (h2 i hi).2
theorem TsAt.nil (W:World) (ad:Option Addr) (cap:Nat):TsAt W (.slice ad 0 cap) []:=⟨ad,0,cap,rfl,rfl,.inl rfl⟩
end Go.Proofs.YtkhdocdddicgpaaGreatDoor
set_option linter.unusedVariables false
set_option linter.unusedSimpArgs false
namespace Go.Proofs.YtkhdocdddicgpaaGreatDoor
open Go.RowKit Go.Maps _root_.Go.Proofs.YtkhdocdddicgpaaGreatDoor.Nm
def evalQ:Rat→List Qm→(Int→Rat)→Option Rat
 | t,[],_=>some t
 | t,p::q,v=>if (rshort (p.2*v p.1)&&rshort (t+p.2*v p.1))=true then evalQ (t+p.2*v p.1) q v else none
def val:List Qm→(Int→Rat)→Rat
 | [],_=>0
 | p::q,v=>p.2*v p.1+val q v
theorem val_append:∀ (a b:List Qm) (v:Int→Rat),val (a++b) v=val a v+val b v
 | [],b,v=>by simp [val,Rat.zero_add]
 | p::a,b,v=>by
  have ih:=val_append a b v
  show p.2*v p.1+val (a++b) v=(p.2*v p.1+val a v)+val b v
  rw [ih,Rat.add_assoc]
def sumTo:Nat→(Int→Rat)→Rat
 | 0,_=>0
 | n+1,g=>sumTo n g+g (n:Int)
theorem val_range (f v:Int→Rat):∀ n:Nat,val (((List.range n).filter fun (c:Nat)=>decide (f (c:Int)≠0)).map fun (c:Nat)=>((c:Int),f c)) v=sumTo n fun c=>f c*v c
 | 0=>rfl
 | n+1=>by
  rw [List.range_succ,List.filter_append,List.map_append,val_append,val_range f v n]
  show _=sumTo n (fun c=>f c*v c)+f n*v n
  congr 1
  by_cases h:f (n:Int)=0
  · rw [List.filter_cons,if_neg (by simp [h])]
    simp [val,h,Rat.zero_mul]
  · rw [List.filter_cons,if_pos (by simp [h])]
    simp [val,Rat.add_zero]
theorem acc_good:∀ (l:List Qm) (f g:Int→Rat),Good f→(∀ p∈l,ColIn p.1)→acc f l=some g→Good g
 | [],f,g,hf,_,h=>by
  have:f=g:=Option.some.inj h
  rw [← this];exact hf
 | p::l,f,g,hf,hl,h=>by
  unfold acc at h
  split at h
  · next h1 =>
    refine acc_good l _ g (fun c hc => ?_) (fun x hx=>hl x (by simp [hx])) h
    by_cases e:c=p.1
    · subst e
      rw [upd_same] at hc ⊢
      exact ⟨hl p (by simp),h1⟩
    · rw [upd_other f _ e] at hc ⊢
      exact hf c hc
  · cases h
theorem good_zero:Good fun _=>0:=fun c h=>absurd rfl h
def cnt (n:Nat) (f:Int→Rat):Nat:=((List.range n).filter fun (c:Nat)=>decide (f (c:Int)≠0)).length
theorem cnt_succ (n:Nat) (f:Int→Rat):cnt (n+1) f=cnt n f+if f (n:Int)≠0 then 1 else 0:=by
 unfold cnt
 rw [List.range_succ,List.filter_append,List.length_append]
 congr 1
 by_cases h:f (n:Int)=0 <;> simp [h]
theorem cnt_upd (f:Int→Rat) (c:Int) (s:Rat):∀ n:Nat,cnt n (upd f c s)≤cnt n f+if c<n then 1 else 0
 | 0=>Nat.zero_le _
 | n+1=>by
  have ih:=cnt_upd f c s n
  rw [cnt_succ,cnt_succ]
  by_cases e:(n:Int)=c
  · rw [if_neg (by omega:¬ c<(n:Int))] at ih
    rw [if_pos (by omega:c<((n+1:Nat):Int))]
    split <;> split <;> omega
  · rw [upd_other f s e]
    have:(if c<((n+1:Nat):Int) then 1 else 0)=if c<(n:Int) then 1 else 0:=by
     by_cases h:c<(n:Int)
     · rw [if_pos h,if_pos (by omega)]
     · rw [if_neg h,if_neg (by omega)]
    rw [this];omega
theorem formOf_length (f:Int→Rat):(formOf f).length=cnt 2048 f:=by unfold formOf cnt;rw [List.length_map]
theorem acc_cnt (n:Nat):∀ (l:List Qm) (f g:Int→Rat),acc f l=some g→cnt n g≤cnt n f+l.length
 | [],f,g,h=>by
  have:f=g:=Option.some.inj h
  rw [← this];exact Nat.le_refl _
 | p::l,f,g,h=>by
  unfold acc at h
  split at h
  · have h1:=acc_cnt n l _ g h
    have h2:=cnt_upd f p.1 (f p.1+p.2) n
    rw [List.length_cons]
    split at h2 <;> omega
  · cases h
theorem acc_length (l:List Qm) (f g:Int→Rat) (h:acc f l=some g):(formOf g).length≤(formOf f).length+l.length:=by
 rw [formOf_length,formOf_length]
 generalize 2048=n
 exact acc_cnt n l f g h
theorem formOf_zero:formOf (fun _=>0)=[]:=by
 unfold formOf
 rw [List.filter_eq_nil_iff.2 (by simp)];rfl
theorem acc_length0 {l:List Qm} {g:Int→Rat} (h:acc (fun _=>0) l=some g):(formOf g).length≤l.length:=by
 have:=acc_length l _ g h
 rw [formOf_zero] at this;simpa using this
end Go.Proofs.YtkhdocdddicgpaaGreatDoor
namespace Go.Proofs
open Go.Shelf
def Tryz.contT_ren:Go.Shelf.Ren:=⟨fun | 8=>110 | 6=>92 | n=>n,fun | 22=>22 | 23=>68 | 25=>94 | 4=>4 | 3=>3 | 0=>0 | n=>n,fun | n=>n⟩
theorem Tryz.contT:Go.Proofs.SlLaysH0.n8 Tryz.prog Tryz.contT_ren:={
 mixed:=by kernel_rfl
 f6:=⟨Tryz.f92.name,by decide,Tryz.func92.trans (congrArg some (by kernel_rfl))⟩
 f8:=⟨Tryz.f110.name,by decide,Tryz.func110.trans (congrArg some (by kernel_rfl))⟩
 t0:=Tryz.underlying0
 a0:=Tryz.isAgg0
 z0:=Tryz.sizeOf0
 v0:=Tryz.zeroValue0
 t3:=Tryz.underlying3
 a3:=Tryz.isAgg3
 z3:=Tryz.sizeOf3
 v3:=Tryz.zeroValue3
 t4:=Tryz.underlying4
 a4:=Tryz.isAgg4
 z4:=Tryz.sizeOf4
 v4:=Tryz.zeroValue4
 t22:=Tryz.underlying22
 a22:=Tryz.isAgg22
 z22:=Tryz.sizeOf22
 v22:=Tryz.zeroValue22
 t25:=Tryz.underlying94
 a25:=Tryz.isAgg94
 z25:=Tryz.sizeOf94
 v25:=Tryz.zeroValue94 }
def Tryz.srtT_ren:Go.Shelf.Ren:=⟨fun | 6=>113 | 15=>148 | 14=>147 | 28=>183 | 29=>184 | 20=>175 | 21=>176 | 22=>177 | 23=>178 | 24=>179 | 25=>180 | 26=>181 | 27=>182 | 46=>205 | 47=>206 | 48=>207 | 49=>208 | 50=>209 | 57=>227 | n=>n,fun | 22=>22 | 24=>68 | 25=>156 | 3=>3 | 39=>169 | 0=>0 | 53=>199 | 55=>170 | 4=>4 | 46=>215 | 45=>214 | 50=>120 | 5=>5 | 9=>9 | 66=>244 | 70=>247 | 76=>270 | 77=>271 | n=>n,fun | n=>n⟩
theorem Tryz.srtT:Go.Proofs.SlLaysF0.n6 Tryz.prog Tryz.srtT_ren:={
 mixed:=by kernel_rfl
 f6:=⟨Tryz.f113.name,by decide,Tryz.func113.trans (congrArg some (by kernel_rfl))⟩
 f14:=⟨Tryz.f147.name,by decide,Tryz.func147.trans (congrArg some (by kernel_rfl))⟩
 f15:=Tryz.func148.trans (congrArg some (by kernel_rfl))
 f20:=⟨Tryz.f175.name,by decide,Tryz.func175.trans (congrArg some (by kernel_rfl))⟩
 f21:=⟨Tryz.f176.name,by decide,Tryz.func176.trans (congrArg some (by kernel_rfl))⟩
 f22:=⟨Tryz.f177.name,by decide,Tryz.func177.trans (congrArg some (by kernel_rfl))⟩
 f23:=⟨Tryz.f178.name,by decide,Tryz.func178.trans (congrArg some (by kernel_rfl))⟩
 f24:=⟨Tryz.f179.name,by decide,Tryz.func179.trans (congrArg some (by kernel_rfl))⟩
 f25:=⟨Tryz.f180.name,by decide,Tryz.func180.trans (congrArg some (by kernel_rfl))⟩
 f26:=⟨Tryz.f181.name,by decide,Tryz.func181.trans (congrArg some (by kernel_rfl))⟩
 f27:=⟨Tryz.f182.name,by decide,Tryz.func182.trans (congrArg some (by kernel_rfl))⟩
 f28:=Tryz.func183.trans (congrArg some (by kernel_rfl))
 f29:=Tryz.func184.trans (congrArg some (by kernel_rfl))
 f46:=⟨Tryz.f205.name,by decide,Tryz.func205.trans (congrArg some (by kernel_rfl))⟩
 f47:=Tryz.func206.trans (congrArg some (by kernel_rfl))
 f48:=Tryz.func207.trans (congrArg some (by kernel_rfl))
 f49:=⟨Tryz.f208.name,by decide,Tryz.func208.trans (congrArg some (by kernel_rfl))⟩
 f50:=⟨Tryz.f209.name,by decide,Tryz.func209.trans (congrArg some (by kernel_rfl))⟩
 f57:=⟨Tryz.f227.name,by decide,Tryz.func227.trans (congrArg some (by kernel_rfl))⟩
 t0:=Tryz.underlying0
 a0:=Tryz.isAgg0
 z0:=Tryz.sizeOf0
 v0:=Tryz.zeroValue0
 t3:=Tryz.underlying3
 a3:=Tryz.isAgg3
 z3:=Tryz.sizeOf3
 v3:=Tryz.zeroValue3
 t4:=Tryz.underlying4
 a4:=Tryz.isAgg4
 z4:=Tryz.sizeOf4
 v4:=Tryz.zeroValue4
 t5:=Tryz.underlying5
 a5:=Tryz.isAgg5
 z5:=Tryz.sizeOf5
 v5:=Tryz.zeroValue5
 t9:=Tryz.underlying9
 a9:=Tryz.isAgg9
 z9:=Tryz.sizeOf9
 v9:=Tryz.zeroValue9
 t22:=Tryz.underlying22
 a22:=Tryz.isAgg22
 z22:=Tryz.sizeOf22
 v22:=Tryz.zeroValue22
 t25:=Tryz.underlying156
 a25:=Tryz.isAgg156
 z25:=Tryz.sizeOf156
 v25:=Tryz.zeroValue156
 t39:=Tryz.underlying169
 a39:=Tryz.isAgg169
 z39:=Tryz.sizeOf169
 v39:=Tryz.zeroValue169
 t45:=Tryz.underlying214
 a45:=Tryz.isAgg214
 z45:=Tryz.sizeOf214
 v45:=Tryz.zeroValue214
 t46:=Tryz.underlying215
 a46:=Tryz.isAgg215
 z46:=Tryz.sizeOf215
 v46:=Tryz.zeroValue215
 t50:=Tryz.underlying120
 a50:=Tryz.isAgg120
 z50:=Tryz.sizeOf120
 v50:=Tryz.zeroValue120
 t53:=Tryz.underlying199
 a53:=Tryz.isAgg199
 z53:=Tryz.sizeOf199
 v53:=Tryz.zeroValue199
 t55:=Tryz.underlying170
 a55:=Tryz.isAgg170
 z55:=Tryz.sizeOf170
 v55:=Tryz.zeroValue170
 t66:=Tryz.underlying244
 a66:=Tryz.isAgg244
 z66:=Tryz.sizeOf244
 v66:=Tryz.zeroValue244
 t70:=Tryz.underlying247
 a70:=Tryz.isAgg247
 z70:=Tryz.sizeOf247
 v70:=Tryz.zeroValue247
 t76:=Tryz.underlying270
 a76:=Tryz.isAgg270
 z76:=Tryz.sizeOf270
 v76:=Tryz.zeroValue270
 t77:=Tryz.underlying271
 a77:=Tryz.isAgg271
 z77:=Tryz.sizeOf271
 v77:=Tryz.zeroValue271 }
end Go.Proofs
set_option linter.unusedVariables false
set_option linter.unusedSimpArgs false
namespace Go.Proofs.YtkhdocdddicgpaaGreatDoor
open Go.RowKit Go.Maps _root_.Go.Proofs.YtkhdocdddicgpaaGreatDoor.Nm
set_option maxRecDepth 100000 in
set_option maxHeartbeats 1600000 in
theorem isNoNumber_any (s:ByteArray) (r:Bool) (w:World) (hr:Hid (noNum s=r)) (hs:s.size≤100000) :
 Calls Tryz.prog 54 #[.string s] w fun e w'=>e = .returned (.bool r)∧Below w.heap.size w w':=by
 obtain ⟨b,hb⟩:∃ b,(rval s.data.toList).isSome=b:=⟨_,rfl⟩
 obtain rfl:r = !b:=by rw [← hr.out];unfold noNum;rw [hb]
 have HB:=Lib.hid hb
 clear hb hr
 go_enter Tryz.func54,Tryz.ntmps54
 go_wp2_with fail
 refine (qValid_any s b _ HB hs).mono ?_
 rintro e w1 ⟨rfl,hb⟩
 have HW:=Lib.hid hb
 clear hb
 go_wp2
 go_ret
 exact ⟨rfl,HW.out⟩
set_option maxRecDepth 100000 in
set_option maxHeartbeats 1600000 in
theorem isColumn_any (c:Int) (r:Bool) (w:World) (hr:Hid (okCol c=r)) :
 Calls Tryz.prog 58 #[.int .i64 c] w fun e w'=>e = .returned (.bool r)∧w'=w:=by
 have h:=hr.out
 unfold okCol at h
 clear hr
 by_cases h1:0≤c
 · by_cases h2:c<2048
   · obtain rfl:r=true:=by rw [← h];simp [h1,h2]
     go_enter Tryz.func58,Tryz.ntmps58
     go_wp2
     all_goals first | (exfalso;omega) | (go_ret;exact ⟨rfl,rfl⟩)
   · obtain rfl:r=false:=by rw [← h];simp [h1,h2]
     go_enter Tryz.func58,Tryz.ntmps58
     go_wp2
     all_goals first | (exfalso;omega) | (go_ret;exact ⟨rfl,rfl⟩)
 · obtain rfl:r=false:=by rw [← h];simp [h1]
   go_enter Tryz.func58,Tryz.ntmps58
   go_wp2
   all_goals first | (exfalso;omega) | (go_ret;exact ⟨rfl,rfl⟩)
abbrev Ts:={ t:Tm // t.2.size≤100000 }
instance:Inhabited Ts:=⟨⟨(0,⟨#[]⟩),by decide⟩⟩
def encS (t:Ts):List Value:=[.int .i64 t.1.1,.string t.1.2]
theorem toTs:∀ (l:List Tm),(∀ t∈l,t.2.size≤100000)→∃ z:List Ts,z.map Subtype.val=l
 | [],_=>⟨[],rfl⟩
 | t::l,h=>by
  obtain ⟨z,hz⟩:=toTs l (fun x hx=>h x (by simp [hx]))
  exact ⟨⟨t,h t (by simp)⟩::z,by simp [hz]⟩
set_option maxRecDepth 100000 in
set_option maxHeartbeats 1600000 in
theorem check1_pred (w:World):Go.Proofs.PredBelow Tryz.prog 111 #[] (fun t:Ts => .agg (encS t).toArray) (fun t=>noNum t.1.2) w:=by
 rintro W ⟨⟨c,s⟩,hs⟩ hW
 have HW:=Lib.hid hW
 obtain ⟨r,hr⟩:∃ r,noNum s=r:=⟨_,rfl⟩
 show Calls _ _ (#[.agg #[.int .i64 c,.string s]]++#[]) W fun e w'=>e = .returned (.bool (noNum s))∧_
 rw [hr]
 have HR:=Lib.hid hr
 clear hr hW
 go_enter Tryz.func111,Tryz.ntmps111
 go_wp2_with fail
 refine (isNoNumber_any s r _ HR hs).mono ?_
 rintro e w1 ⟨rfl,hb⟩
 have HB:=Lib.hid ((HW.out.alloc HW.out.size _).trans (hb.mono (Nat.le_trans HW.out.size (by simp))))
 clear hb
 go_wp2
 go_ret
 exact ⟨rfl,HB.out⟩
set_option maxRecDepth 100000 in
set_option maxHeartbeats 1600000 in
theorem check2_pred (w:World):Go.Proofs.PredBelow Tryz.prog 112 #[] (fun t:Ts => .agg (encS t).toArray) (fun t => !okCol t.1.1) w:=by
 rintro W ⟨⟨c,s⟩,hs⟩ hW
 have HW:=Lib.hid hW
 obtain ⟨r,hr⟩:∃ r,okCol c=r:=⟨_,rfl⟩
 show Calls _ _ (#[.agg #[.int .i64 c,.string s]]++#[]) W fun e w'=>e = .returned (.bool (!okCol c))∧_
 rw [hr]
 have HR:=Lib.hid hr
 clear hr hW
 go_enter Tryz.func112,Tryz.ntmps112
 go_wp2_with fail
 refine (isColumn_any c r _ HR).mono ?_
 rintro e w1 ⟨rfl,rfl⟩
 go_wp2
 go_ret
 exact ⟨rfl,HW.out.alloc HW.out.size _⟩
theorem contains_any (g:Nat) (p:Tm→Bool) (v:Value) (l:List Tm) (w:World) (eg:∀ args w,(callFunc g args).run Tryz.prog w = .ok (.enter g args) w) (hp:Go.Proofs.PredBelow Tryz.prog g #[] (fun t:Ts => .agg (encS t).toArray) (fun t=>p t.1) w) (hv:TsAt w v l) (hl:∀ t∈l,t.2.size≤100000) (hn:l.length≤100000) (h0:l≠[]) :
 Calls Tryz.prog 110 #[v,.func (.func g) #[] #[]] w fun e w'=>e = .returned (.bool (l.any p))∧Below w.heap.size w w':=by
 obtain ⟨ad,n,cap,rfl,hlen,hv⟩:=hv
 obtain ⟨z,hz⟩:=toTs l hl
 have hzl:z.length=l.length:=by rw [← hz];simp
 rcases hv with h | ⟨b,off,rfl,hb,hc⟩
 · exact absurd (List.length_eq_zero_iff.1 (hlen.symm.trans h)) h0
 · have h:=Go.Proofs.AnyQ.slices_ContainsFunc Tryz.contT 2 Tryz.isAgg68 Tryz.sizeOf68 encS (fun _=>rfl) (fun t=>p t.1) g #[] eg b off n cap z w hp (by omega) (by omega) hb (fun j hj i u hu=>by
    have hj':j<l.length:=by omega
    have e1:z[j]! = z[j]:=getElem!_pos z j hj
    have e2:l[j]=(z[j]).1:=by simp [← hz]
    obtain ⟨h1,h2⟩:=hc j hj'
    rw [e2] at h1 h2
    rw [e1] at hu
    match i,hu with
    | 0,hu=>simp [encS] at hu;subst hu;exact h1
    | 1,hu=>simp [encS] at hu;subst hu;exact h2
    | i+2,hu=>simp [encS] at hu)
   have e3:((z.take n).any fun t=>p t.1)=l.any p:=by
    rw [List.take_of_length_le (by omega), ← hz,List.any_map];rfl
   rw [e3] at h
   exact h
theorem contains_nil (ad:Option Addr) (cap:Nat) (fv:Value) (w:World):Calls Tryz.prog 110 #[.slice ad 0 cap,fv] w fun e w'=>e = .returned (.bool false)∧w'=w:=by
 have h:Calls Tryz.prog 92 #[.slice ad 0 cap,fv] w fun e w'=>e = .returned (.int .i64 (-1))∧w'=w:=by
  go_enter Tryz.func92,Tryz.ntmps92
  go_wp2
  go_loopw [8] (fun i wr=>i = .int .i64 0∧wr=w) (fun _ _=>0)
  case atStart=>exact ⟨rfl,rfl⟩
  case round =>
   obtain ⟨rfl,rfl⟩:=hrel
   go_wp2
   go_ret
   exact ⟨rfl,rfl⟩
 go_enter Tryz.func110,Tryz.ntmps110
 go_wp2_with (first | (go_at_call 92;refine h.mono ?_;rintro e w' ⟨rfl,rfl⟩))
 go_ret
 exact ⟨rfl,rfl⟩
theorem contains_all (g:Nat) (p:Tm→Bool) (v:Value) (l:List Tm) (r:Bool) (w:World) (eg:∀ args w,(callFunc g args).run Tryz.prog w = .ok (.enter g args) w) (hp:Go.Proofs.PredBelow Tryz.prog g #[] (fun t:Ts => .agg (encS t).toArray) (fun t=>p t.1) w) (hv:TsAt w v l) (hl:∀ t∈l,t.2.size≤100000) (hn:l.length≤100000) (hr:Hid (l.any p=r)) :
 Calls Tryz.prog 110 #[v,.func (.func g) #[] #[]] w fun e w'=>e = .returned (.bool r)∧Below w.heap.size w w':=by
 obtain rfl:=hr.out
 cases l with
 | nil =>
  obtain ⟨ad,n,cap,rfl,hlen,_⟩:=hv
  obtain rfl:n=0:=by simpa using hlen
  refine (contains_nil ad cap _ w).mono ?_
  rintro e w' ⟨rfl,rfl⟩
  exact ⟨rfl,Below.refl _ _⟩
 | cons t l=>exact contains_any g p v (t::l) w eg hp hv hl hn (by simp)
set_option maxRecDepth 100000 in
set_option maxHeartbeats 1600000 in
theorem checkParts_any (c:ByteArray) (ad:Option Addr) (n cap:Nat) (l:List Tm) (r:Int) (w:World) (hv:TsAt w (.slice ad n cap) l) (hc:c.size≤100000) (hl:∀ t∈l,t.2.size≤100000) (hn:l.length≤100000) (hr:Hid (partsErr c l=r)) :
 Calls Tryz.prog 71 #[.string c,.slice ad n cap] w fun e w'=>e = .returned (.int .i64 r)∧Below w.heap.size w w':=by
 have HV:=Lib.hid hv
 have HL:=Lib.hid hl
 have HN:=Lib.hid (And.intro trivial hn)
 obtain ⟨b1,hb1⟩:∃ b,noNum c=b:=⟨_,rfl⟩
 obtain ⟨b2,hb2⟩:∃ b,(l.any fun t=>noNum t.2)=b:=⟨_,rfl⟩
 obtain ⟨b3,hb3⟩:∃ b,(l.any fun t => !okCol t.1)=b:=⟨_,rfl⟩
 have hr2:=hr.out
 unfold partsErr at hr2
 rw [hb1,hb2,hb3] at hr2
 have HB1:=Lib.hid hb1
 have HB2:=Lib.hid hb2
 have HB3:=Lib.hid hb3
 have HR:=Lib.hid hr2
 clear hv hl hn hb1 hb2 hb3 hr2 hr
 go_enter Tryz.func71,Tryz.ntmps71
 go_wp2_with fail
 refine (isNoNumber_any c b1 _ HB1 hc).mono ?_
 rintro e w1 ⟨rfl,hb⟩
 have HW1:=Lib.hid hb
 have HV1:=Lib.hid (HV.out.keep hb (Nat.le_refl _))
 clear hb
 cases b1
 · go_wp2_with fail
   refine (contains_all 111 (fun t=>noNum t.2) _ l b2 _ (enters_of Tryz.func111 (by kernel_rfl) rfl) (check1_pred _) HV1.out HL.out HN.out.2 HB2).mono ?_
   rintro e w2 ⟨rfl,hb⟩
   have HW2:=Lib.hid (HW1.out.trans (hb.mono HW1.out.size))
   have HV2:=Lib.hid (HV1.out.keep hb (Nat.le_refl _))
   clear hb
   cases b2
   · go_wp2_with fail
     refine (contains_all 112 (fun t => !okCol t.1) _ l b3 _ (enters_of Tryz.func112 (by kernel_rfl) rfl) (check2_pred _) HV2.out HL.out HN.out.2 HB3).mono ?_
     rintro e w3 ⟨rfl,hb⟩
     have HW3:=Lib.hid (HW2.out.trans (hb.mono HW2.out.size))
     clear hb
     cases b3
     · obtain rfl:r=0:=HR.out.symm
       go_wp2
       go_ret
       exact ⟨rfl,HW3.out⟩
     · obtain rfl:r=2:=HR.out.symm
       go_wp2
       go_ret
       exact ⟨rfl,HW3.out⟩
   · obtain rfl:r=3:=HR.out.symm
     go_wp2
     go_ret
     exact ⟨rfl,HW2.out⟩
 · obtain rfl:r=3:=by have:=HR.out;simpa using this.symm
   go_wp2
   go_ret
   exact ⟨rfl,HW1.out⟩
end Go.Proofs.YtkhdocdddicgpaaGreatDoor
