/- Part 9: what the law's walk leans on. -/
import Derived.Test.YtkhdocdddicgpaaGreatDoorYt6
import Derived.Deep.LoopGhost
import Derived.Deep.Cut
import Derived.Deep.CutRange
import Derived.Deep.DeepCutAuto
set_option linter.unusedVariables false
set_option linter.unusedSimpArgs false
namespace Go.Proofs.YtkhdocdddicgpaaGreatDoor
open Go.RowKit _root_.Go.Proofs.YtkhdocdddicgpaaGreatDoor.Nm
def dg (n:Nat):List Nat:=(ds 10 n).reverse
def dval (xs:List Nat):Nat:=vl 10 xs.reverse
theorem dval_nil:dval []=0:=rfl
theorem dval_snoc (xs:List Nat) (x:Nat):dval (xs++[x])=x+10*dval xs:=by unfold dval;rw [List.reverse_append];rfl
theorem dval_cons (x:Nat) (xs:List Nat):dval (x::xs)=dval xs+10 ^ xs.length*x:=by
 unfold dval;rw [List.reverse_cons,vl_append,List.length_reverse];simp [vl]
theorem dval_zero (xs:List Nat):dval (0::xs)=dval xs:=by rw [dval_cons];simp
theorem dval_dg (n:Nat):dval (dg n)=n:=by unfold dval dg;rw [List.reverse_reverse,vl_ds 10 (by omega)]
theorem dg_lt (n:Nat):∀ x∈dg n,x<10:=fun x hx=>ds_lt 10 (by omega) n x (List.mem_reverse.1 hx)
theorem dg_zero:dg 0=[]:=by unfold dg;rw [ds_zero];rfl
theorem dg_dval (xs:List Nat) (hx:∀ x∈xs,x<10) (hh:xs.head?≠some 0):dg (dval xs)=xs:=by
 unfold dg dval
 rw [ds_vl 10 (by omega) _ (fun x h=>hx x (List.mem_reverse.1 h)) (by rwa [List.getLast?_reverse]),List.reverse_reverse]
theorem dg_len (n k:Nat) (h:n<10 ^ k):(dg n).length≤k:=by unfold dg;rw [List.length_reverse];exact ds_length_le 10 (by omega) n k h
def Ref (W:World) (v:Value) (z:Int):Prop:=∃ sv,v = .agg #[.bool (isNeg z),sv]∧Rd .i64 W sv (dg z.natAbs)
theorem Ref.keep {w w':World} {v:Value} {z:Int} {B:Nat} (h:Ref w v z) (hb:Below B w w') (hB:w.heap.size≤B):Ref w' v z:=by
 obtain ⟨sv,h1,h2⟩:=h
 exact ⟨sv,h1,h2.keep hb hB⟩
theorem Ref.form {w:World} {v:Value} {z:Int} (h:Ref w v z):∃ a c,v = .agg #[.bool (isNeg z),.slice a (dg z.natAbs).length c]:=by
 obtain ⟨sv,h1,a,c,h2,_⟩:=h
 exact ⟨a,c,by rw [h1,h2]⟩
theorem Rd.box {W:World} {v:Value} {xs:List Nat} {g:Nat} {n:Bool} {a:Option Addr} {l c:Nat} (h:Rd .i64 W v xs) (hb:Bx W g (.bool n) (.slice a l c)) (x y:Value) :
 Rd .i64 ((W.setCell ⟨g,0,none⟩ x).setCell ⟨g,1,none⟩ y) v xs:=by
 refine h.only (b:=g) (((Only.refl g W).set 0 x).set 1 y) ?_
 intro ad m k e hm he
 obtain ⟨a',c',e2,_,_,h3⟩:=h
 rw [e2] at e
 simp only [Value.slice.injEq] at e
 obtain ⟨rfl,rfl,rfl⟩:=e
 obtain ⟨g',off,e3,hg,hr⟩:=h3 (by rintro rfl;simp at hm)
 cases e3
 have hc:=hr 0 hm
 rw [show g'=g from he] at hc
 obtain ⟨T,hb⟩:=hb
 simp only [World.cell?,hb] at hc
 rcases Nat.lt_or_ge (off+0) 2 with h2 | h2
 · have h4:off=0∨off=1:=by omega
   rcases h4 with rfl | rfl <;> simp at hc
 · rw [Array.getElem?_eq_none (by simpa using h2)] at hc
   cases hc
theorem sz_zero (b:Bool):sz b 0=0:=by unfold sz;cases b <;> simp
theorem alloc_store (w:World) (a b x y:Value) (T:TypeId):((w.alloc (.cells #[a,b] T)).setCell ⟨w.heap.size,0,none⟩ x).setCell ⟨w.heap.size,1,none⟩ y=w.alloc (.cells #[x,y] T):=by
 rw [World.setCell_alloc_at _ _ _ _ _ rfl,World.setCell_alloc_at _ _ _ _ _ rfl]
 rfl
def RefPost (z:Int) (w:World) (e:Ending) (w':World):Prop:=∃ v,e = .returned v∧Ref w' v z∧Below w.heap.size w w'
theorem Bx.put0 {W:World} {g:Nat} {x y:Value} (h:Bx W g x y) (x':Value):Bx (W.setCell ⟨g,0,none⟩ x') g x' y:=by
 have hlt:=h.lt
 obtain ⟨T,h⟩:=h
 rw [Array.getElem?_eq_getElem hlt] at h
 have h:=Option.some.inj h
 refine ⟨T,?_⟩
 show (W.heap.modify g _)[g]?=_
 rw [Array.getElem?_eq_getElem (by simpa using hlt),Array.getElem_modify_self,h]
 simp
theorem Bx.put1 {W:World} {g:Nat} {x y:Value} (h:Bx W g x y) (y':Value):Bx (W.setCell ⟨g,1,none⟩ y') g x y':=by
 have hlt:=h.lt
 obtain ⟨T,h⟩:=h
 rw [Array.getElem?_eq_getElem hlt] at h
 have h:=Option.some.inj h
 refine ⟨T,?_⟩
 show (W.heap.modify g _)[g]?=_
 rw [Array.getElem?_eq_getElem (by simpa using hlt),Array.getElem_modify_self,h]
 simp
theorem Bx.put {W:World} {g:Nat} {x y:Value} (h:Bx W g x y) (x' y':Value):Bx ((W.setCell ⟨g,0,none⟩ x').setCell ⟨g,1,none⟩ y') g x' y':=(h.put0 x').put1 y'
theorem RefPost.boxed {w w2:World} {g:Nat} {n n0:Bool} {a a0:Option Addr} {l l0 c c0:Nat} {z:Int} (h:Ref w2 (.agg #[.bool n,.slice a l c]) z) (hx:Bx w2 g (.bool n0) (.slice a0 l0 c0)) (hb:Below w.heap.size w w2) (hg:w.heap.size≤g) :
 RefPost z w (.returned (.agg #[.bool n,.slice a l c])) ((w2.setCell ⟨g,0,none⟩ (.bool n)).setCell ⟨g,1,none⟩ (.slice a l c)):=by
 obtain ⟨sv,h1,h2⟩:=h
 simp only [Value.agg.injEq,Array.mk.injEq,List.cons.injEq,and_true] at h1
 obtain ⟨e1,rfl⟩:=h1
 refine ⟨_,rfl,⟨_,by rw [e1],h2.box hx _ _⟩,hb.trans ((((Only.refl g w2).set 0 _).set 1 _).below hg)⟩
theorem Rd.tail {W:World} {g off c x:Nat} {r:List Nat} (hc:r.length+1≤c) (hcap:Cap (r.length+1) c) (hg:g<W.heap.size) (hr:Row .i64 W g off (x::r)) :
 Rd .i64 W (.slice (if c=1 then some ⟨g,off,none⟩ else some ⟨g,off+1,none⟩) r.length (c-1)) r:=by
 have hcap2:Cap r.length (c-1):=by obtain ⟨h1,h2⟩:=hcap;exact ⟨by omega,by omega⟩
 by_cases h1:c=1
 · have:r=[]:=List.length_eq_zero_iff.1 (by omega)
   subst this
   exact Rd.nil _ _ _ _ hcap2
 · rw [if_neg h1]
   refine Rd.mk (by omega) hcap2 hg (fun i hi => ?_)
   have:=hr (i+1) (by simp;omega)
   rw [show off+1+i=off+(i+1) from by omega]
   simpa using this
set_option maxRecDepth 100000 in
set_option maxHeartbeats 1600000 in
theorem make0_any (neg:Bool) (v:Value) (xs:List Nat) (w:World) (hr:Rd .i64 w v xs) (hx:∀ x∈xs,x<10) :
 Calls Tryz.prog 77 #[.bool neg,v] w (RefPost (sz neg (dval xs)) w):=by
 have hb1:=(Below.refl w.heap.size w).alloc (Nat.le_refl _) (.cells #[.bool false,.slice none 0 0] 31)
 have HB1:=Lib.hid hb1
 have HR1:=Lib.hid (hr.keep hb1 (Nat.le_refl _))
 have HX:=Lib.hid hx
 have HBX:=Lib.hid (Bx.new w (.bool false) (.slice none 0 0) 31)
 clear hb1 hr hx
 go_enter Tryz.func77,Tryz.ntmps77
 go_wp2
 go_loopg [1] xs.length (fun k s1 wr=>∃ ys,Hid (Rd .i64 wr s1 ys)∧Hid (∀ y∈ys,y<10)∧Hid (True∧dval ys=dval xs∧k=ys.length)∧wr=w.alloc (.cells #[.bool false,.slice none 0 0] 31))
 case atStart=>exact ⟨xs,HR1,HX,Lib.hid ⟨trivial,rfl,rfl⟩,rfl⟩
 case round =>
  obtain ⟨ys,HR,HY,HK,rfl⟩:=hrel
  rcases HR.out.cases with ⟨rfl,a,c,rfl,hc⟩ | ⟨h0,g,off,c,rfl,hyc,hc,hg,hrow⟩
  · obtain ⟨f0,f1,f2,f3⟩:=HBX.out.cell
    have HZ:Hid (True∧sz neg (dval xs)=0):=Lib.hid ⟨trivial,by rw [← HK.out.2.1,dval_nil,sz_zero]⟩
    clear hc
    go_wp2
    refine bodyPost_ret (v := .agg #[.bool false,.slice none 0 0]) (by simp [results,Tryz.results77,go_sem,f0,f1]) rfl ?_
    exact ⟨_,rfl,⟨.slice none 0 0,by rw [HZ.out.2];rfl,by rw [HZ.out.2,show (0:Int).natAbs=0 from rfl,dg_zero];exact Rd.nil _ _ none 0 ⟨by omega,by unfold maxLen;omega⟩⟩,HB1.out⟩
  · match ys,h0,HY,HK,HR,hyc,hc,hrow with
    | y::r,h0,HY,HK,HR,hyc,hc,hrow =>
     have hy10:=HY.out y List.mem_cons_self
     have c0:=hrow 0 h0
     rw [List.getElem_cons_zero,Nat.add_zero] at c0
     by_cases hy:y=0
     · subst hy
       have HT:=Lib.hid (Rd.tail (by simpa using hyc) (by simpa using hc) hg hrow)
       have HY2:Hid (∀ y∈r,y<10):=Lib.hid (fun x hx=>HY.out x (List.mem_cons_of_mem _ hx))
       have HK2:Hid (True∧dval r=dval xs∧gk=r.length+1):=Lib.hid ⟨trivial,by rw [← HK.out.2.1,dval_zero],by rw [HK.out.2.2];rfl⟩
       obtain ⟨l,hl⟩:∃ l,r.length=l:=⟨_,rfl⟩
       have hcl:l+1≤c:=by rw [← hl];simpa using hyc
       have hcm:c≤maxLen:=hc.2
       rw [List.length_cons,hl]
       rw [hl] at HT HK2
       have HL:=Lib.hid (And.intro trivial hl)
       clear hl hyc hc hrow HK HY HR h0
       by_cases hc1:c=1
       · rw [if_pos hc1] at HT
         subst hc1
         obtain rfl:l=0:=by omega
         clear hcl
         go_wp2
         go_roundg 0
         case measure=>have:=HK2.out.2.2;omega
         case rel=>exact ⟨r,HT,HY2,Lib.hid ⟨trivial,HK2.out.2.1,HL.out.2.symm⟩,rfl⟩
       · rw [if_neg hc1] at HT
         go_wp2
         go_roundg l
         case measure=>have:=HK2.out.2.2;omega
         case rel=>exact ⟨r,HT,HY2,Lib.hid ⟨trivial,HK2.out.2.1,HL.out.2.symm⟩,rfl⟩
     · have hyb:((y:Int)==0)=false:=by rw [beq_eq_false_iff_ne];omega
       have HD:Hid (True∧dg (dval xs)=y::r):=Lib.hid ⟨trivial,by rw [← HK.out.2.1];exact dg_dval _ HY.out (by simpa using hy)⟩
       have hn0:0<dval xs:=by
        rcases Nat.eq_zero_or_pos (dval xs) with h | h
        · have h2:=HD.out.2
          rw [h,dg_zero] at h2
          cases h2
        · exact h
       have HN0:=Lib.hid (And.intro trivial hn0)
       obtain ⟨f0,f1,f2,f3⟩:=HBX.out.cell
       obtain ⟨l,hl⟩:∃ l,r.length=l:=⟨_,rfl⟩
       have hz:((l:Int)+1==0)=false:=by rw [beq_eq_false_iff_ne];omega
       rw [List.length_cons,hl] at HR ⊢
       have HR2:=Lib.hid (HR.out.box HBX.out (.bool neg) (.slice (some ⟨g,off,none⟩) (l+1) c))
       rw [alloc_store] at HR2
       have HB2:=Lib.hid ((Below.refl w.heap.size w).alloc (Nat.le_refl _) (.cells #[.bool neg,.slice (some ⟨g,off,none⟩) (l+1) c] 31))
       have HBX2:=Lib.hid (Bx.new w (.bool neg) (.slice (some ⟨g,off,none⟩) (l+1) c) 31)
       clear hyc hc hrow hn0 hl HK HY HR HR1 HB1
       go_wp2
       obtain ⟨e0,e1,_,_⟩:=HBX2.out.cell
       refine bodyPost_ret (v := .agg #[.bool neg,.slice (some ⟨g,off,none⟩) (l+1) c]) (by simp [results,Tryz.results77,go_sem,e0,e1]) rfl ?_
       exact ⟨_,rfl,⟨_,by rw [sz_neg _ _ HN0.out.2],by rw [sz_abs,HD.out.2];exact HR2.out⟩,HB2.out⟩
end Go.Proofs.YtkhdocdddicgpaaGreatDoor
set_option linter.unusedVariables false
set_option linter.unusedSimpArgs false
namespace Go.Proofs.YtkhdocdddicgpaaGreatDoor
open Go.RowKit _root_.Go.Proofs.YtkhdocdddicgpaaGreatDoor.Nm
def dgs (l:List UInt8):List Nat:=(l.filter (fun c=>c != 45)).map dig
theorem dgs_snoc (l:List UInt8) (c:UInt8):dgs (l++[c])=if c=45 then dgs l else dgs l++[dig c]:=by
 unfold dgs
 rw [List.filter_append,List.map_append]
 by_cases h:c=45
 · rw [if_pos h,h];simp
 · rw [if_neg h];simp [h]
theorem any_snoc (l:List UInt8) (c:UInt8):(l++[c]).any (fun c=>c==45)=(l.any (fun c=>c==45) || c==45):=by
 rw [List.any_append];simp
theorem dgs_digits (l:List UInt8) (h:l.all isDig=true):dgs l=l.map dig∧l.any (fun c=>c==45)=false:=by
 have h45:∀ c∈l,c≠45:=by
  rintro c hc rfl
  have:=List.all_eq_true.1 h _ hc
  simp [isDig] at this
 refine ⟨?_,?_⟩
 · unfold dgs
   rw [List.filter_eq_self.2 (fun c hc=>by simp [h45 c hc])]
 · rw [List.any_eq_false]
   intro c hc
   simpa using h45 c hc
theorem dval_map (l:List UInt8):dval (l.map dig)=tv l:=by
 unfold dval tv;rw [List.map_reverse]
theorem of_canon (l:List UInt8) (h:canon l=true):sz (l.any (fun c=>c==45)) (dval (dgs l))=zv l∧(∀ x∈dgs l,x<10)∧(∀ c∈l,c=45∨isDig c=true):=by
 by_cases h45:l.head?=some 45
 · cases l with
   | nil=>simp at h45
   | cons c r =>
    simp at h45
    subst h45
    rw [canon_neg] at h
    simp only [Bool.and_eq_true] at h
    obtain ⟨h1,h2⟩:=canonN_parts h.1.1
    obtain ⟨e1,e2⟩:=dgs_digits r h1
    have e3:dgs (45::r)=dgs r:=by unfold dgs;simp
    refine ⟨?_,?_,?_⟩
    · rw [e3,e1,dval_map,zv_neg];unfold sz;simp
    · rw [e3,e1]
      intro x hx
      obtain ⟨c,hc,rfl⟩:=List.mem_map.1 hx
      exact dig_lt c (List.all_eq_true.1 h1 c hc)
    · intro c hc
      rcases List.mem_cons.1 hc with rfl | hc
      · exact .inl rfl
      · exact .inr (List.all_eq_true.1 h1 c hc)
 · rw [canon_pos l h45] at h
   simp only [Bool.and_eq_true] at h
   obtain ⟨h1,h2⟩:=canonN_parts h.1
   obtain ⟨e1,e2⟩:=dgs_digits l h1
   refine ⟨?_,?_,?_⟩
   · rw [e1,e2,dval_map,zv_pos l h45];unfold sz;simp
   · rw [e1]
     intro x hx
     obtain ⟨c,hc,rfl⟩:=List.mem_map.1 hx
     exact dig_lt c (List.all_eq_true.1 h1 c hc)
   · intro c hc
     exact .inr (List.all_eq_true.1 h1 c hc)
def Ow (W:World) (B:Nat) (v:Value) (xs:List Nat):Prop:=W.ownsRow B 3 1 v xs.length (xs.map (fun x=>Value.int .i64 (x:Nat)))
theorem Ow.rd {W:World} {B:Nat} {v:Value} {xs:List Nat} (h:Ow W B v xs) (hl:xs.length≤60000):Rd .i64 W v xs:=by
 rcases h.2 with ⟨rfl,h0⟩ | ⟨g,cap,cur,rfl,hB,hg,h1,h2,h3,h4⟩
 · have:xs=[]:=List.length_eq_zero_iff.1 h0
   subst this
   exact Rd.nil _ _ _ _ ⟨by omega,by unfold maxLen;omega⟩
 · have hlt:g<W.heap.size:=by
    rcases Nat.lt_or_ge g W.heap.size with h' | h'
    · exact h'
    · simp [Array.getElem?_eq_none h'] at hg
   refine Rd.mk h1 ⟨hl,h2⟩ hlt (fun i hi => ?_)
   rw [Nat.mul_one] at h4
   have h5:(cur.toList.take xs.length)[i]?=some (Value.int .i64 (xs[i]:Nat)):=by rw [h4];simp [hi]
   rw [List.getElem?_take,if_pos hi] at h5
   simp only [World.cell?,hg,Nat.zero_add]
   simpa using h5
theorem info64:(Tryz.prog.info? 3).map (fun i=>(i.zero,i.size,i.bytes))=some (some (.int .i64 0),1,8):=by kernel_rfl
structure OfInv (w:World) (l:List UInt8) (k:Nat) (wr:World) (v:Value):Prop where
 own:Ow wr (w.heap.size+1) v (dgs (l.take k))
 below:Below (w.heap.size+1) (w.alloc (.cells #[.bool false,.slice none 0 0] 31)) wr
set_option maxRecDepth 100000 in
set_option maxHeartbeats 3200000 in
theorem rOf_any (s:ByteArray) (h:canon s.data.toList=true) (w:World) :
 Calls Tryz.prog 43 #[.string s] w (RefPost (zv s.data.toList) w):=by
 have hsz:=canon_size s h
 obtain ⟨hz,hd,hc⟩:=of_canon _ h
 have HZ:=Lib.hid (And.intro trivial hz)
 have HD:=Lib.hid hd
 have HC:=Lib.hid hc
 obtain ⟨z,hzz⟩:∃ z,zv s.data.toList=z:=⟨_,rfl⟩
 rw [hzz] at HZ ⊢
 clear h hz hd hc hzz
 obtain ⟨i0,hi,hz0,hz1,hz2⟩:=info_parts info64
 have HI:=Lib.hid hi
 have HZ0:=Lib.hid hz0
 have HZ1:=Lib.hid hz1
 have HZ2:=Lib.hid hz2
 clear hi hz0 hz1 hz2
 go_enter Tryz.func43,Tryz.ntmps43
 go_wp2
 go_loopw [3,4,5] (fun n v i wr=>∃ k:Nat,k≤s.size∧i = .int .i64 k∧Hid (n = .bool ((s.data.toList.take k).any (fun c=>c==45)))∧Hid (OfInv w s.data.toList k wr v)) (fun _ _ i _=>s.size-(intOf i).toNat)
 case atStart=>exact ⟨0,by omega,rfl,Lib.hid rfl,Lib.hid ⟨⟨by simp [dgs],.inl ⟨rfl,rfl⟩⟩,Below.refl _ _⟩⟩
 case round =>
  obtain ⟨k,hk,rfl,HN,HI1⟩:=hrel
  by_cases hlt:k<s.size
  · have hlt':(k:Int)<s.size:=by omega
    have hb:=byte_at s k hlt
    have htk:s.data.toList.take (k+1)=s.data.toList.take k++[s[k]]:=by rw [List.take_add_one,hb];rfl
    by_cases h45:s[k]=45
    · have hc1:((s[k].toNat:Int)==45)=true:=by rw [h45];rfl
      have HN2:Hid (Value.bool true = .bool ((s.data.toList.take (k+1)).any (fun c=>c==45))):=Lib.hid (by rw [htk,any_snoc,h45];simp)
      have HI2:Hid (OfInv w s.data.toList (k+1) wr u4):=Lib.hid ⟨by have:=HI1.out.own;rw [htk,dgs_snoc,if_pos h45];exact this,HI1.out.below⟩
      clear hb htk
      go_wp2
      go_roundw
      case rel=>exact ⟨k+1,by omega,by go_num,HN2,HI2⟩
      case measure=>simp [intOf];omega
    · have hdig:isDig s[k]=true:=by
       rcases HC.out s[k] (List.mem_iff_getElem?.2 ⟨k,hb⟩) with h | h
       · exact absurd h h45
       · exact h
      have hc1:((s[k].toNat:Int)==45)=false:=by
       rw [beq_eq_false_iff_ne];intro e;exact h45 (UInt8.toNat_inj.1 (by show s[k].toNat=45;omega))
      have HN2:Hid ((s.data.toList.take (k+1)).any (fun c=>c==45)=(s.data.toList.take k).any (fun c=>c==45)):=Lib.hid (by rw [htk,any_snoc];simp [h45])
      obtain ⟨d,hd⟩:∃ d,dig s[k]=d:=⟨_,rfl⟩
      have hs:((s[k]).toNat:Int)-48=d:=by rw [← hd];unfold dig;simp [isDig] at hdig;omega
      have hd10:d<10:=by rw [← hd];exact dig_lt _ hdig
      have HDG:Hid (dgs (s.data.toList.take (k+1))=dgs (s.data.toList.take k)++[d]):=Lib.hid (by rw [htk,dgs_snoc,if_neg h45,hd])
      have e6:IntKind.u8.wrap (d:Int)=d:=IntWalk.u8_in _ (by omega)
      have hlen:(dgs (s.data.toList.take k)).length≤401:=by
       unfold dgs
       rw [List.length_map]
       refine Nat.le_trans (List.length_filter_le _ _) ?_
       rw [List.length_take];omega
      have hB:w.heap.size+1≤wr.heap.size:=by have:=HI1.out.below.size;rw [World.size_alloc] at this;exact this
      clear hb htk hdig hd
      go_wp2_with (at_builtin;refine wpList_append_own _ rfl _ _ 29 rfl (w.heap.size+1) 3 i0 (.int .i64 0) 1 8 Tryz.underlying29 HI.out HZ0.out HZ1.out HZ2.out rfl (by decide) _ _ _ rfl (HI1.out.own.alloc _) ⟨wr.heap.size,0,none⟩ 1 1 [.int .i64 (d:Nat)] rfl rfl ?c1 ?c2 ?c3 ?c4 ?c5 ?_)
      case c1 =>
       intro j u hj
       match j,hj with
       | 0,hj=>simp at hj;subst hj;simp [Addr.add]
      case c2=>intro u hu;simp at hu;subst hu;rfl
      case c3=>unfold maxLen;omega
      case c4=>omega
      case c5=>simp;omega
      intro v' w2 hown' hgrow _
      have HI2:Hid (OfInv w s.data.toList (k+1) w2 v'):=Lib.hid ⟨by
       unfold Ow
       rw [HDG.out,List.length_append,List.map_append]
       exact hown',HI1.out.below.trans (((Below.refl _ wr).alloc hB _).grown hgrow (by simp;omega) (fun k hk=>(HI1.out.own.lt k hk).1))⟩
      clear hown' hgrow hlen
      go_wp2
      go_roundw
      case rel=>exact ⟨k+1,by omega,by go_num,Lib.hid (by rw [HN.out,HN2.out]),HI2⟩
      case measure=>simp [intOf];omega
  · have hke:k=s.size:=by omega
    subst hke
    have hta:s.data.toList.take s.size=s.data.toList:=List.take_of_length_le (by rw [len_size];exact Nat.le_refl _)
    have hl:(dgs s.data.toList).length≤401:=by
     unfold dgs
     rw [List.length_map]
     refine Nat.le_trans (List.length_filter_le _ _) ?_
     rw [len_size];omega
    have HO:Hid (Rd .i64 wr u4 (dgs s.data.toList)):=Lib.hid (by have h:=HI1.out.own;rw [hta] at h;exact h.rd (by omega))
    have HBL:=Lib.hid HI1.out.below
    obtain ⟨nb,hnb⟩:∃ b,(s.data.toList.any fun c=>c==45)=b:=⟨_,rfl⟩
    have HN2:Hid (u3 = .bool nb):=Lib.hid (by rw [HN.out,hta,hnb])
    rw [hnb] at HZ
    have HBX:Hid (Bx wr w.heap.size (.bool false) (.slice none 0 0)):=Lib.hid ((Bx.new w (.bool false) (.slice none 0 0) 31).below HBL.out (by omega))
    have HB0:=Lib.hid (((Below.refl w.heap.size w).alloc (Nat.le_refl _) (.cells #[.bool false,.slice none 0 0] 31)).trans (HBL.out.mono (by omega)))
    clear hta hl hnb HN HI1
    obtain rfl:=HN2.out
    go_wp2_with fail
    refine (make0_any nb u4 _ wr HO.out HD.out).mono ?_
    rintro e w2 ⟨v,rfl,hv,hb⟩
    rw [HZ.out.2] at hv
    obtain ⟨a,c,rfl⟩:=hv.form
    have HBX2:=Lib.hid (HBX.out.below hb HBX.out.lt)
    have HW:=Lib.hid (HB0.out.trans (hb.mono HB0.out.size))
    have HV:=Lib.hid hv
    clear hv hb
    obtain ⟨f0,f1,f2,f3⟩:=HBX2.out.cell
    go_wp2
    obtain ⟨l0,l1,_,_⟩:=(HBX2.out.put (.bool (isNeg z)) (.slice a (dg z.natAbs).length c)).cell
    refine bodyPost_ret (v := .agg #[.bool (isNeg z),.slice a (dg z.natAbs).length c]) (by simp only [results,Tryz.results43];simp [go_sem,l0,l1]) rfl ?_
    exact RefPost.boxed HV.out HBX2.out HW.out (Nat.le_refl _)
end Go.Proofs.YtkhdocdddicgpaaGreatDoor
set_option linter.unusedVariables false
set_option linter.unusedSimpArgs false
namespace Go.Proofs.YtkhdocdddicgpaaGreatDoor
open Go.RowKit _root_.Go.Proofs.YtkhdocdddicgpaaGreatDoor.Nm
def cr (t:List UInt8):Bool:=decide (1≤t.length)&&decide (t.length≤400)&&(t.head? != some 48)&&t.all isDig
theorem cr_short (t:List UInt8) (h:t.length<1):cr t=false:=by unfold cr;rw [decide_eq_false (by omega)];rfl
theorem cr_long (t:List UInt8) (h:400<t.length):cr t=false:=by unfold cr;rw [decide_eq_false (show ¬ t.length≤400 by omega)];simp
theorem cr_head (t:List UInt8) (h:t.head?=some 48):cr t=false:=by unfold cr;rw [h];simp
theorem cr_all (t:List UInt8) (h1:1≤t.length) (h2:t.length≤400) (h3:t.head?≠some 48):cr t=t.all isDig:=by
 unfold cr;rw [decide_eq_true h1,decide_eq_true h2,bne_iff_ne.2 h3];rfl
theorem canon_cr_neg (r:List UInt8):canon (45::r)=cr r:=by
 rw [canon_neg]
 unfold cr canonN
 cases r with
 | nil=>rfl
 | cons c r =>
  cases h1:(c::r).all isDig <;> cases h2:((c::r).head? != some 48) <;> simp [h1,h2]
theorem canon_cr_pos (l:List UInt8) (h:l.head?≠some 45) (h0:l≠[48]):canon l=cr l:=by
 rw [canon_pos l h]
 unfold cr canonN
 cases l with
 | nil=>rfl
 | cons c r =>
  by_cases hc:c=48
  · subst hc
    have hr:r≠[]:=by rintro rfl;exact h0 rfl
    have e1:((48::r).length==1)=false:=by rw [beq_eq_false_iff_ne,List.length_cons];intro e;exact hr (List.length_eq_zero_iff.1 (by omega))
    rw [e1]
    simp
  · have e1:((c::r).head? != some 48)=true:=by simp [hc]
    rw [e1]
    cases h1:(c::r).all isDig <;> simp
set_option maxRecDepth 100000 in
set_option maxHeartbeats 3200000 in
theorem rValid_any (s:ByteArray) (w:World) :
 Calls Tryz.prog 41 #[.string s] w fun e w'=>e = .returned (.bool (canon s.data.toList))∧w=w':=by
 by_cases h0:s.data.toList=[48]
 · have hc:Hid (canon s.data.toList=true):=Lib.hid (by rw [h0];decide +kernel)
   have h0':(s.toList==[48])=true:=by rw [Lib.toList_data,h0];rfl
   clear h0
   go_enter Tryz.func41,Tryz.ntmps41
   go_wp2
   go_ret
   exact ⟨by rw [hc.out];rfl,rfl⟩
 · have h0':(s.toList==[48])=false:=by rw [Lib.toList_data,beq_eq_false_iff_ne];exact h0
   obtain ⟨sb,hsb⟩:∃ sb,decide (s.data.toList[0]?=some 45)=sb:=⟨_,rfl⟩
   obtain ⟨t,HC,HW⟩:∃ t:ByteArray,Hid (canon s.data.toList=cr t.data.toList)∧Hid (True∧(sb=true→0<s.size∧s.extract 1 s.size=t)∧(sb=false→s=t)):=by
    by_cases h45:s.data.toList.head?=some 45
    · obtain ⟨r,hr⟩:=cons_of_head _ h45
      have hs0:0<s.size:=by rw [← len_size,hr];simp
      rw [List.head?_eq_getElem?] at h45
      rw [decide_eq_true h45] at hsb
      exact ⟨s.extract 1 s.size,Lib.hid (by rw [hr,ext_one s r hr];exact canon_cr_neg r),Lib.hid ⟨trivial,fun _=>⟨hs0,rfl⟩,(fun h=>by rw [← hsb] at h;cases h)⟩⟩
    · rw [List.head?_eq_getElem?] at h45
      rw [decide_eq_false h45] at hsb
      exact ⟨s,Lib.hid (canon_cr_pos _ (by rw [List.head?_eq_getElem?];exact h45) h0),Lib.hid ⟨trivial,(fun h=>by rw [← hsb] at h;cases h),fun _=>rfl⟩⟩
   have HSB:=Lib.hid (And.intro trivial hsb)
   clear h0 hsb
   go_enter Tryz.func41,Tryz.ntmps41
   go_upto_region 3 with fail
   go_cut [13] (fun v wx=>v = .bool sb∧wx=w)
   case first =>
    by_cases hs0:0<s.size
    · have hs0':(0:Int)<s.size:=by omega
      cases sb
      · have h45':((s[0].toNat:Int)==45)=false:=by
         have hb:=of_decide_eq_false HSB.out.2
         rw [byte_at s 0 hs0] at hb
         rw [beq_eq_false_iff_ne];intro e;exact hb (congrArg some (UInt8.toNat_inj.1 (by show s[0].toNat=45;omega)))
        go_wp2_with fail
        go_meet
        case rel=>exact ⟨rfl,rfl⟩
      · have h45':((s[0].toNat:Int)==45)=true:=by
         have hb:=of_decide_eq_true HSB.out.2
         rw [byte_at s 0 hs0] at hb
         rw [Option.some.inj hb];rfl
        go_wp2_with fail
        go_meet
        case rel=>exact ⟨rfl,rfl⟩
    · have hs0':¬ (0:Int)<s.size:=by omega
      obtain rfl:sb=false:=by
       rw [← HSB.out.2]
       refine decide_eq_false ?_
       rw [List.getElem?_eq_none (by rw [len_size];omega)]
       intro h;cases h
      go_wp2_with fail
      go_meet
      case rel=>exact ⟨rfl,rfl⟩
   case rest =>
   obtain ⟨rfl,rfl⟩:=hcut
   go_upto_if 13 with fail
   go_cut [0] (fun v wx=>v = .string t∧wx=wc)
   case first =>
    cases sb
    · have h:=HW.out.2.2 rfl
      subst h
      go_wp2_with fail
      go_meet
      case rel=>exact ⟨rfl,rfl⟩
    · obtain ⟨hs0,ht⟩:=HW.out.2.1 rfl
      have HT0:=Lib.hid (And.intro trivial ht)
      have hs1:1≤s.size:=hs0
      clear ht
      go_wp2_with fail
      go_meet
      case rel=>exact ⟨by rw [HT0.out.2],rfl⟩
   case rest =>
   obtain ⟨rfl,rfl⟩:=hcut
   clear HW HSB
   by_cases h1:t.size<1
   · have hc:Hid (canon s.data.toList=false):=Lib.hid (by rw [HC.out];exact cr_short _ (by rw [len_size];omega))
     have h1':(t.size:Int)<1:=by omega
     go_wp2
     go_ret
     exact ⟨by rw [hc.out];rfl,rfl⟩
   · by_cases h2:400<t.size
     · have hc:Hid (canon s.data.toList=false):=Lib.hid (by rw [HC.out];exact cr_long _ (by rw [len_size];omega))
       have h1':¬ (t.size:Int)<1:=by omega
       have h2':(400:Int)<t.size:=by omega
       go_wp2
       go_ret
       exact ⟨by rw [hc.out];rfl,rfl⟩
     · have h1':¬ (t.size:Int)<1:=by omega
       have h2':¬ (400:Int)<t.size:=by omega
       have hp:0<t.size:=by omega
       have hp':(0:Int)<t.size:=by omega
       have hb0:=byte_at t 0 hp
       by_cases h3:t[0]=48
       · have hc:Hid (canon s.data.toList=false):=Lib.hid (by rw [HC.out];exact cr_head _ (by rw [List.head?_eq_getElem?,hb0,h3]))
         have h3':((t[0].toNat:Int)==48)=true:=by rw [h3];rfl
         clear hb0
         go_wp2
         go_ret
         exact ⟨by rw [hc.out];rfl,rfl⟩
       · have h3':((t[0].toNat:Int)==48)=false:=by rw [beq_eq_false_iff_ne];intro e;exact h3 (UInt8.toNat_inj.1 (by show t[0].toNat=48;omega))
         have HH:Hid (canon s.data.toList=t.data.toList.all isDig):=Lib.hid (by rw [HC.out];exact cr_all _ (by rw [len_size];omega) (by rw [len_size];omega) (by rw [List.head?_eq_getElem?,hb0];simpa using h3))
         clear hb0 HC
         go_wp2
         go_loopw [3] (fun i wr=>∃ k:Nat,k≤t.size∧i = .int .i64 k∧Hid ((t.data.toList.take k).all isDig=true)∧wr=wc) (fun i _=>t.size-(intOf i).toNat)
         case atStart=>exact ⟨0,by omega,rfl,Lib.hid (by simp),rfl⟩
         case round =>
          obtain ⟨k,hk,rfl,HT,rfl⟩:=hrel
          by_cases hlt:k<t.size
          · have hlt':(k:Int)<t.size:=by omega
            have hb:=byte_at t k hlt
            by_cases hd:isDig t[k]=true
            · have hd':=hd
              simp [isDig] at hd'
              have g1:¬ (t[k].toNat:Int)<48:=by omega
              have g2:¬ (57:Int)<(t[k].toNat:Int):=by omega
              have HT2:Hid ((t.data.toList.take (k+1)).all isDig=true):=Lib.hid (by rw [List.take_add_one,hb,List.all_append,HT.out];simpa using hd)
              clear hb hd hd'
              go_wp2
              go_roundw
              case rel=>exact ⟨k+1,by omega,by go_num,HT2,trivial⟩
              case measure=>simp [intOf];omega
            · have hc:Hid (canon s.data.toList=false):=Lib.hid (by
               rw [HH.out,List.all_eq_false]
               exact ⟨t[k],List.mem_iff_getElem?.2 ⟨k,hb⟩,hd⟩)
              have hd':t[k].toNat<48∨57<t[k].toNat:=by
               by_cases q1:t[k].toNat<48
               · exact .inl q1
               · by_cases q2:57<t[k].toNat
                 · exact .inr q2
                 · exact absurd (by simp [isDig];omega) hd
              clear hb hd
              rcases hd' with q | q
              · have g1:(t[k].toNat:Int)<48:=by omega
                go_wp2
                go_ret
                exact ⟨by rw [hc.out];rfl,rfl⟩
              · have g1:¬ (t[k].toNat:Int)<48:=by omega
                have g2:(57:Int)<(t[k].toNat:Int):=by omega
                go_wp2
                go_ret
                exact ⟨by rw [hc.out];rfl,rfl⟩
          · have hc:Hid (canon s.data.toList=true):=Lib.hid (by rw [HH.out];have h:=HT.out;rwa [List.take_of_length_le (by rw [len_size];omega)] at h)
            have hlt':¬ (k:Int)<t.size:=by omega
            go_wp2
            go_ret
            exact ⟨by rw [hc.out];rfl,rfl⟩
end Go.Proofs.YtkhdocdddicgpaaGreatDoor
set_option linter.unusedVariables false
set_option linter.unusedSimpArgs false
namespace Go.Proofs.YtkhdocdddicgpaaGreatDoor
open Go.RowKit _root_.Go.Proofs.YtkhdocdddicgpaaGreatDoor.Nm
theorem Long_any (v:Value) (z:Int) (n:Nat) (w:World) (h:Ref w v z) (hn:Hid (True∧(dg z.natAbs).length=n)) :
 Calls Tryz.prog 91 #[v] w fun e w'=>e = .returned (.bool (decide ((400:Int)<(n:Nat))))∧Below w.heap.size w w':=by
 obtain ⟨a,c,rfl⟩:=h.form
 rw [hn.out.2]
 have HBX:=Lib.hid (Bx.new w (.bool (isNeg z)) (.slice a n c) 31)
 clear h
 obtain ⟨f0,f1,f2,f3⟩:=HBX.out.cell
 go_enter Tryz.func91,Tryz.ntmps91
 go_wp2
 go_ret
 exact ⟨rfl,(Below.refl _ _).alloc (Nat.le_refl _) _⟩
theorem ext_digit (d:Nat) (h:d<10):(⟨#[48,49,50,51,52,53,54,55,56,57]⟩:ByteArray).extract d (d+1)=⟨#[chr d]⟩ :=
 (by decide +kernel:∀ i:Fin 10,(⟨#[48,49,50,51,52,53,54,55,56,57]⟩:ByteArray).extract i.val (i.val+1)=⟨#[chr i.val]⟩) ⟨d,h⟩
theorem push_bytes (l:List UInt8) (c:UInt8):(⟨l.toArray⟩:ByteArray)++⟨#[c]⟩=⟨(l++[c]).toArray⟩:=by
 apply ByteArray.ext
 rw [ByteArray.data_append]
 simp
def chrs (xs:List Nat):List UInt8:=xs.map chr
set_option maxRecDepth 100000 in
set_option maxHeartbeats 3200000 in
theorem rText_any (v:Value) (z:Int) (w:World) (h:Ref w v z) (hl:(dg z.natAbs).length≤50000) :
 Calls Tryz.prog 50 #[v] w fun e w'=>e = .returned (.string ⟨(Lib.itoa z).toArray⟩)∧Below w.heap.size w w':=by
 obtain ⟨sv,hv,hr⟩:=h
 obtain ⟨xs,hx⟩:∃ xs,dg z.natAbs=xs:=⟨_,rfl⟩
 rw [hx] at hr hl
 obtain ⟨nb,hnb⟩:∃ nb,isNeg z=nb:=⟨_,rfl⟩
 rw [hnb] at hv
 rcases hr.cases with ⟨h0,a,c,rfl,hc⟩ | ⟨h0,g,off,c,rfl,hyc,hc,hg,hrow⟩
 · subst hv
   have hz:z=0:=by
    have:=dval_dg z.natAbs
    rw [hx,h0,dval_nil] at this;omega
   subst hz
   have HBX:=Lib.hid (Bx.new w (.bool nb) (.slice a 0 c) 31)
   clear hr hx hnb h0 hc
   obtain ⟨f0,f1,f2,f3⟩:=HBX.out.cell
   go_enter Tryz.func50,Tryz.ntmps50
   go_wp2
   go_ret
   exact ⟨by kernel_rfl,(Below.refl _ _).alloc (Nat.le_refl _) _⟩
 · subst hv
   have hn0:0<z.natAbs:=by
    rcases Nat.eq_zero_or_pos z.natAbs with h | h
    · rw [h,dg_zero] at hx;rw [← hx] at h0;simp at h0
    · exact h
   obtain ⟨pre,hpre⟩:∃ pre:List UInt8,(if nb=true then [45] else [])=pre:=⟨_,rfl⟩
   have HE:Hid (Lib.itoa z=pre++chrs xs):=Lib.hid (by
    unfold Lib.itoa chrs
    rw [dec_ds _ hn0]
    rw [← hx, ← hpre]
    unfold dg
    rw [← hnb]
    unfold isNeg
    by_cases hz:z<0
    · rw [if_pos hz,if_pos (by simpa using hz)]
      rfl
    · rw [if_neg hz,if_neg (by simpa using hz),show z.toNat=z.natAbs from by omega,dec_ds _ hn0]
      rfl)
   have HX:Hid (∀ x∈xs,x<10):=Lib.hid (by rw [← hx];exact dg_lt _)
   have HBX:=Lib.hid (Bx.new w (.bool nb) (.slice (some ⟨g,off,none⟩) xs.length c) 31)
   have HRow:=Lib.hid hrow
   have h0i:((xs.length:Int)==0)=false:=by rw [beq_eq_false_iff_ne];omega
   have HPRE:=Lib.hid (And.intro trivial hpre)
   clear hr hx hnb hc hyc hn0 hrow hpre
   obtain ⟨f0,f1,f2,f3⟩:=HBX.out.cell
   go_enter Tryz.func50,Tryz.ntmps50
   go_upto_if 10 with fail
   go_cut [3] (fun s wx=>s = .string ⟨pre.toArray⟩∧wx=w.alloc (.cells #[.bool nb,.slice (some ⟨g,off,none⟩) xs.length c] 31))
   case first =>
    cases nb
    · go_wp2_with fail
      go_meet
      case rel=>exact ⟨by rw [← HPRE.out.2];rfl,rfl⟩
    · go_wp2_with fail
      go_meet
      case rel=>exact ⟨by rw [← HPRE.out.2];rfl,rfl⟩
   case rest =>
   obtain ⟨rfl,rfl⟩:=hcut
   have HBW:=Lib.hid ((Below.refl w.heap.size w).alloc (Nat.le_refl _) (.cells #[.bool nb,.slice (some ⟨g,off,none⟩) xs.length c] 31))
   clear HBX
   generalize w.alloc (.cells #[.bool nb,.slice (some ⟨g,off,none⟩) xs.length c] 31)=W0 at *
   go_wp2
   go_loopw [3,4] (fun s i wr=>∃ k:Nat,k≤xs.length∧i = .int .i64 k∧Hid (s = .string ⟨(pre++chrs (xs.take k)).toArray⟩)∧Hid (∃ n,wr=W0.drewN n)) (fun _ i _=>xs.length-(intOf i).toNat)
   case atStart=>exact ⟨0,by omega,rfl,Lib.hid (by simp [chrs]),Lib.hid ⟨0,rfl⟩⟩
   case round =>
    obtain ⟨k,hk,rfl,HS,HW⟩:=hrel
    obtain ⟨n,rfl⟩:=HW.out
    obtain rfl:=HS.out
    by_cases hlt:k<xs.length
    · have hlt':(k:Int)<xs.length:=by omega
      have hd:=HX.out _ (List.getElem_mem hlt)
      obtain ⟨d,hdd⟩:∃ d,xs[k]=d:=⟨_,rfl⟩
      have c0:W0.cell? ⟨g,off+k,none⟩=some (.int .i64 (d:Nat)):=by rw [← hdd];exact (HBW.out.cell (p:=⟨g,off+k,none⟩) hg).trans (HRow.out k hlt)
      rw [hdd] at hd
      have e1:IntKind.i64.wrap ((d:Int)+1)=(d:Int)+1:=IntWalk.i64_in _ (by omega)
      have e2:((d:Int)+1).toNat=d+1:=by omega
      have e3:(0:Int)≤(d:Int)+1:=by omega
      have e4:(d:Int)≤(d:Int)+1:=by omega
      have e5:(d:Int)+1≤10:=by omega
      have hnx:pre++chrs (xs.take (k+1))=(pre++chrs (xs.take k))++[chr d]:=by
       rw [List.take_add_one,List.getElem?_eq_getElem hlt,hdd,List.append_assoc]
       unfold chrs
       rw [List.map_append]
       rfl
      have hadd:∀ W:World,(Op.stringOp .add ⟨(pre++chrs (xs.take k)).toArray⟩ ((⟨#[48,49,50,51,52,53,54,55,56,57]⟩:ByteArray).extract d (d+1))).run Tryz.prog W = .ok (.string ⟨(pre++chrs (xs.take (k+1))).toArray⟩) W:=fun W=>by
       rw [ext_digit d hd]
       have h2:pre.length≤1:=by rw [← HPRE.out.2];split <;> simp
       have h1:(⟨(pre++chrs (xs.take k)).toArray⟩:ByteArray).size≤50001:=by
        show (pre++chrs (xs.take k)).toArray.size≤50001
        simp [chrs];omega
       have h3:(⟨#[chr d]⟩:ByteArray).size=1:=rfl
       have h4:=run_string_add_sum (P:=Tryz.prog) (w:=W) ⟨(pre++chrs (xs.take k)).toArray⟩ ⟨#[chr d]⟩ (by omega)
       rw [push_bytes, ← hnx] at h4
       exact h4
      clear hdd hnx
      go_wp2
      go_quiet (fail)
      go_wp2
      go_roundw
      case rel=>exact ⟨k+1,by omega,by go_num,Lib.hid rfl,Lib.hid ⟨n+nq,rfl⟩⟩
      case measure=>simp [intOf];omega
    · have hlt':¬ (k:Int)<xs.length:=by omega
      have HT:Hid (True∧pre++chrs (xs.take k)=Lib.itoa z):=Lib.hid ⟨trivial,by rw [HE.out,List.take_of_length_le (by omega)]⟩
      rw [HT.out.2]
      go_wp2
      go_ret
      exact ⟨rfl,HBW.out.trans ⟨rfl,rfl,rfl,Nat.le_refl _,fun _ _=>rfl⟩⟩
end Go.Proofs.YtkhdocdddicgpaaGreatDoor
set_option linter.unusedVariables false
set_option linter.unusedSimpArgs false
namespace Go.Proofs.YtkhdocdddicgpaaGreatDoor
open Go.RowKit _root_.Go.Proofs.YtkhdocdddicgpaaGreatDoor.Nm
theorem dval_append (xs ys:List Nat):dval (xs++ys)=dval ys+10 ^ ys.length*dval xs:=by
 unfold dval;rw [List.reverse_append,vl_append,List.length_reverse]
theorem dval_lt (xs:List Nat) (h:∀ x∈xs,x<10):dval xs<10 ^ xs.length:=by
 have:=vl_lt 10 xs.reverse (fun x hx=>h x (List.mem_reverse.1 hx))
 rwa [List.length_reverse] at this
theorem dval_zeros (n:Nat):dval (List.replicate n 0)=0:=by unfold dval;rw [List.reverse_replicate,vl_zeros]
theorem dval_set (os:List Nat) (p v:Nat) (h:p<os.length):dval (os.set p v)+os[p]*10 ^ (os.length-1-p)=dval os+v*10 ^ (os.length-1-p):=by
 have e1:os=os.take p++(os[p]::os.drop (p+1)):=by rw [List.getElem_cons_drop,List.take_append_drop]
 have e2:os.set p v=os.take p++(v::os.drop (p+1)):=by
  conv=>lhs;rw [e1]
  rw [List.set_append_right _ _ (by rw [List.length_take];omega),List.length_take,Nat.min_eq_left (by omega),Nat.sub_self]
  rfl
 have e3:(os.drop (p+1)).length=os.length-1-p:=by rw [List.length_drop];omega
 have v1:dval os=dval (os.drop (p+1))+10 ^ (os.length-1-p)*os[p]+10 ^ (os.length-1-p+1)*dval (os.take p):=by
  conv=>lhs;rw [e1]
  rw [dval_append,dval_cons,List.length_cons,e3]
 have v2:dval (os.set p v)=dval (os.drop (p+1))+10 ^ (os.length-1-p)*v+10 ^ (os.length-1-p+1)*dval (os.take p):=by
  rw [e2,dval_append,dval_cons,List.length_cons,e3]
 rw [v1,v2,Nat.mul_comm os[p],Nat.mul_comm v]
 omega
theorem set_lt (os:List Nat) (p v:Nat) (h:∀ x∈os,x<10) (hv:v<10):∀ x∈os.set p v,x<10:=by
 intro x hx
 rcases List.mem_or_eq_of_mem_set hx with h1 | h1
 · exact h x h1
 · omega
structure Cy (L T:Nat) (os:List Nat) (p x:Nat):Prop where
 len:os.length=L
 lt:∀ y∈os,y<10
 at':p<L
 x9:x≤9
 val:dval os+x*(10*10 ^ (L-1-p))=T
 top:T<10 ^ L
theorem Cy.start {L V p x:Nat} {os:List Nat} (hl:os.length=L) (hlt:∀ y∈os,y<10) (hp:p<L) (hx:x≤99) (o:Nat) (ho:os[p]?=some o) (hxo:o≤x) (hT:V+x*10 ^ (L-1-p)=dval os+x*10 ^ (L-1-p)) (htop:dval os+(x-o)*10 ^ (L-1-p)<10 ^ L) :
 Cy L (dval os+(x-o)*10 ^ (L-1-p)) (os.set p (x%10)) p (x/10):=by
 have hpo:p<os.length:=by omega
 have ho':os[p]=o:=by rw [List.getElem?_eq_getElem hpo] at ho;exact Option.some.inj ho
 refine ⟨by simp [hl],set_lt _ _ _ hlt (Nat.mod_lt _ (by omega)),hp,by omega,?_,htop⟩
 have h1:=dval_set os p (x%10) hpo
 rw [ho',hl] at h1
 generalize 10 ^ (L-1-p)=P at *
 have e1:x/10*(10*P)=(10*(x/10))*P:=by rw [← Nat.mul_assoc,Nat.mul_comm (x/10) 10]
 have e2:(x%10+10*(x/10))*P=x*P:=by rw [Nat.mod_add_div]
 rw [Nat.add_mul] at e2
 rw [e1,Nat.sub_mul]
 have e3:o*P≤x*P:=Nat.mul_le_mul_right _ hxo
 omega
theorem Cy.room {L T p x:Nat} {os:List Nat} (h:Cy L T os p x) (hx:0<x):0<p:=by
 rcases Nat.eq_zero_or_pos p with h0 | h0
 · exfalso
   obtain ⟨h1,h2,h3,h4,h5,h6⟩:=h
   subst h0
   have e:10*10 ^ (L-1-0)=10 ^ L:=by
    rw [Nat.mul_comm, ← Nat.pow_succ]
    congr 1
    omega
   rw [e] at h5
   have:1*10 ^ L≤x*10 ^ L:=Nat.mul_le_mul_right _ hx
   omega
 · exact h0
theorem Cy.next {L T p x o:Nat} {os:List Nat} (h:Cy L T os (p+1) x) (ho:os[p]?=some o):Cy L T (os.set p ((x+o)%10)) p ((x+o)/10)∧o<10:=by
 obtain ⟨h1,h2,h3,h4,h5,h6⟩:=h
 have hpo:p<os.length:=by omega
 have ho':os[p]=o:=by rw [List.getElem?_eq_getElem hpo] at ho;exact Option.some.inj ho
 have ho10:o<10:=by rw [← ho'];exact h2 _ (List.getElem_mem hpo)
 refine ⟨⟨by simp [h1],set_lt _ _ _ h2 (Nat.mod_lt _ (by omega)),by omega,by omega,?_,h6⟩,ho10⟩
 have e0:10*10 ^ (L-1-(p+1))=10 ^ (L-1-p):=by
  rw [Nat.mul_comm, ← Nat.pow_succ]
  congr 1
  omega
 rw [e0] at h5
 have h7:=dval_set os p ((x+o)%10) hpo
 rw [ho',h1] at h7
 generalize 10 ^ (L-1-p)=P at *
 have e1:(x+o)/10*(10*P)=(10*((x+o)/10))*P:=by rw [← Nat.mul_assoc,Nat.mul_comm ((x+o)/10) 10]
 have e2:((x+o)%10+10*((x+o)/10))*P=(x+o)*P:=by rw [Nat.mod_add_div]
 rw [Nat.add_mul,Nat.add_mul] at e2
 rw [e1]
 omega
theorem Cy.done {L T p:Nat} {os:List Nat} (h:Cy L T os p 0):dval os=T:=by have:=h.val;omega
def mulVal (xs ys:List Nat) (i k:Nat):Nat:=dval (xs.drop (i+1))*dval ys+(xs[i]?).getD 0*10 ^ (xs.length-1-i)*dval (ys.drop k)
theorem mulVal_start (xs ys:List Nat) (i:Nat):mulVal xs ys i ys.length=dval (xs.drop (i+1))*dval ys:=by
 unfold mulVal;rw [List.drop_of_length_le (Nat.le_refl _)];simp [dval_nil]
theorem mulVal_step (xs ys:List Nat) (i k:Nat) (hi:i<xs.length) (hk:k<ys.length) :
 mulVal xs ys i k=mulVal xs ys i (k+1)+xs[i]*ys[k]*10 ^ (xs.length+ys.length-1-(i+k+1)):=by
 unfold mulVal
 rw [List.drop_eq_getElem_cons hk,dval_cons,List.length_drop,List.getElem?_eq_getElem hi]
 have e:10 ^ (xs.length+ys.length-1-(i+k+1))=10 ^ (xs.length-1-i)*10 ^ (ys.length-(k+1)):=by
  rw [← Nat.pow_add]
  congr 1
  omega
 rw [e]
 simp only [Option.getD_some]
 generalize 10 ^ (xs.length-1-i)=P
 generalize 10 ^ (ys.length-(k+1))=Q
 grind
theorem mulVal_end (xs ys:List Nat) (i:Nat) (hi:i<xs.length):mulVal xs ys i 0=dval (xs.drop i)*dval ys:=by
 unfold mulVal
 rw [List.drop_zero,List.drop_eq_getElem_cons hi,dval_cons,List.length_drop,List.getElem?_eq_getElem hi,show xs.length-1-i=xs.length-(i+1) from by omega]
 simp only [Option.getD_some]
 generalize 10 ^ (xs.length-(i+1))=P
 grind
theorem mulVal_lt (xs ys:List Nat) (hx:∀ x∈xs,x<10) (hy:∀ y∈ys,y<10) (i k:Nat) (hi:i<xs.length) (hk:k≤ys.length):mulVal xs ys i k<10 ^ (xs.length+ys.length):=by
 have h1:mulVal xs ys i k≤mulVal xs ys i 0:=by
  unfold mulVal
  refine Nat.add_le_add_left (Nat.mul_le_mul_left _ ?_) _
  have:=dval_append (ys.take k) (ys.drop k)
  rw [List.take_append_drop] at this
  rw [List.drop_zero]
  omega
 rw [mulVal_end xs ys i hi] at h1
 have h2:=dval_lt ys hy
 have h3:=dval_lt (xs.drop i) (fun x h=>hx x (List.mem_of_mem_drop h))
 have h4:10 ^ (xs.drop i).length≤10 ^ xs.length:=Nat.pow_le_pow_right (by omega) (by rw [List.length_drop];omega)
 rw [Nat.pow_add]
 have h5:dval (xs.drop i)*dval ys<10 ^ xs.length*10 ^ ys.length:=Nat.mul_lt_mul'' (by omega) h2
 omega
end Go.Proofs.YtkhdocdddicgpaaGreatDoor
set_option linter.unusedVariables false
set_option linter.unusedSimpArgs false
namespace Go.Proofs.YtkhdocdddicgpaaGreatDoor
open Go.RowKit _root_.Go.Proofs.YtkhdocdddicgpaaGreatDoor.Nm
structure Out (g L V:Nat) (w1 wr:World) (os:List Nat):Prop where
 own:Own .i64 3 wr g os
 only:Only g w1 wr
 len:os.length=L
 lt:∀ x∈os,x<10
 val:dval os=V
theorem Out.of_eq {g L V V':Nat} {w1 wr:World} {os:List Nat} (h:Out g L V w1 wr os) (e:V=V'):Out g L V' w1 wr os:=by subst e;exact h
theorem Out.drewN {g L V:Nat} {w1 wr:World} {os:List Nat} (h:Out g L V w1 wr os) (n:Nat):Out g L V w1 (wr.drewN n) os:=⟨h.own,h.only.drewN n,h.len,h.lt,h.val⟩
structure Car (g L T:Nat) (w1 wr:World) (os:List Nat) (p x:Nat):Prop where
 own:Own .i64 3 wr g os
 only:Only g w1 wr
 cy:Cy L T os p x
set_option maxRecDepth 100000 in
set_option maxHeartbeats 6400000 in
theorem rMul_any (v1 v2:Value) (x y:Int) (w:World) (h1:Ref w v1 x) (h2:Ref w v2 y) (lx:(dg x.natAbs).length≤1000) (ly:(dg y.natAbs).length≤1000) :
 Calls Tryz.prog 76 #[v1,v2] w (RefPost (x*y) w):=by
 obtain ⟨sa,rfl,hra⟩:=h1
 obtain ⟨sb,rfl,hrb⟩:=h2
 obtain ⟨xs,hx⟩:∃ xs,dg x.natAbs=xs:=⟨_,rfl⟩
 obtain ⟨ys,hy⟩:∃ xs,dg y.natAbs=xs:=⟨_,rfl⟩
 rw [hx] at hra lx
 rw [hy] at hrb ly
 have HV:Hid (True∧sz (isNeg x != isNeg y) (dval xs*dval ys)=x*y):=Lib.hid ⟨trivial,by rw [← hx, ← hy,dval_dg,dval_dg];exact mul_sz x y⟩
 have HX:Hid (∀ z∈xs,z<10):=Lib.hid (by rw [← hx];exact dg_lt _)
 have HY:Hid (∀ z∈ys,z<10):=Lib.hid (by rw [← hy];exact dg_lt _)
 obtain ⟨n1,hn1⟩:∃ b,isNeg x=b:=⟨_,rfl⟩
 obtain ⟨n2,hn2⟩:∃ b,isNeg y=b:=⟨_,rfl⟩
 rw [hn1,hn2] at HV
 rw [hn1,hn2]
 obtain ⟨aa,ca,rfl,_,_,h3a⟩:=id hra
 obtain ⟨ab,cb,rfl,_,_,h3b⟩:=id hrb
 have H3A:=Lib.hid h3a
 have H3B:=Lib.hid h3b
 obtain ⟨la,hla⟩:∃ l,xs.length=l:=⟨_,rfl⟩
 obtain ⟨lb,hlb⟩:∃ l,ys.length=l:=⟨_,rfl⟩
 have HLA:=Lib.hid (And.intro trivial hla)
 have HLB:=Lib.hid (And.intro trivial hlb)
 have hS0:=St.start w (.bool n1) (.slice aa la ca) (.bool n2) (.slice ab lb cb) (.bool false) (.slice none 0 0) 31 31 31
 have HS0:=Lib.hid hS0
 rw [hla,hlb]
 rw [hla] at lx
 rw [hlb] at ly
 obtain ⟨i0,hi,hz0,hz1,hz2⟩:=info_parts info64
 have HI:=Lib.hid hi
 have HZ0:=Lib.hid hz0
 have HZ1:=Lib.hid hz1
 have HZ2:=Lib.hid hz2
 clear hi hz0 hz1 hz2 hra hrb hx hy hn1 hn2 hla hlb h3a h3b
 obtain ⟨c0,c1,c2,c3,c4,c5,c6,c7⟩:=hS0.cells
 clear hS0 c4 c5 c6 c7
 go_enter Tryz.func76,Tryz.ntmps76
 go_wp2_with (refine wpList_make_full _ rfl (.tmp 16) (.tmp 16) 29 rfl (w.heap.size+3) 3 i0 (.int .i64 0) 1 Tryz.underlying29 HI.out HZ0.out HZ1.out .i64 .i64 _ _ (la+lb) rfl rfl (by simp) (by simp) (by rw [HZ2.out];omega) (by unfold maxLen;omega) (by simp) ?_;intro w1 hown hgrow;refine hold ?_)
 rw [made_zeros] at hown
 rw [World.size_alloc,World.size_alloc,World.size_alloc] at hown
 obtain ⟨hO,_⟩:=own_of_full (by simp) hown
 have hg1:=(Below.refl _ _).grown hgrow (Nat.le_refl _) (fun k hk=>by simp at hk)
 have hS1:=HS0.out.next hg1 (Nat.le_refl _)
 have HS1:=Lib.hid hS1
 have HO1:Hid (Out (w.heap.size+1+1+1) (la+lb) 0 w1 w1 (List.replicate (la+lb) 0)):=Lib.hid ⟨hO,Only.refl _ _,by simp,by intro z hz;rw [List.mem_replicate] at hz;omega,dval_zeros _⟩
 clear c0 c1 c2 c3
 obtain ⟨c0,c1,c2,c3,c4,c5,f0,f1⟩:=hS1.cells
 obtain ⟨g,hg⟩:∃ g,w.heap.size+1+1+1=g:=⟨_,rfl⟩
 have hgw:w.heap.size+3=g:=by omega
 rw [hg] at HO1
 clear hown hgrow hO hg1 hS1 HS0
 refine go_on ?_
 rw [hg]
 clear hg
 go_wp2
 go_loopw [6,7,8,9] (fun i _ _ _ wr=>∃ (p:Nat) (z:Int) (os:List Nat),p≤la∧i = .int .i64 z∧Hid (True∧z=(p:Int)-1)∧Hid (Out g (la+lb) (dval (xs.drop p)*dval ys) w1 wr os)) (fun i _ _ _ _=>(intOf i+1).toNat)
 case atStart=>exact ⟨la,(la:Int)-1,_,Nat.le_refl _,by go_num,Lib.hid ⟨trivial,rfl⟩,Lib.hid (HO1.out.of_eq (by rw [List.drop_of_length_le (by rw [HLA.out.2];exact Nat.le_refl _),dval_nil,Nat.zero_mul]))⟩
 case round =>
  obtain ⟨p,z,os,hp,rfl,HZ,HOO⟩:=hrel
  have d1:wr.cell? ⟨w.heap.size,1,none⟩=some (.slice aa la ca):=(HOO.out.only.cell _ _ (by omega)).trans c1
  have d3:wr.cell? ⟨w.heap.size+1,1,none⟩=some (.slice ab lb cb):=(HOO.out.only.cell _ _ (by omega)).trans c3
  by_cases hp0:p=0
  · subst hp0
    obtain rfl:z = -1:=by have:=HZ.out.2;omega
    have d0:wr.cell? ⟨w.heap.size,0,none⟩=some (.bool n1):=(HOO.out.only.cell _ _ (by omega)).trans c0
    have d2:wr.cell? ⟨w.heap.size+1,0,none⟩=some (.bool n2):=(HOO.out.only.cell _ _ (by omega)).trans c2
    have HB:Hid (Below w.heap.size w wr):=Lib.hid (HS1.out.1.trans (HOO.out.only.below (by omega)))
    have HBX:Hid (Bx wr (w.heap.size+1+1) (.bool false) (.slice none 0 0)):=Lib.hid (HS1.out.2.2.2.2.only HOO.out.only (by omega))
    have hrd:Rd .i64 wr (.slice (some ⟨g,0,none⟩) (la+lb) (la+lb)) os:=by
     have h:=HOO.out.own.rd (la+lb) (la+lb) (by rw [HOO.out.len];exact Nat.le_refl _) (Nat.le_refl _) (by omega)
     rwa [List.take_of_length_le (by rw [HOO.out.len];exact Nat.le_refl _)] at h
    have HRD:=Lib.hid hrd
    have HVV:Hid (True∧sz (n1 != n2) (dval os)=x*y):=Lib.hid ⟨trivial,by rw [HOO.out.val,List.drop_zero];exact HV.out.2⟩
    clear hrd
    go_wp2_with fail
    refine (make0_any (n1 != n2) _ os _ HRD.out HOO.out.lt).mono ?_
    rintro e w2 ⟨v,rfl,hv,hb⟩
    rw [HVV.out.2] at hv
    obtain ⟨a,c,rfl⟩:=hv.form
    have HBX2:=Lib.hid (HBX.out.below hb HBX.out.lt)
    have HW:=Lib.hid (HB.out.trans (hb.mono HB.out.size))
    have HVL:=Lib.hid hv
    clear hv hb
    obtain ⟨f0,f1,f2,f3⟩:=HBX2.out.cell
    go_wp2
    obtain ⟨l0,l1,_,_⟩:=(HBX2.out.put (.bool (isNeg (x*y))) (.slice a (dg (x*y).natAbs).length c)).cell
    refine bodyPost_ret (v := .agg #[.bool (isNeg (x*y)),.slice a (dg (x*y).natAbs).length c]) (by simp only [results,Tryz.results76];simp [go_sem,l0,l1]) rfl ?_
    exact RefPost.boxed HVL.out HBX2.out HW.out (by omega)
  · obtain ⟨q,rfl⟩:∃ q,p=q+1:=⟨p-1,by omega⟩
    obtain rfl:z=(q:Nat):=by have:=HZ.out.2;omega
    have hq:q<xs.length:=by rw [HLA.out.2];omega
    obtain ⟨ga,offa,rfl,hga,hrowa⟩:=H3A.out (by rintro h;rw [h] at hq;simp at hq)
    have HRowA:=Lib.hid hrowa
    clear hp0 HZ hrowa
    go_wp2
    go_loopw [7,8,9] (fun k _ _ wr=>∃ (r:Nat) (z:Int) (os:List Nat),r≤lb∧k = .int .i64 z∧Hid (True∧z=(r:Int)-1)∧Hid (Out g (la+lb) (mulVal xs ys q r) w1 wr os)) (fun k _ _ _=>(intOf k+1).toNat)
    case atStart=>exact ⟨lb,(lb:Int)-1,os,Nat.le_refl _,by go_num,Lib.hid ⟨trivial,rfl⟩,Lib.hid (HOO.out.of_eq (by rw [← HLB.out.2,mulVal_start]))⟩
    case round =>
     obtain ⟨r,z,os2,hr,rfl,HZ,HO2⟩:=hrel
     clear d1 d3
     have d1:wr.cell? ⟨w.heap.size,1,none⟩=some (.slice (some ⟨ga,offa,none⟩) la ca):=(HO2.out.only.cell _ _ (by omega)).trans c1
     have d3:wr.cell? ⟨w.heap.size+1,1,none⟩=some (.slice ab lb cb):=(HO2.out.only.cell _ _ (by omega)).trans c3
     by_cases hr0:r=0
     · subst hr0
       obtain rfl:z = -1:=by have:=HZ.out.2;omega
       have HO3:=Lib.hid (HO2.out.of_eq (mulVal_end xs ys q hq))
       go_wp2
       go_roundw
       case rel=>exact ⟨q,(q:Int)-1,os2,by omega,by go_num,Lib.hid ⟨trivial,rfl⟩,HO3⟩
       case measure=>simp [intOf]
     · obtain ⟨t,rfl⟩:∃ t,r=t+1:=⟨r-1,by omega⟩
       obtain rfl:z=(t:Nat):=by have:=HZ.out.2;omega
       have ht:t<ys.length:=by rw [HLB.out.2];omega
       obtain ⟨gb,offb,rfl,hgb,hrowb⟩:=H3B.out (by rintro h;rw [h] at ht;simp at ht)
       have HRowB:=Lib.hid hrowb
       clear hr0 HZ hrowb
       have hP:q+t+1<os2.length:=by rw [HO2.out.len];omega
       obtain ⟨o,ho⟩:∃ o,os2[q+t+1]=o:=⟨_,rfl⟩
       have hog:os2[q+t+1]?=some o:=by rw [List.getElem?_eq_getElem hP,ho]
       have ho10:o<10:=by rw [← ho];exact HO2.out.lt _ (List.getElem_mem hP)
       have cO:wr.cell? ⟨g,q+t+1,none⟩=some (.int .i64 (o:Nat)):=by rw [HO2.out.own.cell _ hP,ho]
       obtain ⟨av,hav⟩:∃ o,xs[q]=o:=⟨_,rfl⟩
       obtain ⟨bv,hbv⟩:∃ o,ys[t]=o:=⟨_,rfl⟩
       have ha10:av<10:=by rw [← hav];exact HX.out _ (List.getElem_mem hq)
       have hb10:bv<10:=by rw [← hbv];exact HY.out _ (List.getElem_mem ht)
       have cA:wr.cell? ⟨ga,offa+q,none⟩=some (.int .i64 (av:Nat)):=by
        rw [← hav]
        exact (HO2.out.only.cell _ _ (by omega)).trans ((HS1.out.1.cell (p:=⟨ga,offa+q,none⟩) hga).trans (HRowA.out q hq))
       have cB:wr.cell? ⟨gb,offb+t,none⟩=some (.int .i64 (bv:Nat)):=by
        rw [← hbv]
        exact (HO2.out.only.cell _ _ (by omega)).trans ((HS1.out.1.cell (p:=⟨gb,offb+t,none⟩) hgb).trans (HRowB.out t ht))
       obtain ⟨M,hM⟩:∃ M,av*bv=M:=⟨_,rfl⟩
       have hM81:M≤81:=by rw [← hM];exact Nat.mul_le_mul (show av≤9 by omega) (show bv≤9 by omega)
       have p1:IntKind.i64.wrap ((av:Int)*(bv:Int))=(M:Nat):=by
        have e:((av:Int)*(bv:Int))=(M:Nat):=by rw [← hM];simp
        rw [IntWalk.i64_in _ (by omega),e]
       obtain ⟨X,hXX⟩:∃ X,o+M=X:=⟨_,rfl⟩
       have hX90:X≤90:=by omega
       have p2:IntKind.i64.wrap ((o:Int)+(M:Int))=(X:Nat):=by rw [IntWalk.i64_in _ (by omega)];omega
       have hCy:Cy (la+lb) (mulVal xs ys q t) (os2.set (q+t+1) (X%10)) (q+t+1) (X/10):=by
        have h1:=mulVal_step xs ys q t hq ht
        rw [hav,hbv,hM,HLA.out.2,HLB.out.2] at h1
        have h2:=mulVal_lt xs ys HX.out HY.out q t hq (by omega)
        rw [HLA.out.2,HLB.out.2] at h2
        have h3:=Cy.start (L:=la+lb) (V:=dval os2) HO2.out.len HO2.out.lt (by omega) (show X≤99 by omega) o hog (by omega) rfl (by rw [HO2.out.val,show X-o=M from by omega, ← h1];exact h2)
        rw [HO2.out.val,show X-o=M from by omega, ← h1] at h3
        exact h3
       have HCY:=Lib.hid hCy
       have i1:(0:Int)≤(q:Int)+t+1:=by omega
       have i2:((q:Int)+t+1).toNat=q+t+1:=by omega
       have i3:(q:Int)+t+1<((la+lb:Nat):Int):=by omega
       have i4:(q:Int)<(la:Nat):=by omega
       have i5:(t:Int)<(lb:Nat):=by omega
       have HOG:=Lib.hid (And.intro trivial hog)
       clear hP hog ho hav hbv hM hXX hCy
       go_wp2
       go_quiet (fail)
       have HO3:=Lib.hid (HO2.out.drewN nq)
       clear cO cA cB d1 d3 p1 p2 HO2 HOO
       generalize wr.drewN nq=W2 at *
       have hf:W2.frozen? ⟨g,q+t+1,none⟩=false:=HO3.out.own.free _
       have hcO:W2.cell? ⟨g,q+t+1,none⟩=some (.int .i64 (o:Nat)):=by
        have hP:q+t+1<os2.length:=by rw [HO3.out.len];omega
        rw [HO3.out.own.cell _ hP]
        have h:=HOG.out.2
        rw [List.getElem?_eq_getElem hP] at h
        rw [Option.some.inj h]
       have HC0:Hid (Car g (la+lb) (mulVal xs ys q t) w1 (W2.setCell ⟨g,q+t+1,none⟩ (.int .i64 ((X:Int)%10))) (os2.set (q+t+1) (X%10)) (q+t+1) (X/10)):=Lib.hid ⟨by
        rw [show ((X:Int)%10)=((X%10:Nat):Int) from by simp]
        exact HO3.out.own.set _ _,HO3.out.only.set _ _,HCY.out⟩
       clear HCY HOG
       go_wp2
       go_loopw [8,9] (fun s8 s9 wr=>∃ (pp xx:Nat) (os:List Nat),s8 = .int .i64 pp∧s9 = .int .i64 xx∧Hid (Car g (la+lb) (mulVal xs ys q t) w1 wr os pp xx)) (fun s8 _ _=>(intOf s8).toNat)
       case atStart=>exact ⟨q+t+1,X/10,_,by go_num,by simp,HC0⟩
       case round =>
        obtain ⟨pp,xx,os3,rfl,rfl,HC⟩:=hrel
        have hpL:=HC.out.cy.at'
        have hx9:=HC.out.cy.x9
        by_cases hx0:0<xx
        · have hx0':(0:Int)<(xx:Nat):=by omega
          obtain ⟨r,rfl⟩:∃ r,pp=r+1:=⟨pp-1,by have:=HC.out.cy.room hx0;omega⟩
          have hrl:r<os3.length:=by rw [HC.out.cy.len];omega
          obtain ⟨o2,ho2⟩:∃ o,os3[r]=o:=⟨_,rfl⟩
          obtain ⟨hcy2,ho10'⟩:=HC.out.cy.next (o:=o2) (by rw [List.getElem?_eq_getElem hrl,ho2])
          have e1:wr.cell? ⟨g,r,none⟩=some (.int .i64 (o2:Nat)):=by rw [HC.out.own.cell _ hrl,ho2]
          have e2:wr.frozen? ⟨g,r,none⟩=false:=HC.out.own.free _
          have HC2:Hid (Car g (la+lb) (mulVal xs ys q t) w1 (wr.setCell ⟨g,r,none⟩ (.int .i64 (((xx:Int)+o2)%10))) (os3.set r ((xx+o2)%10)) r ((xx+o2)/10)):=Lib.hid ⟨by
           rw [show (((xx:Int)+o2)%10)=(((xx+o2)%10:Nat):Int) from by simp]
           exact HC.out.own.set _ _,HC.out.only.set _ _,hcy2⟩
          have j1:(r:Int)<((la+lb:Nat):Int):=by omega
          clear hrl ho2 hcy2
          go_wp2
          go_roundw
          case rel=>exact ⟨r,(xx+o2)/10,_,rfl,by simp,HC2⟩
          case measure=>simp [intOf]
        · obtain rfl:xx=0:=by omega
          have HO4:Hid (Out g (la+lb) (mulVal xs ys q t) w1 wr os3):=Lib.hid ⟨HC.out.own,HC.out.only,HC.out.cy.len,HC.out.cy.lt,HC.out.cy.done⟩
          clear HC
          go_wp2
          go_roundw
          case rel=>exact ⟨t,(t:Int)-1,os3,by omega,by go_num,Lib.hid ⟨trivial,rfl⟩,HO4⟩
          case measure=>simp [intOf]
end Go.Proofs.YtkhdocdddicgpaaGreatDoor
