/- Part 23: what the law's walk leans on. -/
import Derived.Test.YtkhdocdddicgpaaGreatDoorYt22
import Derived.Test.YtkhdocdddicgpaaGreatDoorYt6
import Derived.Deep.LoopGhost
import Derived.Deep.DeepCutAuto
import Derived.Deep.RegionWith
import Derived.Test.YtkhdocdddicgpaaGreatDoorYt9
import Derived.Test.YtkhdocdddicgpaaGreatDoorYt7
set_option linter.unusedVariables false
set_option linter.unusedSimpArgs false
namespace Go.Proofs.YtkhdocdddicgpaaGreatDoor
open Go.RowKit _root_.Go.Proofs.YtkhdocdddicgpaaGreatDoor.Nm
structure FromInv (w wr:World) (v:Value):Prop where
 own:Ow wr (w.heap.size+1) v [1]
 below:Below (w.heap.size+1) (w.alloc (.cells #[.bool false,.slice none 0 0] 31)) wr
set_option maxRecDepth 100000 in
set_option maxHeartbeats 3200000 in
theorem rFrom_at (z:Int) (hz:Hid (True∧(1:Int)=z)) (w:World):Calls Tryz.prog 118 #[.int .i64 1] w (RefPost z w):=by
 obtain ⟨i0,hi,hz0,hz1,hz2⟩:=info_parts info64
 have HI:=Lib.hid hi
 have HZ0:=Lib.hid hz0
 have HZ1:=Lib.hid hz1
 have HZ2:=Lib.hid hz2
 clear hi hz0 hz1 hz2
 go_enter Tryz.func118,Tryz.ntmps118
 go_wp2
 go_loopg [0,4,5] 1 (fun gk n v _ wr=>(gk=1∧n = .int .i64 1∧v = .slice none 0 0∧wr=w.alloc (.cells #[.bool false,.slice none 0 0] 31))∨(gk=0∧n = .int .i64 0∧Hid (FromInv w wr v)))
 case atStart=>exact .inl ⟨rfl,rfl,rfl,rfl⟩
 case round =>
  rcases hrel with ⟨rfl,rfl,rfl,rfl⟩ | ⟨rfl,rfl,HF⟩
  · have hB:w.heap.size+1≤(w.alloc (.cells #[.bool false,.slice none 0 0] 31)).heap.size:=by simp
    have HI2:Hid (FromInv w ((w.alloc (.cells #[.bool false,.slice none 0 0] 31)).alloc (.cells #[.int .i64 1] 3)) (.slice (some ⟨w.heap.size+1,0,none⟩) 1 1)):=Lib.hid ⟨by
     have h:=Ow.one (w.alloc (.cells #[.bool false,.slice none 0 0] 31)) (w.heap.size+1) hB 1
     rw [World.size_alloc] at h
     exact h,(Below.refl (w.heap.size+1) (w.alloc (.cells #[.bool false,.slice none 0 0] 31))).alloc hB _⟩
    clear hB
    go_wp2
    go_roundg 0
    case measure=>omega
    case rel=>exact .inr ⟨rfl,rfl,HI2⟩
  · have HR:Hid (Rd .i64 wr u4 [1]):=Lib.hid (HF.out.own.rd (by simp))
    have HBX:Hid (Bx wr w.heap.size (.bool false) (.slice none 0 0)):=Lib.hid ((Bx.new w (.bool false) (.slice none 0 0) 31).below HF.out.below (by omega))
    have HB0:=Lib.hid (((Below.refl w.heap.size w).alloc (Nat.le_refl _) (.cells #[.bool false,.slice none 0 0] 31)).trans (HF.out.below.mono (by omega)))
    go_wp2_with fail
    refine (make0_any false u4 [1] wr HR.out (by simp)).mono ?_
    rintro e w2 ⟨v,rfl,hv,hb⟩
    rw [show sz false (dval [1])=1 from by decide +kernel,hz.out.2] at hv
    obtain ⟨a,c,rfl⟩:=hv.form
    have HBX2:=Lib.hid (HBX.out.below hb HBX.out.lt)
    have HW:=Lib.hid (HB0.out.trans (hb.mono HB0.out.size))
    have HV:=Lib.hid hv
    clear hv hb
    obtain ⟨f0,f1,f2,f3⟩:=HBX2.out.cell
    go_wp2
    obtain ⟨l0,l1,_,_⟩:=(HBX2.out.put (.bool (isNeg z)) (.slice a (dg z.natAbs).length c)).cell
    refine bodyPost_ret (v := .agg #[.bool (isNeg z),.slice a (dg z.natAbs).length c]) (by simp only [results,Tryz.results118];simp [go_sem,l0,l1]) rfl ?_
    exact RefPost.boxed HV.out HBX2.out HW.out (Nat.le_refl _)
theorem rFrom_one (w:World):Calls Tryz.prog 118 #[.int .i64 1] w (RefPost 1 w):=rFrom_at 1 (Lib.hid ⟨trivial,rfl⟩) w
end Go.Proofs.YtkhdocdddicgpaaGreatDoor
set_option linter.unusedVariables false
set_option linter.unusedSimpArgs false
namespace Go.Proofs.YtkhdocdddicgpaaGreatDoor
open Go.RowKit _root_.Go.Proofs.YtkhdocdddicgpaaGreatDoor.Nm
def OwnIn (s v:Value):Prop:=∀ k,s.ownBlock=some k→v.ownBlock=some k
theorem OwnIn.refl (v:Value):OwnIn v v:=fun _ h=>h
theorem OwnIn.nil (l c:Nat) (v:Value):OwnIn (.slice Option.none l c) v:=fun k h=>by simp [Value.ownBlock] at h
theorem OwnIn.at {v:Value} {g off l c:Nat} (h:OwnIn (.slice (some ⟨g,off,none⟩) l c) v) (off' l' c':Nat) (u:Unit:=()):OwnIn (.slice (some ⟨g,off',none⟩) l' c') v:=fun k hk=>h k (by simpa [Value.ownBlock] using hk)
def RefIn (z:Int) (v:Value) (w:World) (e:Ending) (w':World):Prop:=∃ sv,e = .returned (.agg #[.bool (isNeg z),sv])∧Rd .i64 w' sv (dg z.natAbs)∧OwnIn sv v∧(z=0→sv = .slice Option.none 0 0)∧Below w.heap.size w w'
set_option maxRecDepth 100000 in
set_option maxHeartbeats 1600000 in
theorem make0_loc (neg:Bool) (v:Value) (xs:List Nat) (w:World) (hr:Rd .i64 w v xs) (hx:∀ x∈xs,x<10) :
 Calls Tryz.prog 77 #[.bool neg,v] w (RefIn (sz neg (dval xs)) v w):=by
 have hb1:=(Below.refl w.heap.size w).alloc (Nat.le_refl _) (.cells #[.bool false,.slice none 0 0] 31)
 have HB1:=Lib.hid hb1
 have HR1:=Lib.hid (hr.keep hb1 (Nat.le_refl _))
 have HX:=Lib.hid hx
 have HO:Hid (OwnIn v v):=Lib.hid (OwnIn.refl v)
 have HBX:=Lib.hid (Bx.new w (.bool false) (.slice none 0 0) 31)
 clear hb1 hr hx
 go_enter Tryz.func77,Tryz.ntmps77
 go_wp2
 go_loopg [1] xs.length (fun k s1 wr=>∃ ys,Hid (Rd .i64 wr s1 ys)∧Hid (∀ y∈ys,y<10)∧Hid (True∧dval ys=dval xs∧k=ys.length)∧Hid (OwnIn s1 v)∧wr=w.alloc (.cells #[.bool false,.slice none 0 0] 31))
 case atStart=>exact ⟨xs,HR1,HX,Lib.hid ⟨trivial,rfl,rfl⟩,HO,rfl⟩
 case round =>
  clear HO
  obtain ⟨ys,HR,HY,HK,HO,rfl⟩:=hrel
  rcases HR.out.cases with ⟨rfl,a,c,rfl,hc⟩ | ⟨h0,g,off,c,rfl,hyc,hc,hg,hrow⟩
  · obtain ⟨f0,f1,f2,f3⟩:=HBX.out.cell
    have HZ:Hid (True∧sz neg (dval xs)=0):=Lib.hid ⟨trivial,by rw [← HK.out.2.1,dval_nil,sz_zero]⟩
    clear hc
    go_wp2
    refine bodyPost_ret (v := .agg #[.bool false,.slice none 0 0]) (by simp [results,Tryz.results77,go_sem,f0,f1]) rfl ?_
    exact ⟨.slice none 0 0,by rw [HZ.out.2];rfl,by rw [HZ.out.2,show (0:Int).natAbs=0 from rfl,dg_zero];exact Rd.nil _ _ none 0 ⟨by omega,by unfold maxLen;omega⟩,OwnIn.nil _ _ _,fun _=>rfl,HB1.out⟩
  · match ys,h0,HY,HK,HR,hyc,hc,hrow with
    | y::r,h0,HY,HK,HR,hyc,hc,hrow =>
     have hy10:=HY.out y List.mem_cons_self
     have c0:=hrow 0 h0
     rw [List.getElem_cons_zero,Nat.add_zero] at c0
     by_cases hy:y=0
     · subst hy
       have HT:=Lib.hid (Rd.tail (by simpa using hyc) (by simpa using hc) hg hrow)
       have HY2:Hid (∀ y∈r,y<10):=Lib.hid (fun x hx=>HY.out x (List.mem_cons_of_mem _ hx))
       have HK2:Hid (True∧dval r=dval xs∧gk=r.length+1):=Lib.hid ⟨trivial,by rw [← HK.out.2.1,dval_zero],by rw [HK.out.2.2];rfl⟩
       obtain ⟨l,hl⟩:∃ l,r.length=l:=⟨_,rfl⟩
       have hcl:l+1≤c:=by rw [← hl];simpa using hyc
       have hcm:c≤maxLen:=hc.2
       rw [List.length_cons,hl]
       rw [hl] at HT HK2
       have HL:=Lib.hid (And.intro trivial hl)
       clear hl hyc hc hrow HK HY HR h0
       by_cases hc1:c=1
       · rw [if_pos hc1] at HT
         subst hc1
         obtain rfl:l=0:=by omega
         clear hcl
         go_wp2
         go_roundg 0
         case measure=>have:=HK2.out.2.2;omega
         case rel=>exact ⟨r,HT,HY2,Lib.hid ⟨trivial,HK2.out.2.1,HL.out.2.symm⟩,Lib.hid (HO.out.at _ _ _),rfl⟩
       · rw [if_neg hc1] at HT
         go_wp2
         go_roundg l
         case measure=>have:=HK2.out.2.2;omega
         case rel=>exact ⟨r,HT,HY2,Lib.hid ⟨trivial,HK2.out.2.1,HL.out.2.symm⟩,Lib.hid (HO.out.at _ _ _),rfl⟩
     · have hyb:((y:Int)==0)=false:=by rw [beq_eq_false_iff_ne];omega
       have HD:Hid (True∧dg (dval xs)=y::r):=Lib.hid ⟨trivial,by rw [← HK.out.2.1];exact dg_dval _ HY.out (by simpa using hy)⟩
       have hn0:0<dval xs:=by
        rcases Nat.eq_zero_or_pos (dval xs) with h | h
        · have h2:=HD.out.2
          rw [h,dg_zero] at h2
          cases h2
        · exact h
       have HN0:=Lib.hid (And.intro trivial hn0)
       obtain ⟨f0,f1,f2,f3⟩:=HBX.out.cell
       obtain ⟨l,hl⟩:∃ l,r.length=l:=⟨_,rfl⟩
       have hz:((l:Int)+1==0)=false:=by rw [beq_eq_false_iff_ne];omega
       rw [List.length_cons,hl] at HR ⊢
       have HR2:=Lib.hid (HR.out.box HBX.out (.bool neg) (.slice (some ⟨g,off,none⟩) (l+1) c))
       rw [alloc_store] at HR2
       have HB2:=Lib.hid ((Below.refl w.heap.size w).alloc (Nat.le_refl _) (.cells #[.bool neg,.slice (some ⟨g,off,none⟩) (l+1) c] 31))
       have HBX2:=Lib.hid (Bx.new w (.bool neg) (.slice (some ⟨g,off,none⟩) (l+1) c) 31)
       clear hyc hc hrow hn0 hl HK HY HR HR1 HB1
       go_wp2
       obtain ⟨e0,e1,_,_⟩:=HBX2.out.cell
       refine bodyPost_ret (v := .agg #[.bool neg,.slice (some ⟨g,off,none⟩) (l+1) c]) (by simp [results,Tryz.results77,go_sem,e0,e1]) rfl ?_
       exact ⟨_,by rw [sz_neg _ _ HN0.out.2],by rw [sz_abs,HD.out.2];exact HR2.out,HO.out.at _ _ _,fun h=>by have h1:=HN0.out.2;have h2:=sz_abs neg (dval xs);rw [h] at h2;simp at h2;omega,HB2.out⟩
end Go.Proofs.YtkhdocdddicgpaaGreatDoor
set_option linter.unusedVariables false
set_option linter.unusedSimpArgs false
namespace Go.Proofs.YtkhdocdddicgpaaGreatDoor
open Go.RowKit _root_.Go.Proofs.YtkhdocdddicgpaaGreatDoor.Nm
theorem Ow.below {W W':World} {B:Nat} {v:Value} {xs:List Nat} (h:Ow W B v xs) (hb:Below W.heap.size W W'):Ow W' B v xs:=by
 refine ⟨h.1,?_⟩
 rcases h.2 with h0 | ⟨g,cap,cur,hv,hB,hg,r⟩
 · exact .inl h0
 · have hlt:g<W.heap.size:=by
    rcases Nat.lt_or_ge g W.heap.size with h' | h'
    · exact h'
    · simp [Array.getElem?_eq_none h'] at hg
   exact .inr ⟨g,cap,cur,hv,hB,(hb.block g hlt).trans hg,r⟩
theorem Ow.put {W:World} {B g:Nat} {v:Value} {xs:List Nat} (h:Ow W B v xs) (hg:g<B) (x y:Value):Ow ((W.setCell ⟨g,0,none⟩ x).setCell ⟨g,1,none⟩ y) B v xs :=
 ownsRow_setCell_below (ownsRow_setCell_below h (a:=⟨g,0,none⟩) hg x) (a:=⟨g,1,none⟩) hg y
theorem Rd.same {w w':World} {v:Value} {xs:List Nat} (h:Rd .i64 w v xs) (hs:w.heap.size≤w'.heap.size) (hk:∀ k,k<w.heap.size→v.ownBlock=some k→w'.heap[k]?=w.heap[k]?):Rd .i64 w' v xs:=by
 obtain ⟨a,c,rfl,h1,h2,h3⟩:=h
 refine ⟨a,c,rfl,h1,h2,fun hx => ?_⟩
 obtain ⟨g,off,rfl,h4,h5⟩:=h3 hx
 refine ⟨g,off,rfl,by omega,fun i hi => ?_⟩
 have h6:=h5 i hi
 simp only [World.cell?] at h6 ⊢
 rw [hk g h4 rfl]
 exact h6
structure Dm (w wr:World) (v1 v2:Value) (x y:Int) (b1 b2:Bool) (s1 s2 sv:Value) (V:Nat) (qv:Value) (qs:List Nat):Prop where
 box1:Bx wr w.heap.size (.bool b1) s1
 box2:Bx wr (w.heap.size+1) (.bool b2) s2
 box3:Bx wr (w.heap.size+2) (.bool false) (.slice none 0 0)
 box4:Bx wr (w.heap.size+3) (.bool false) (.slice none 0 0)
 box5:Bx wr (w.heap.size+4) (.bool false) sv
 rest:Rd .i64 wr sv (dg V)
 quot:Ow wr (w.heap.size+5) qv qs
 n1:Ref wr v1 x
 n2:Ref wr v2 y
 below:Below w.heap.size w wr
section
variable {w wr w2:World} {v1 v2:Value} {x y:Int} {b1 b2:Bool} {s1 s2 sv:Value} {V:Nat} {qv:Value} {qs:List Nat}
theorem Dm.keep (h:Dm w wr v1 v2 x y b1 b2 s1 s2 sv V qv qs) (hb:Below wr.heap.size wr w2):Dm w w2 v1 v2 x y b1 b2 s1 s2 sv V qv qs :=
 ⟨h.box1.below hb h.box1.lt,h.box2.below hb h.box2.lt,h.box3.below hb h.box3.lt,h.box4.below hb h.box4.lt,h.box5.below hb h.box5.lt,h.rest.keep hb (Nat.le_refl _),h.quot.below hb,h.n1.keep hb (Nat.le_refl _),h.n2.keep hb (Nat.le_refl _),h.below.trans (hb.mono h.below.size)⟩
theorem Dm.put {a a2:Option Addr} {l l2 c c2 V2:Nat} (h:Dm w wr v1 v2 x y b1 b2 s1 s2 (.slice a l c) V qv qs) (hr:Rd .i64 wr (.slice a2 l2 c2) (dg V2)) :
 Dm w ((wr.setCell ⟨w.heap.size+4,0,none⟩ (.bool false)).setCell ⟨w.heap.size+4,1,none⟩ (.slice a2 l2 c2)) v1 v2 x y b1 b2 s1 s2 (.slice a2 l2 c2) V2 qv qs:=by
 have ho:=((Only.refl (w.heap.size+4) wr).set 0 (.bool false)).set 1 (.slice a2 l2 c2)
 obtain ⟨t1,e1,r1⟩:=h.n1
 obtain ⟨t2,e2,r2⟩:=h.n2
 exact ⟨h.box1.only ho (by omega),h.box2.only ho (by omega),h.box3.only ho (by omega),h.box4.only ho (by omega),h.box5.put _ _,hr.box h.box5 _ _,h.quot.put (by omega) _ _,⟨t1,e1,r1.box h.box5 _ _⟩,⟨t2,e2,r2.box h.box5 _ _⟩,h.below.trans (ho.below (by omega))⟩
theorem Dm.grow {qv2:Value} {qs2:List Nat} (h:Dm w wr v1 v2 x y b1 b2 s1 s2 sv V qv qs) (hg:wr.grownBy w2 qv.ownBlock) (hq:Ow w2 (w.heap.size+5) qv2 qs2) (ha:∀ k,sv.ownBlock=some k→qv.ownBlock≠some k)
 (hn1:Ref w v1 x) (hn2:Ref w v2 y):Dm w w2 v1 v2 x y b1 b2 s1 s2 sv V qv2 qs2:=by
 have hb:=h.box5.lt
 have hB:Below (w.heap.size+5) wr w2:=(Below.refl (w.heap.size+5) wr).grown hg (by omega) (fun k hk=>(h.quot.lt k hk).1)
 have hw:=h.below.trans (hB.mono (by omega))
 refine ⟨h.box1.below hB (by omega),h.box2.below hB (by omega),h.box3.below hB (by omega),h.box4.below hB (by omega),h.box5.below hB (by omega),?_,hq,hn1.keep hw (Nat.le_refl _),hn2.keep hw (Nat.le_refl _),hw⟩
 exact h.rest.same hB.size (fun k hlt hk=>hg.block k hlt (fun e=>ha k hk e.symm))
end
end Go.Proofs.YtkhdocdddicgpaaGreatDoor
set_option linter.unusedVariables false
set_option linter.unusedSimpArgs false
namespace Go.Proofs.YtkhdocdddicgpaaGreatDoor
open Go.RowKit _root_.Go.Proofs.YtkhdocdddicgpaaGreatDoor.Nm
set_option maxRecDepth 100000 in
theorem Dm.start (w:World) (v1 v2:Value) (x y:Int) (b1 b2:Bool) (s1 s2:Value) (h1:Ref w v1 x) (h2:Ref w v2 y) :
 Dm w (((((w.alloc (.cells #[.bool b1,s1] 31)).alloc (.cells #[.bool b2,s2] 31)).alloc (.cells #[.bool false,.slice none 0 0] 31)).alloc (.cells #[.bool false,.slice none 0 0] 31)).alloc (.cells #[.bool false,.slice none 0 0] 31)) v1 v2 x y b1 b2 s1 s2 (.slice none 0 0) 0 (.slice none 0 0) []:=by
 have hb:=(((((Below.refl w.heap.size w).alloc (Nat.le_refl _) (.cells #[.bool b1,s1] 31)).alloc (by simp) (.cells #[.bool b2,s2] 31)).alloc (by simp;omega) (.cells #[.bool false,.slice none 0 0] 31)).alloc (by simp;omega) (.cells #[.bool false,.slice none 0 0] 31)).alloc (by simp;omega) (.cells #[.bool false,.slice none 0 0] 31)
 refine ⟨((((Bx.new w _ _ _).alloc _).alloc _).alloc _).alloc _,?_,?_,?_,?_,?_,⟨rfl,.inl ⟨rfl,rfl⟩⟩,h1.keep hb (Nat.le_refl _),h2.keep hb (Nat.le_refl _),hb⟩
 · have h:=(((Bx.new (w.alloc (.cells #[.bool b1,s1] 31)) (.bool b2) s2 31).alloc (.cells #[.bool false,.slice none 0 0] 31)).alloc (.cells #[.bool false,.slice none 0 0] 31)).alloc (.cells #[.bool false,.slice none 0 0] 31)
   rw [World.size_alloc] at h
   exact h
 · have h:=((Bx.new ((w.alloc (.cells #[.bool b1,s1] 31)).alloc (.cells #[.bool b2,s2] 31)) (.bool false) (.slice none 0 0) 31).alloc (.cells #[.bool false,.slice none 0 0] 31)).alloc (.cells #[.bool false,.slice none 0 0] 31)
   rw [World.size_alloc,World.size_alloc] at h
   exact h
 · have h:=(Bx.new (((w.alloc (.cells #[.bool b1,s1] 31)).alloc (.cells #[.bool b2,s2] 31)).alloc (.cells #[.bool false,.slice none 0 0] 31)) (.bool false) (.slice none 0 0) 31).alloc (.cells #[.bool false,.slice none 0 0] 31)
   rw [World.size_alloc,World.size_alloc,World.size_alloc] at h
   exact h
 · have h:=Bx.new ((((w.alloc (.cells #[.bool b1,s1] 31)).alloc (.cells #[.bool b2,s2] 31)).alloc (.cells #[.bool false,.slice none 0 0] 31)).alloc (.cells #[.bool false,.slice none 0 0] 31)) (.bool false) (.slice none 0 0) 31
   rw [World.size_alloc,World.size_alloc,World.size_alloc,World.size_alloc] at h
   exact h
 · rw [dg_zero];exact Rd.nil _ _ none 0 ⟨by omega,by unfold maxLen;omega⟩
def RDivPost (x y:Int) (w:World) (e:Ending) (w':World):Prop:=∃ vq vr q r,e = .returned (.tuple #[vq,vr])∧Ref w' vq q∧Ref w' vr r∧Dv x y q r∧Below w.heap.size w w'
structure DmNum (xs:List Nat) (B k:Nat) (qs:List Nat) (R:Nat):Prop where
 len:qs.length=k
 dig:∀ d∈qs,d<10
 lt:R<B
 eq:dval (xs.take k)=dval qs*B+R
theorem dval_take_next (xs:List Nat) (k:Nat) (h:k<xs.length):dval (xs.take (k+1))=xs[k]+10*dval (xs.take k):=by
 rw [List.take_add_one,List.getElem?_eq_getElem h]
 exact dval_snoc _ _
theorem DmNum.start (xs:List Nat) (B:Nat) (hB:0<B):DmNum xs B 0 [] 0:=⟨rfl,by simp,hB,by simp [dval_nil]⟩
theorem DmNum.next {xs:List Nat} {B k:Nat} {qs:List Nat} {R n R2:Nat} (h:DmNum xs B k qs R) (hk:k<xs.length) (hd:xs[k]<10) (he:n*B+R2=10*R+xs[k]) (hR:R2<B):n<10∧DmNum xs B (k+1) (qs++[n]) R2:=by
 have hn:n<10:=by
  rcases Nat.lt_or_ge n 10 with h1 | h1
  · exact h1
  · have h2:10*B≤n*B:=Nat.mul_le_mul_right _ h1
    have:=h.lt
    omega
 refine ⟨hn,by rw [List.length_append,h.len];rfl,?_,hR,?_⟩
 · intro d hd
   rcases List.mem_append.1 hd with h1 | h1
   · exact h.dig d h1
   · rw [List.mem_singleton.1 h1];exact hn
 · rw [dval_take_next xs k hk,h.eq,dval_snoc]
   generalize dval qs=q at *
   generalize xs[k]=e at *
   have h1:(n+10*q)*B=n*B+10*(q*B):=by grind
   omega
theorem DmNum.done {x y:Int} {qs:List Nat} {R B k:Nat} {xs:List Nat} (h:DmNum xs B k qs R) (hk:xs.length≤k) (hx:dval xs=x.natAbs) (hB:y.natAbs=B) (q:Int)
 (hq:((isNeg x=isNeg y∨R=0)∧q=sz (isNeg x != isNeg y) (dval qs))∨(isNeg x≠isNeg y∧0<R∧q=sz (isNeg x != isNeg y) (dval qs)-1)):Dv x y q (x-q*y):=by
 have he:=h.eq
 rw [List.take_of_length_le hk,hx] at he
 have hl:=h.lt
 generalize dval qs=Q at *
 subst hB
 unfold Dv
 unfold isNeg sz at hq
 refine ⟨by rw [Int.mul_comm];omega,?_⟩
 obtain ⟨M,hM⟩:∃ M,Q*y.natAbs=M:=⟨_,rfl⟩
 rw [hM] at he
 have hQ:(Q:Int)*y=if y<0 then -(M:Int) else M:=by
  rw [← hM]
  by_cases hy:y<0
  · rw [if_pos hy,Int.natCast_mul,show ((y.natAbs:Nat):Int) = -y from by omega,Int.mul_neg,Int.neg_neg]
  · rw [if_neg hy,Int.natCast_mul,show ((y.natAbs:Nat):Int)=y from by omega]
 by_cases hy:y<0 <;> by_cases hx0:x<0 <;> simp only [hy,hx0,if_true,if_false,decide_true,decide_false,bne_self_eq_false,ne_eq,not_true_eq_false,not_false_eq_true,reduceCtorEq,false_or,true_or,true_and,false_and,or_false] at hq hQ
 · rw [hq,hQ];omega
 · rw [if_pos (by decide)] at hq
   rcases hq with ⟨h1,rfl⟩ | ⟨h1,rfl⟩
   · rw [Int.neg_mul,hQ];omega
   · rw [Int.sub_mul,Int.neg_mul,hQ,Int.one_mul];omega
 · rw [if_pos (by decide)] at hq
   rcases hq with ⟨h1,rfl⟩ | ⟨h1,rfl⟩
   · rw [Int.neg_mul,hQ];omega
   · rw [Int.sub_mul,Int.neg_mul,hQ,Int.one_mul];omega
 · rw [hq,hQ];omega
theorem make0_nat (v:Value) (xs:List Nat) (V:Nat) (w:World) (hr:Rd .i64 w v xs) (hx:∀ x∈xs,x<10) (hV:dval xs=V) :
 Calls Tryz.prog 77 #[.bool false,v] w fun e w'=>∃ a l c,e = .returned (.agg #[.bool false,.slice a l c])∧Rd .i64 w' (.slice a l c) (dg V)∧OwnIn (.slice a l c) v∧(V=0→Value.slice a l c = .slice none 0 0)∧Below w.heap.size w w':=by
 refine (make0_loc false v xs w hr hx).mono ?_
 rintro e w' ⟨sv,rfl,h1,h2,h3,h4⟩
 rw [hV] at h1 h3 ⊢
 have e1:sz false V=(V:Int):=rfl
 rw [e1] at h1 h3 ⊢
 rw [show ((V:Int)).natAbs=V from rfl] at h1
 rw [show isNeg (V:Int)=false from decide_eq_false (by omega)]
 obtain ⟨a,c,rfl,_⟩:=id h1
 exact ⟨a,_,c,rfl,h1,h2,fun h=>h3 (by omega),h4⟩
end Go.Proofs.YtkhdocdddicgpaaGreatDoor
set_option linter.unusedVariables false
set_option linter.unusedSimpArgs false
namespace Go.Proofs.YtkhdocdddicgpaaGreatDoor
open Go.RowKit _root_.Go.Proofs.YtkhdocdddicgpaaGreatDoor.Nm
theorem dg_mul_len (a b:Nat):(dg (a*b)).length≤(dg a).length+(dg b).length:=by
 refine dg_len _ _ ?_
 have h1:=dval_lt (dg a) (dg_lt _)
 have h2:=dval_lt (dg b) (dg_lt _)
 rw [dval_dg] at h1 h2
 rw [Nat.pow_add]
 exact Nat.mul_lt_mul'' h1 h2
theorem dg_le_len {a b:Nat} (h:a≤b):(dg a).length≤(dg b).length:=by
 refine dg_len _ _ ?_
 have h2:=dval_lt (dg b) (dg_lt _)
 rw [dval_dg] at h2
 omega
def QOk (x y q:Int):Prop:=Dv x y q (x-q*y)∧(dg q.natAbs).length≤1000∧(dg (q*y).natAbs).length≤2000
theorem QOk.of {x y q:Int} (h:Dv x y q (x-q*y)) (lx:(dg x.natAbs).length≤1000) (ly:(dg y.natAbs).length≤1000):QOk x y q:=by
 have h1:(dg q.natAbs).length≤1000:=Nat.le_trans (dg_le_len h.qsize) lx
 refine ⟨h,h1,?_⟩
 rw [Int.natAbs_mul]
 exact Nat.le_trans (dg_mul_len _ _) (by omega)
theorem dm_done {x y:Int} {qs:List Nat} {R B k:Nat} {xs:List Nat} {n1 n2:Bool} (h:DmNum xs B k qs R) (hk:xs.length≤k) (hx:dg x.natAbs=xs) (hB:y.natAbs=B) (hn1:isNeg x=n1) (hn2:isNeg y=n2) (lx:(dg x.natAbs).length≤1000) (ly:(dg y.natAbs).length≤1000) (hq:qs.length≤1000) :
 ∃ Q,sz (!n1==n2) (dval qs)=Q∧(dg Q.natAbs).length≤2000∧(R=0∨n1=n2→QOk x y Q)∧(0<R→n1≠n2→QOk x y (Q-1)):=by
 have hb:(!n1==n2)=(isNeg x != isNeg y):=by rw [hn1,hn2];rfl
 have hv:dval xs=x.natAbs:=by rw [← hx,dval_dg]
 refine ⟨_,rfl,?_,?_,?_⟩
 · rw [sz_abs]
   exact Nat.le_trans (dg_len _ _ (dval_lt qs h.dig)) (by omega)
 · intro hr
   rw [hb]
   refine QOk.of (h.done hk hv hB _ (.inl ⟨?_,rfl⟩)) lx ly
   rw [hn1,hn2]
   exact hr.symm
 · intro hr hne
   rw [hb]
   exact QOk.of (h.done hk hv hB _ (.inr ⟨by rw [hn1,hn2];exact hne,hr,rfl⟩)) lx ly
structure Dt (w wr:World) (v1 v2:Value) (x y:Int) (b1 b2:Bool) (s1 s2:Value):Prop where
 box1:Bx wr w.heap.size (.bool b1) s1
 box2:Bx wr (w.heap.size+1) (.bool b2) s2
 box3:Bx wr (w.heap.size+2) (.bool false) (.slice none 0 0)
 box4:Bx wr (w.heap.size+3) (.bool false) (.slice none 0 0)
 n1:Ref wr v1 x
 n2:Ref wr v2 y
 below:Below w.heap.size w wr
theorem Dt.keep {w wr w2:World} {v1 v2:Value} {x y:Int} {b1 b2:Bool} {s1 s2:Value} (h:Dt w wr v1 v2 x y b1 b2 s1 s2) (hb:Below wr.heap.size wr w2):Dt w w2 v1 v2 x y b1 b2 s1 s2 :=
 ⟨h.box1.below hb h.box1.lt,h.box2.below hb h.box2.lt,h.box3.below hb h.box3.lt,h.box4.below hb h.box4.lt,h.n1.keep hb (Nat.le_refl _),h.n2.keep hb (Nat.le_refl _),h.below.trans (hb.mono h.below.size)⟩
theorem Dt.only {w wr w2:World} {v1 v2:Value} {x y:Int} {b1 b2:Bool} {s1 s2:Value} {g:Nat} (h:Dt w wr v1 v2 x y b1 b2 s1 s2) (ho:Only g wr w2) (hg:w.heap.size+4<g) (h1:Ref w v1 x) (h2:Ref w v2 y):Dt w w2 v1 v2 x y b1 b2 s1 s2:=by
 have hb:=h.below.trans (ho.below (B:=w.heap.size) (by omega))
 exact ⟨h.box1.only ho (by omega),h.box2.only ho (by omega),h.box3.only ho (by omega),h.box4.only ho (by omega),h1.keep hb (Nat.le_refl _),h2.keep hb (Nat.le_refl _),hb⟩
theorem RDivPost.boxed {w w2:World} {g3 g4:Nat} {n n' b3 b4:Bool} {a a' a3 a4:Option Addr} {l l' l3 l4 c c' c3 c4:Nat} {x y q r:Int} (hq:Ref w2 (.agg #[.bool n,.slice a l c]) q) (hr:Ref w2 (.agg #[.bool n',.slice a' l' c']) r)
 (h3:Bx w2 g3 (.bool b3) (.slice a3 l3 c3)) (h4:Bx w2 g4 (.bool b4) (.slice a4 l4 c4)) (hne:g3≠g4) (hb:Below w.heap.size w w2) (k3:w.heap.size≤g3) (k4:w.heap.size≤g4) (hd:Dv x y q r) :
 RDivPost x y w (.returned (.tuple #[.agg #[.bool n,.slice a l c],.agg #[.bool n',.slice a' l' c']])) ((((w2.setCell ⟨g3,0,none⟩ (.bool n)).setCell ⟨g3,1,none⟩ (.slice a l c)).setCell ⟨g4,0,none⟩ (.bool n')).setCell ⟨g4,1,none⟩ (.slice a' l' c')):=by
 have ho:=((Only.refl g3 w2).set 0 (.bool n)).set 1 (.slice a l c)
 have h4':=h4.only ho (Ne.symm hne)
 obtain ⟨s1,e1,r1⟩:=hq
 obtain ⟨s2,e2,r2⟩:=hr
 have f1:=(r1.box h3 (.bool n) (.slice a l c)).box h4' (.bool n') (.slice a' l' c')
 have f2:=(r2.box h3 (.bool n) (.slice a l c)).box h4' (.bool n') (.slice a' l' c')
 exact ⟨_,_,q,r,rfl,⟨s1,e1,f1⟩,⟨s2,e2,f2⟩,hd,(hb.trans (ho.below k3)).trans ((((Only.refl g4 _).set 0 _).set 1 _).below k4)⟩
set_option maxRecDepth 100000 in
set_option maxHeartbeats 6400000 in
theorem rDivMod_any (v1 v2:Value) (x y:Int) (w:World) (h1:Ref w v1 x) (h2:Ref w v2 y) (lx:(dg x.natAbs).length≤1000) (ly:(dg y.natAbs).length≤1000) (hy:y≠0) :
 Calls Tryz.prog 81 #[v1,v2] w (RDivPost x y w):=by
 obtain ⟨a1,c1,rfl⟩:=h1.form
 obtain ⟨a2,c2,rfl⟩:=h2.form
 obtain ⟨n1,hn1⟩:∃ b,isNeg x=b:=⟨_,rfl⟩
 obtain ⟨n2,hn2⟩:∃ b,isNeg y=b:=⟨_,rfl⟩
 obtain ⟨xs,hxs⟩:∃ l,dg x.natAbs=l:=⟨_,rfl⟩
 obtain ⟨ys,hys⟩:∃ l,dg y.natAbs=l:=⟨_,rfl⟩
 obtain ⟨B,hB⟩:∃ l,y.natAbs=l:=⟨_,rfl⟩
 obtain ⟨la,hla⟩:∃ l,xs.length=l:=⟨_,rfl⟩
 obtain ⟨lb,hlb⟩:∃ l,ys.length=l:=⟨_,rfl⟩
 rw [hn1,hxs,hla] at h1
 rw [hn2,hys,hlb] at h2
 rw [hn1,hn2,hxs,hys,hla,hlb]
 have HD0:=Lib.hid (Dm.start w _ _ x y n1 n2 (.slice a1 la c1) (.slice a2 lb c2) h1 h2)
 have H1:=Lib.hid h1
 have H2:=Lib.hid h2
 have HB0:Hid (0<B):=Lib.hid (by omega)
 have HNUM:Hid (DmNum xs B 0 [] 0):=Lib.hid (DmNum.start xs B HB0.out)
 obtain ⟨i0,hi,hz0,hz1,hz2⟩:=info_parts info64
 have HI:=Lib.hid hi
 have HZ0:=Lib.hid hz0
 have HZ1:=Lib.hid hz1
 have HZ2:=Lib.hid hz2
 clear hi hz0 hz1 hz2
 have HL:=Lib.hid (And.intro (And.intro hxs hys) (And.intro hla hlb))
 have HLL:=Lib.hid (And.intro lx ly)
 have HNB:=Lib.hid (And.intro (And.intro hn1 hn2) hB)
 clear h1 h2 hxs hys hla hlb lx ly hn1 hn2 hB hy
 go_enter Tryz.func81,Tryz.ntmps81
 go_upto_region 3 with fail
 generalize hW0:(((((w.alloc (.cells #[.bool n1,.slice a1 la c1] 31)).alloc (.cells #[.bool n2,.slice a2 lb c2] 31)).alloc (.cells #[.bool false,.slice none 0 0] 31)).alloc (.cells #[.bool false,.slice none 0 0] 31)).alloc (.cells #[.bool false,.slice none 0 0] 31))=W0 at *
 clear hW0
 go_wp2
 go_loopg [7,8,9,10] la (fun gk qv i _ _ wr=>∃ (k R:Nat) (qs:List Nat) (a:Option Addr) (l c:Nat),k+gk=la∧i = .int .i64 k∧Hid (Dm w wr (.agg #[.bool n1,.slice a1 la c1]) (.agg #[.bool n2,.slice a2 lb c2]) x y n1 n2 (.slice a1 la c1) (.slice a2 lb c2) (.slice a l c) R qv qs)∧Hid (DmNum xs B k qs R)∧Hid (R=0→Value.slice a l c = .slice none 0 0))
 case atStart=>exact ⟨0,0,[],none,0,0,by omega,rfl,HD0,HNUM,Lib.hid (fun _=>rfl)⟩
 case round =>
  obtain ⟨k,R,qs,ar,lr,cr,hk,rfl,HD,HN,HZ⟩:=hrel
  obtain ⟨p0,p1,p2,p3⟩:=HD.out.box1.cell
  obtain ⟨q0,q1,q2,q3⟩:=HD.out.box2.cell
  have r0:wr.cell? ⟨w.heap.size+1+1+1+1,0,none⟩=some (.bool false):=HD.out.box5.cell.1
  have r1:wr.cell? ⟨w.heap.size+1+1+1+1,1,none⟩=some (.slice ar lr cr):=HD.out.box5.cell.2.1
  have r2:wr.frozen? ⟨w.heap.size+1+1+1+1,0,none⟩=false:=HD.out.box5.cell.2.2.1
  have r3:wr.frozen? ⟨w.heap.size+1+1+1+1,1,none⟩=false:=HD.out.box5.cell.2.2.2
  by_cases hlt:k<la
  · have hlt':(k:Int)<la:=by omega
    have hRl:(dg R).length≤1000:=by
     have h1:=HN.out.lt
     have h2:=dval_lt (dg y.natAbs) (dg_lt _)
     rw [dval_dg,HNB.out.2] at h2
     refine Nat.le_trans (dg_len R _ (Nat.lt_trans h1 h2)) ?_
     have h3:=HLL.out.2
     rwa [HNB.out.2] at h3
    go_upto_region 7 with fail
    go_cut [9] (fun dv wx=>Hid (Ow wx wr.heap.size dv (dg R))∧Hid (Below wr.heap.size wr wx))
    case first =>
     by_cases hR:R=0
     · have e0:=HZ.out hR
       simp only [Value.slice.injEq] at e0
       obtain ⟨rfl,rfl,rfl⟩:=e0
       subst hR
       go_wp2_with fail
       go_meet
       case rel=>exact ⟨Lib.hid (by rw [dg_zero];exact ⟨rfl,.inl ⟨rfl,rfl⟩⟩),Lib.hid (Below.refl _ _)⟩
     · rcases HD.out.rest.cases with ⟨h0,_⟩ | ⟨h0,g,off,c,hsl,hyc,hc,hg,hrow⟩
       · exfalso
         have:=dval_dg R
         rw [h0,dval_nil] at this
         omega
       · simp only [Value.slice.injEq] at hsl
         obtain ⟨rfl,rfl,rfl⟩:=hsl
         have HROW:=Lib.hid hrow
         clear hrow hyc hc h0
         go_wp2_with (at_builtin;refine wpList_append_own _ rfl _ _ 29 rfl wr.heap.size 3 i0 (.int .i64 0) 1 8 Tryz.underlying29 HI.out HZ0.out HZ1.out HZ2.out rfl (by decide) _ _ _ rfl (World.ownsRow_nil _ _ _ _) ⟨g,off,none⟩ (dg R).length _ ((dg R).map (fun x=>Value.int .i64 (x:Nat))) rfl (by simp) ?c1 ?c2 ?c3 ?c4 ?c5 ?_)
         case c1 =>
          intro j u hu
          rw [addr_add]
          obtain ⟨hj,rfl⟩:=List.getElem?_eq_some_iff.1 hu
          rw [List.getElem_map]
          exact HROW.out j (by simpa using hj)
         case c2 =>
          intro u hu
          obtain ⟨d,_,rfl⟩:=List.mem_map.1 hu
          rfl
         case c3=>unfold maxLen;omega
         case c4=>omega
         case c5=>exact Nat.le_refl _
         intro v' w2 hown' hgrow _
         have HO:Hid (Ow w2 wr.heap.size v' (dg R)):=Lib.hid (by
          unfold Ow
          have h:=hown'
          simpa using h)
         have HBL:=Lib.hid ((Below.refl wr.heap.size wr).grown hgrow (Nat.le_refl _) (fun k hk=>by simp [Value.ownBlock] at hk))
         clear hown' hgrow
         go_wp2_with fail
         go_meet
         case rel=>exact ⟨HO,HBL⟩
    case rest =>
    obtain ⟨HDV,HBL⟩:=hcut
    clear p0 p1 p2 p3 q0 q1 q2 q3 r0 r1 r2 r3
    have HD2:=Lib.hid (HD.out.keep HBL.out)
    have HSZ:=Lib.hid (And.intro trivial HBL.out.size)
    have HQ:=Lib.hid (fun k hk=>(HD.out.quot.lt k hk).2)
    have HDR:=HD
    clear HD
    obtain ⟨sv,hv,hr⟩:=HD2.out.n1
    simp only [Value.agg.injEq,Array.mk.injEq,List.cons.injEq,and_true] at hv
    obtain ⟨hv0,hsv⟩:=hv
    clear hv0
    subst hsv
    rcases hr.cases with ⟨h0,_⟩ | ⟨h0,g,off,c,hsl,hyc,hc,hg,hrow⟩
    · exfalso
      rw [HL.out.1.1] at h0
      have:=HL.out.2.1
      rw [h0] at this
      simp at this
      omega
    · simp only [Value.slice.injEq] at hsl
      obtain ⟨rfl,hll,rfl⟩:=hsl
      rw [HL.out.1.1] at hrow
      have hkx:k<xs.length:=by rw [HL.out.2.1];exact hlt
      obtain ⟨d,hd⟩:∃ d,xs[k]=d:=⟨_,rfl⟩
      have hd10:d<10:=by rw [← hd];exact dg_lt x.natAbs _ (by rw [HL.out.1.1];exact List.getElem_mem hkx)
      have c0:wc.cell? ⟨g,off+k,none⟩=some (.int .i64 (d:Nat)):=by rw [← hd];exact hrow k hkx
      have HDG:=Lib.hid (And.intro hkx (And.intro (True.intro) hd10))
      have HXK:Hid (∃ h:k<xs.length,xs[k]=d):=Lib.hid ⟨hkx,hd⟩
      obtain ⟨p0,p1,p2,p3⟩:=HD2.out.box1.cell
      have hB:wr.heap.size≤wc.heap.size:=HSZ.out.2
      clear hr hrow hyc hc hg h0 hll hd hkx
      go_wp2_with (at_builtin;refine wpList_append_own _ rfl _ _ 29 rfl wr.heap.size 3 i0 (.int .i64 0) 1 8 Tryz.underlying29 HI.out HZ0.out HZ1.out HZ2.out rfl (by decide) _ _ _ rfl (HDV.out.alloc _) ⟨wc.heap.size,0,none⟩ 1 1 [.int .i64 (d:Nat)] rfl rfl ?c1 ?c2 ?c3 ?c4 ?c5 ?_)
      case c1 =>
       intro j u hj
       match j,hj with
       | 0,hj=>simp at hj;subst hj;simp [Addr.add]
      case c2=>intro u hu;simp at hu;subst hu;rfl
      case c3=>unfold maxLen;omega
      case c4=>omega
      case c5=>simp;omega
      intro v' w2 hown' hgrow _
      have hb2:Below wc.heap.size wc w2∨True := .inr trivial
      have HO:Hid (Ow w2 wr.heap.size v' (dg R++[d])):=Lib.hid (by
       unfold Ow
       rw [List.length_append,List.map_append]
       exact hown')
      have HB2:=Lib.hid (((Below.refl wr.heap.size wc).alloc hB (.cells #[.int .i64 (d:Nat)] 3)).grown hgrow (by simp;omega) (fun k hk=>(HDV.out.lt k hk).1))
      clear hown' hgrow hb2
      have HR2:=Lib.hid (HO.out.rd (by rw [List.length_append];simp;omega))
      obtain ⟨V0,hV0⟩:∃ V,10*R+d=V:=⟨_,rfl⟩
      have HV0:=Lib.hid (And.intro trivial hV0)
      have HDD:Hid (∀ e∈dg R++[d],e<10):=Lib.hid (by
       intro e he
       rcases List.mem_append.1 he with h | h
       · exact dg_lt R e h
       · rw [List.mem_singleton.1 h];exact hd10)
      have HDV2:Hid (True∧dval (dg R++[d])=V0):=Lib.hid ⟨trivial,by rw [dval_snoc,dval_dg];omega⟩
      clear hV0
      go_wp2_with fail
      refine (make0_nat _ _ V0 _ HR2.out HDD.out HDV2.out.2).mono ?_
      rintro e w3 ⟨a3,l3,c3,rfl,hr3,ho3,hz3,hb3⟩
      have HW3:=Lib.hid ((HBL.out.trans HB2.out).trans (hb3.mono ((HBL.out.trans HB2.out).size)))
      have HD3:=Lib.hid (HDR.out.keep HW3.out)
      have HS3:Hid (∀ k,(Value.slice a3 l3 c3).ownBlock=some k→wr.heap.size≤k):=Lib.hid (fun k hk=>(HO.out.lt k (ho3 k hk)).1)
      have HD4:=Lib.hid (HD3.out.put hr3)
      have HZ3:=Lib.hid hz3
      have r0:w3.cell? ⟨w.heap.size+1+1+1+1,0,none⟩=some (.bool false):=HD3.out.box5.cell.1
      have r1:w3.cell? ⟨w.heap.size+1+1+1+1,1,none⟩=some (.slice ar lr cr):=HD3.out.box5.cell.2.1
      have r2:w3.frozen? ⟨w.heap.size+1+1+1+1,0,none⟩=false:=HD3.out.box5.cell.2.2.1
      have r3:w3.frozen? ⟨w.heap.size+1+1+1+1,1,none⟩=false:=HD3.out.box5.cell.2.2.2
      obtain ⟨NB,hNB⟩:∃ n,wr.heap.size=n:=⟨_,rfl⟩
      rw [hNB] at HQ HS3
      have HNW:Hid (True∧NB≤w3.heap.size):=Lib.hid ⟨trivial,by rw [← hNB];exact HW3.out.size⟩
      clear hNB
      clear hr3 ho3 hz3 hb3 c0 p0 p1 p2 p3 hB HD2 HO HB2 HR2 HDD HDV2 HBL HDV HSZ HD3 HDR
      go_wp2
      go_loopg [10] V0 (fun gv n wi=>∃ (m:Nat) (a:Option Addr) (l c:Nat),n = .int .i64 m∧Hid (gv+m*B=V0∧True)∧Hid (Dm w wi (.agg #[.bool n1,.slice (some ⟨g,off,none⟩) la c1]) (.agg #[.bool n2,.slice a2 lb c2]) x y n1 n2 (.slice (some ⟨g,off,none⟩) la c1) (.slice a2 lb c2) (.slice a l c) gv u7 qs)∧Hid (gv=0→Value.slice a l c = .slice none 0 0)∧Hid (∀ k,(Value.slice a l c).ownBlock=some k→NB≤k)∧Hid (True∧NB≤wi.heap.size))
      case atStart=>exact ⟨0,a3,l3,c3,rfl,Lib.hid ⟨by simp,trivial⟩,HD4,HZ3,HS3,Lib.hid ⟨trivial,by simpa using HNW.out.2⟩⟩
      case round =>
       obtain ⟨m,a5,l5,c5,rfl,HM,HDI,HZI,HSI,HNI⟩:=hrel
       have HGL:Hid (True∧(dg gk).length≤2000∧m<10):=Lib.hid (by
        have h1:=HN.out.lt
        have h2:=dval_lt (dg y.natAbs) (dg_lt _)
        rw [dval_dg,HNB.out.2] at h2
        have h3:=HM.out.1
        have h4:=HV0.out.2
        have h5:=HLL.out.2
        rw [HNB.out.2] at h5
        refine ⟨trivial,Nat.le_trans (dg_len gk ((dg B).length+1) ?_) (by omega),?_⟩
        · rw [Nat.pow_succ];omega
        · rcases Nat.lt_or_ge m 10 with h | h
          · exact h
          · have h6:10*B≤m*B:=Nat.mul_le_mul_right _ h
            omega)
       obtain ⟨_,hgl,hm10⟩:=id HGL.out
       clear HGL
       have hy':Rd .i64 wr (.slice a2 lb c2) (dg B):=by
        obtain ⟨sy,hv,hr⟩:=HDI.out.n2
        simp only [Value.agg.injEq,Array.mk.injEq,List.cons.injEq,and_true] at hv
        rw [hv.2, ← HNB.out.2]
        exact hr
       have HYR:=Lib.hid hy'
       clear hy'
       obtain ⟨cc,hcc⟩:∃ c,sgn gk B=c:=⟨_,rfl⟩
       have HCC:=Lib.hid (And.intro trivial hcc)
       have i1:wr.cell? ⟨w.heap.size+1+1+1+1,1,none⟩=some (.slice a5 l5 c5):=HDI.out.box5.cell.2.1
       obtain ⟨i2,i3,i4,i5⟩:=HDI.out.box2.cell
       by_cases hge:B≤gk
       · have hc0:(0:Int)≤cc:=by rw [← hcc];unfold sgn;split <;> (try split) <;> omega
         clear hcc
         go_wp2_with fail
         refine (rcmp_any _ _ gk B _ HDI.out.rest HYR.out).mono ?_
         rintro e w4 ⟨rfl,kd,rfl⟩
         rw [HCC.out.2]
         have HDJ:=Lib.hid (HDI.out.keep (w2:=wr.drewN kd) ⟨rfl,rfl,rfl,Nat.le_refl _,fun _ _=>rfl⟩)
         have HYJ:=Lib.hid (HYR.out.keep (w':=wr.drewN kd) (B:=wr.heap.size) ⟨rfl,rfl,rfl,Nat.le_refl _,fun _ _=>rfl⟩ (Nat.le_refl _))
         have HNJ:Hid (True∧NB≤(wr.drewN kd).heap.size):=HNI
         clear HDI HYR HNI i1 i2 i3 i4 i5
         generalize wr.drewN kd=wj at HDJ HYJ HNJ ⊢
         have i1:wj.cell? ⟨w.heap.size+1+1+1+1,1,none⟩=some (.slice a5 l5 c5):=HDJ.out.box5.cell.2.1
         obtain ⟨i2,i3,i4,i5⟩:=HDJ.out.box2.cell
         go_wp2_with fail
         refine (plus_loc _ _ (dg gk) (dg B) (-1) (gk-B) wj HDJ.out.rest HYJ.out (.inr rfl) (dg_lt _) (dg_lt _) (fun _=>by rw [dval_dg,dval_dg];exact hge) hgl (by have h5:=HLL.out.2;rw [HNB.out.2] at h5;omega) (by rw [dval_dg,dval_dg];omega)).mono ?_
         rintro e w5 ⟨v5,zs,rfl,hr5,hl5,hd5,ho5,hb5⟩
         have HDK:=Lib.hid (HDJ.out.keep hb5)
         have HS5:Hid (∀ k,v5.ownBlock=some k→NB≤k):=Lib.hid (fun k hk=>Nat.le_trans HNJ.out.2 (ho5 k hk))
         have HN5:Hid (True∧NB≤w5.heap.size):=Lib.hid ⟨trivial,Nat.le_trans HNJ.out.2 hb5.size⟩
         clear HDJ HYJ HNJ i1 i2 i3 i4 i5 ho5 hb5
         go_wp2_with fail
         refine (make0_nat _ zs (gk-B) _ hr5 hl5 hd5).mono ?_
         rintro e w6 ⟨a6,l6,c6,rfl,hr6,ho6,hz6,hb6⟩
         have HDL:=Lib.hid (HDK.out.keep hb6)
         have HS6:Hid (∀ k,(Value.slice a6 l6 c6).ownBlock=some k→NB≤k):=Lib.hid (fun k hk=>HS5.out k (ho6 k hk))
         have HN6:Hid (True∧NB≤w6.heap.size):=Lib.hid ⟨trivial,Nat.le_trans HN5.out.2 hb6.size⟩
         have HDM:=Lib.hid (HDL.out.put hr6)
         have HZ6:=Lib.hid hz6
         have i0':w6.cell? ⟨w.heap.size+1+1+1+1,0,none⟩=some (.bool false):=HDL.out.box5.cell.1
         have i1:w6.cell? ⟨w.heap.size+1+1+1+1,1,none⟩=some (.slice a5 l5 c5):=HDL.out.box5.cell.2.1
         have i2:w6.frozen? ⟨w.heap.size+1+1+1+1,0,none⟩=false:=HDL.out.box5.cell.2.2.1
         have i3:w6.frozen? ⟨w.heap.size+1+1+1+1,1,none⟩=false:=HDL.out.box5.cell.2.2.2
         clear HDK HDL hr6 ho6 hz6 hb6 hr5 hl5 hd5
         go_wp2
         go_roundg (gk-B)
         case measure=>have:=HB0.out;omega
         case rel=>exact ⟨m+1,a6,l6,c6,by go_num,Lib.hid ⟨by have h:=HM.out.1;rw [Nat.add_mul,Nat.one_mul];omega,trivial⟩,HDM,HZ6,HS6,Lib.hid ⟨trivial,by simpa using HN6.out.2⟩⟩
       · have hc0:¬ (0:Int)≤cc:=by rw [← hcc,sgn_lt (by omega)];omega
         clear hcc
         go_wp2_with fail
         refine (rcmp_any _ _ gk B _ HDI.out.rest HYR.out).mono ?_
         rintro e w4 ⟨rfl,kd,rfl⟩
         rw [HCC.out.2]
         have HDJ:=Lib.hid (HDI.out.keep (w2:=wr.drewN kd) ⟨rfl,rfl,rfl,Nat.le_refl _,fun _ _=>rfl⟩)
         clear HDI HYR HNI i1 i2 i3 i4 i5
         generalize wr.drewN kd=wj at HDJ ⊢
         have hB5:w.heap.size+4<wj.heap.size:=HDJ.out.box5.lt
         have HDA:=Lib.hid (HDJ.out.keep ((Below.refl _ wj).alloc (Nat.le_refl _) (.cells #[.int .i64 (m:Nat)] 3)))
         have hql:qs.length≤1000:=by rw [HN.out.len];have h1:=HL.out;have h2:=HLL.out.1;rw [h1.1.1,h1.2.1] at h2;omega
         have HN2:Hid (DmNum xs B (k+1) (qs++[m]) gk):=Lib.hid (by
          obtain ⟨hx1,hx2⟩:=HXK.out
          exact (HN.out.next hx1 (by rw [hx2];exact hd10) (by rw [hx2];have h1:=HM.out.1;have h2:=HV0.out.2;omega) (by omega)).2)
         go_wp2_with (at_builtin;refine wpList_append_own _ rfl _ _ 29 rfl (w.heap.size+5) 3 i0 (.int .i64 0) 1 8 Tryz.underlying29 HI.out HZ0.out HZ1.out HZ2.out rfl (by decide) _ _ _ rfl (HDJ.out.quot.alloc _) ⟨wj.heap.size,0,none⟩ 1 1 [.int .i64 (m:Nat)] rfl rfl ?c1 ?c2 ?c3 ?c4 ?c5 ?_)
         case c1 =>
          intro j u hj
          match j,hj with
          | 0,hj=>simp at hj;subst hj;simp [Addr.add]
         case c2=>intro u hu;simp at hu;subst hu;rfl
         case c3=>unfold maxLen;omega
         case c4=>omega
         case c5=>simp;omega
         intro v7 w7 hown' hgrow _
         have HO7:Hid (Ow w7 (w.heap.size+5) v7 (qs++[m])):=Lib.hid (by
          unfold Ow
          rw [List.length_append,List.map_append]
          exact hown')
         have HD7:=Lib.hid (HDA.out.grow hgrow HO7.out (fun k hk e=>by have h1:=HSI.out k hk;have h2:=HQ.out k e;omega) H1.out H2.out)
         clear hown' hgrow HDA HDJ
         go_wp2
         have hla:la≤1000:=by have h1:=HL.out;have h2:=HLL.out.1;rw [h1.1.1,h1.2.1] at h2;exact h2
         go_roundg (la-(k+1))
         case measure=>omega
         case rel=>exact ⟨k+1,gk,qs++[m],a5,l5,c5,by omega,by rw [IntWalk.wrap64_in _ ⟨by omega,by omega⟩];rfl,HD7,HN2,HZI⟩
  · have hlt':¬ (k:Int)<la:=by omega
    obtain ⟨neg,hneg⟩:∃ b,(n1 != n2)=b:=⟨_,rfl⟩
    have HNEG:=Lib.hid (And.intro trivial hneg)
    clear hneg
    have hRQ:=HD.out.quot.rd (by rw [HN.out.len];have h1:=HL.out;have h2:=HLL.out.1;rw [h1.1.1,h1.2.1] at h2;omega)
    have HRQ:=Lib.hid hRQ
    clear hRQ
    obtain ⟨Q,hQ,hQ2,hQ3,hQ4⟩:=dm_done HN.out (by rw [HL.out.2.1];omega) HL.out.1.1 HNB.out.2 HNB.out.1.1 HNB.out.1.2 (by rw [HL.out.1.1];have:=HLL.out.1;rwa [HL.out.1.1] at this) HLL.out.2 (by rw [HN.out.len];have h1:=HL.out;have h2:=HLL.out.1;rw [h1.1.1,h1.2.1] at h2;omega)
    have HQQ:=Lib.hid (And.intro hQ hQ2)
    have HDIG:=Lib.hid HN.out.dig
    have hlr:(R=0∧lr=0)∨(0<R∧(0:Int)<lr):=by
     rcases Nat.eq_zero_or_pos R with h | h
     · left
       have e0:=HZ.out h
       simp only [Value.slice.injEq] at e0
       exact ⟨h,e0.2.1⟩
     · right
       refine ⟨h,?_⟩
       rcases HD.out.rest.cases with ⟨h0,_⟩ | ⟨h0,g,off,c,hsl,_⟩
       · exfalso
         have:=dval_dg R
         rw [h0,dval_nil] at this
         omega
       · simp only [Value.slice.injEq] at hsl
         rw [hsl.2.1];omega
    have hways:∃ (q:Int) (b:Bool),QOk x y q∧((b=false∧q=Q∧(lr=0∨((0:Int)<lr∧n1=n2)))∨(b=true∧q=Q-1∧(0:Int)<lr∧n1≠n2)):=by
     rcases hlr with ⟨h1,h2⟩ | ⟨h1,h2⟩
     · exact ⟨Q,false,hQ3 (.inl h1),.inl ⟨rfl,rfl,.inl h2⟩⟩
     · by_cases hnn:n1=n2
       · exact ⟨Q,false,hQ3 (.inr hnn),.inl ⟨rfl,rfl,.inr ⟨h2,hnn⟩⟩⟩
       · exact ⟨Q-1,true,hQ4 h1 hnn,.inr ⟨rfl,rfl,h2,hnn⟩⟩
    obtain ⟨q,sb,hqok,hw⟩:=hways
    have HQOK:=Lib.hid hqok
    have HWAY:=Lib.hid hw
    clear hQ hQ2 hQ3 hQ4 hlr hqok hw HNEG HN HZ r0 r1 r2 r3
    go_wp2_with fail
    refine (make0_any (!n1==n2) u7 qs _ HRQ.out HDIG.out).mono ?_
    rintro e w4 ⟨v4,rfl,hv4,hb4⟩
    rw [HQQ.out.1] at hv4
    obtain ⟨a4,c4,rfl⟩:=hv4.form
    obtain ⟨nq,hnq⟩:∃ b,isNeg Q=b:=⟨_,rfl⟩
    obtain ⟨lq,hlq⟩:∃ l,(dg Q.natAbs).length=l:=⟨_,rfl⟩
    rw [hnq,hlq] at hv4 ⊢
    have HDA:=Lib.hid ((HD.out.keep hb4).keep ((Below.refl _ w4).alloc (Nat.le_refl _) (.cells #[.bool nq,.slice a4 lq c4] 31)))
    have HVA:=Lib.hid (hv4.keep ((Below.refl _ w4).alloc (Nat.le_refl _) (.cells #[.bool nq,.slice a4 lq c4] 31)) (Nat.le_refl _))
    have HBA:=Lib.hid (Bx.new w4 (.bool nq) (.slice a4 lq c4) 31)
    have hB5:w.heap.size+4<w4.heap.size:=(HD.out.keep hb4).box5.lt
    clear hv4 hb4 HRQ HD HDIG p0 p1 p2 p3 q0 q1 q2 q3
    go_upto_region 15 with fail
    obtain ⟨g,hg⟩:∃ g,w4.heap.size=g:=⟨_,rfl⟩
    generalize hwb:w4.alloc (.cells #[.bool nq,.slice a4 lq c4] 31)=wb at *
    rw [hg] at HBA hB5 ⊢
    have HNQ:=Lib.hid (And.intro trivial (And.intro hnq hlq))
    clear hwb hg hnq hlq
    have HDT:Hid (Dt w wb (.agg #[.bool n1,.slice a1 la c1]) (.agg #[.bool n2,.slice a2 lb c2]) x y n1 n2 (.slice a1 la c1) (.slice a2 lb c2)):=Lib.hid ⟨HDA.out.box1,HDA.out.box2,HDA.out.box3,HDA.out.box4,HDA.out.n1,HDA.out.n2,HDA.out.below⟩
    have HDT:Hid (Dt w wb (.agg #[.bool n1,.slice a1 la c1]) (.agg #[.bool n2,.slice a2 lb c2]) x y n1 n2 (.slice a1 la c1) (.slice a2 lb c2)):=Lib.hid ⟨HDA.out.box1,HDA.out.box2,HDA.out.box3,HDA.out.box4,HDA.out.n1,HDA.out.n2,HDA.out.below⟩
    rcases HWAY.out with ⟨rfl,hqe,hcase⟩ | ⟨rfl,hqe,hl0,hne⟩
    · subst hqe
      have hbr:(lr=0∧True)∨((0:Int)<lr∧(n1 != n2)=false):=by
       rcases hcase with h | ⟨h,h2⟩
       · exact .inl ⟨h,trivial⟩
       · exact .inr ⟨h,by subst h2;simp⟩
      clear hcase HWAY
      obtain ⟨c0,c1,c2,c3⟩:=HDA.out.box1.cell
      obtain ⟨c4',c5,c6,c7⟩:=HDA.out.box2.cell
      obtain ⟨r0,r1,r2,r3⟩:=HDA.out.box5.cell
      go_cut [68] (fun t wx=>t = .bool false∧wx=wb)
      case first =>
       rcases hbr with ⟨rfl,_⟩ | ⟨h1,h2⟩
       · go_wp2_with fail
         go_meet
         case rel=>exact ⟨rfl,rfl⟩
       · go_wp2_with fail
         go_meet
         case rel=>exact ⟨congrArg Value.bool h2,rfl⟩
      case rest =>
      obtain ⟨rfl,rfl⟩:=hcut
      clear c0 c1 c2 c3 c4' c5 c6 c7 r0 r1 r2 r3 hbr
      have HDB:=Lib.hid (HDT.out.keep (Below.refl _ _).drew)
      have HBB:=Lib.hid HBA.out.drew
      have HVB:=Lib.hid (HVA.out.keep (Below.refl _ _).drew (Nat.le_refl _))
      clear HDA HBA HVA HDT
      have h0:=HDB.out.box1.cell.1
      have h1:=HDB.out.box1.cell.2.1
      have h2:=HDB.out.box2.cell.1
      have h3:=HDB.out.box2.cell.2.1
      have h4:=HBB.out.cell.1
      have h5:=HBB.out.cell.2.1
      go_upto_region 17 with fail
      go_region_held3 (fun w'=>w'.cell? ⟨w.heap.size,0,none⟩=some (.bool n1)∧w'.cell? ⟨w.heap.size,1,none⟩=some (.slice a1 la c1)∧w'.cell? ⟨w.heap.size+1,0,none⟩=some (.bool n2)∧w'.cell? ⟨w.heap.size+1,1,none⟩=some (.slice a2 lb c2)∧w'.cell? ⟨g,0,none⟩=some (.bool nq)∧w'.cell? ⟨g,1,none⟩=some (.slice a4 lq c4)) (first | ((try dsimp only);(repeat' apply And.intro);all_goals with_reducible assumption) | go_keep) (first | (go_at_call 83;have hgd:=hB6;clear hgd;refine (rSub_any _ _ x (q*y) (x-q*y) _ (by exact hD6.n1) (by exact hv6) (by have:=HLL.out.1;omega) HQOK.out.2.2 rfl).mono ?_;rintro e w7 ⟨v7,rfl,hv7,hb7⟩;have hD7:=hD6.keep hb7;have hB7:=hB6.below hb7 hB6.lt;have hV7:=hV6.keep hb7 (Nat.le_refl _);clear j0 j1 j2 j3 j4 j5;have k0:=hD7.box1.cell.1;have k1:=hD7.box1.cell.2.1;have k2:=hD7.box2.cell.1;have k3:=hD7.box2.cell.2.1;have k4:=hB7.cell.1;have k5:=hB7.cell.2.1;have z0:w7.frozen? ⟨w.heap.size+1+1,0,none⟩=false:=hD7.box3.cell.2.2.1;have z1:w7.frozen? ⟨w.heap.size+1+1,1,none⟩=false:=hD7.box3.cell.2.2.2;have z4:w7.cell? ⟨w.heap.size+1+1,0,none⟩=some (.bool false):=hD7.box3.cell.1;have z5:w7.cell? ⟨w.heap.size+1+1,1,none⟩=some (.slice none 0 0):=hD7.box3.cell.2.1;obtain ⟨a7,c7,rfl⟩:=hv7.form;have hB4:Bx ((w7.setCell ⟨w.heap.size+1+1,0,none⟩ (.bool nq)).setCell ⟨w.heap.size+1+1,1,none⟩ (.slice a4 lq c4)) (w.heap.size+1+1+1) (.bool false) (.slice none 0 0):=hD7.box4.only (((Only.refl (w.heap.size+1+1) w7).set 0 _).set 1 _) (by omega);have z2:=hB4.cell.2.2.1;have z3:=hB4.cell.2.2.2;have z6:=hB4.cell.1;have z7:=hB4.cell.2.1;have t0:=(cell_set2 w7 (w.heap.size+1+1) (.bool nq) (.slice a4 lq c4) (w.heap.size) 0 (by omega)).trans k0;have t1:=(cell_set2 w7 (w.heap.size+1+1) (.bool nq) (.slice a4 lq c4) (w.heap.size) 1 (by omega)).trans k1;have t2:=(cell_set2 w7 (w.heap.size+1+1) (.bool nq) (.slice a4 lq c4) (w.heap.size+1) 0 (by omega)).trans k2;have t3:=(cell_set2 w7 (w.heap.size+1+1) (.bool nq) (.slice a4 lq c4) (w.heap.size+1) 1 (by omega)).trans k3;have t4:=(cell_set2 w7 (w.heap.size+1+1) (.bool nq) (.slice a4 lq c4) (g) 0 (by omega)).trans k4;have t5:=(cell_set2 w7 (w.heap.size+1+1) (.bool nq) (.slice a4 lq c4) (g) 1 (by omega)).trans k5;have s0:=(cell_set2 ((w7.setCell ⟨w.heap.size+1+1,0,none⟩ (.bool nq)).setCell ⟨w.heap.size+1+1,1,none⟩ (.slice a4 lq c4)) (w.heap.size+1+1+1) (.bool (isNeg (x-q*y))) (.slice a7 (dg (x-q*y).natAbs).length c7) (w.heap.size) 0 (by omega)).trans t0;have s1:=(cell_set2 ((w7.setCell ⟨w.heap.size+1+1,0,none⟩ (.bool nq)).setCell ⟨w.heap.size+1+1,1,none⟩ (.slice a4 lq c4)) (w.heap.size+1+1+1) (.bool (isNeg (x-q*y))) (.slice a7 (dg (x-q*y).natAbs).length c7) (w.heap.size) 1 (by omega)).trans t1;have s2:=(cell_set2 ((w7.setCell ⟨w.heap.size+1+1,0,none⟩ (.bool nq)).setCell ⟨w.heap.size+1+1,1,none⟩ (.slice a4 lq c4)) (w.heap.size+1+1+1) (.bool (isNeg (x-q*y))) (.slice a7 (dg (x-q*y).natAbs).length c7) (w.heap.size+1) 0 (by omega)).trans t2;have s3:=(cell_set2 ((w7.setCell ⟨w.heap.size+1+1,0,none⟩ (.bool nq)).setCell ⟨w.heap.size+1+1,1,none⟩ (.slice a4 lq c4)) (w.heap.size+1+1+1) (.bool (isNeg (x-q*y))) (.slice a7 (dg (x-q*y).natAbs).length c7) (w.heap.size+1) 1 (by omega)).trans t3;have s4:=(cell_set2 ((w7.setCell ⟨w.heap.size+1+1,0,none⟩ (.bool nq)).setCell ⟨w.heap.size+1+1,1,none⟩ (.slice a4 lq c4)) (w.heap.size+1+1+1) (.bool (isNeg (x-q*y))) (.slice a7 (dg (x-q*y).natAbs).length c7) (g) 0 (by omega)).trans t4;have s5:=(cell_set2 ((w7.setCell ⟨w.heap.size+1+1,0,none⟩ (.bool nq)).setCell ⟨w.heap.size+1+1,1,none⟩ (.slice a4 lq c4)) (w.heap.size+1+1+1) (.bool (isNeg (x-q*y))) (.slice a7 (dg (x-q*y).natAbs).length c7) (g) 1 (by omega)).trans t5) | (go_at_call 76;refine (rMul_any _ _ q y _ (by exact HVB.out) (by exact HDB.out.n2) HQOK.out.2.1 HLL.out.2).mono ?_;rintro e w6 ⟨v6,rfl,hv6,hb6⟩;have hD6:=HDB.out.keep hb6;have hB6:=HBB.out.below hb6 HBB.out.lt;have hV6:=HVB.out.keep hb6 (Nat.le_refl _);clear h0 h1 h2 h3 h4 h5;have j0:=hD6.box1.cell.1;have j1:=hD6.box1.cell.2.1;have j2:=hD6.box2.cell.1;have j3:=hD6.box2.cell.2.1;have j4:=hB6.cell.1;have j5:=hB6.cell.2.1;obtain ⟨a6,c6,rfl⟩:=hv6.form))
      have HD8:=Lib.hid hD7
      have HV8:=Lib.hid hV7
      have HR8:=Lib.hid hv7
      have HB4:=Lib.hid hB4
      clear hD7 hV7 hv7 hB4 z0 z1 z2 z3 z4 z5 z6 z7 t0 s0 k0 t1 s1 k1 t2 s2 k2 t3 s3 k3 t4 s4 k4 t5 s5 k5 hD6 hB6 hV6 hB7 hb6 hb7 hv6
      go_wp2
      obtain ⟨l0,l1,_,_⟩:=(HB4.out.put (.bool (isNeg (x-q*y))) (.slice a7 (dg (x-q*y).natAbs).length c7)).cell
      obtain ⟨l2,l3,_,_⟩:=((HD8.out.box3.put (.bool nq) (.slice a4 lq c4)).only (((Only.refl (w.heap.size+1+1+1) _).set 0 (.bool (isNeg (x-q*y)))).set 1 (.slice a7 (dg (x-q*y).natAbs).length c7)) (by omega)).cell
      refine bodyPost_ret (v := .tuple #[.agg #[.bool nq,.slice a4 lq c4],.agg #[.bool (isNeg (x-q*y)),.slice a7 (dg (x-q*y).natAbs).length c7]]) (by simp only [results,Tryz.results81];simp [go_sem,l0,l1,l2,l3]) rfl ?_
      exact RDivPost.boxed HV8.out HR8.out HD8.out.box3 HD8.out.box4 (by omega) HD8.out.below (by omega) (by omega) HQOK.out.1
    · have hb:(n1 != n2)=true:=by cases n1 <;> cases n2 <;> first | rfl | exact absurd rfl hne
      clear HWAY
      have HQE:=Lib.hid (And.intro trivial hqe)
      have HONE:Hid (True∧(dg (1:Int).natAbs).length≤2000):=Lib.hid ⟨trivial,by decide +kernel⟩
      clear hqe hne
      obtain ⟨c0,c1,c2,c3⟩:=HDA.out.box1.cell
      obtain ⟨c4',c5,c6,c7⟩:=HDA.out.box2.cell
      obtain ⟨r0,r1,r2,r3⟩:=HDA.out.box5.cell
      go_cut [68] (fun t wx=>t = .bool true∧wx=wb)
      case first =>
       go_wp2_with fail
       go_meet
       case rel=>exact ⟨congrArg Value.bool hb,rfl⟩
      case rest =>
      obtain ⟨rfl,rfl⟩:=hcut
      clear c0 c1 c2 c3 c4' c5 c6 c7 r0 r1 r2 r3 hb hl0
      clear HDA
      have HBB0:=HBA
      go_upto_region 16 with fail
      have h4:=HBB0.out.cell.1
      have h5:=HBB0.out.cell.2.1
      go_cut [71] (fun t wx=>∃ (nr:Bool) (ar:Option Addr) (lr':Nat) (cr:Nat),Hid (Dt w wx (.agg #[.bool n1,.slice a1 la c1]) (.agg #[.bool n2,.slice a2 lb c2]) x y n1 n2 (.slice a1 la c1) (.slice a2 lb c2))∧Hid (Bx wx g (.bool nr) (.slice ar lr' cr))∧Hid (Ref wx (.agg #[.bool nr,.slice ar lr' cr]) q))
      case first =>
       have HDB:=Lib.hid (HDT.out.keep (Below.refl _ _).drew)
       have HBB:=Lib.hid HBA.out.drew
       have HVB:=Lib.hid (HVA.out.keep (Below.refl _ _).drew (Nat.le_refl _))
       go_region_with (first | (go_at_call 83;have hgd:=hB6;clear hgd;refine (rSub_any _ _ Q 1 q _ (by exact hV6) (by exact hv6) HQQ.out.2 HONE.out.2 HQE.out.2).mono ?_;rintro e w7 ⟨v7,rfl,hv7,hb7⟩;have hD7:=hD6.keep hb7;have hB7:=hB6.below hb7 hB6.lt;obtain ⟨a7,c7,rfl⟩:=hv7.form;obtain ⟨k4,k5,k6,k7⟩:=hB7.cell) | (go_at_call 118;refine (rFrom_one _).mono ?_;rintro e w6 ⟨v6,rfl,hv6,hb6⟩;have hD6:=HDB.out.keep hb6;have hB6:=HBB.out.below hb6 HBB.out.lt;have hV6:=HVB.out.keep hb6 (Nat.le_refl _);obtain ⟨j4,j5,_,_⟩:=hB6.cell;obtain ⟨a6,c6,rfl⟩:=hv6.form))
       all_goals (go_wp2_with fail;go_meet;case rel=>(refine ⟨isNeg q,a7,(dg q.natAbs).length,c7,Lib.hid (hD7.only (((Only.refl g w7).set 0 (.bool (isNeg q))).set 1 (.slice a7 (dg q.natAbs).length c7)) (by omega) H1.out H2.out),Lib.hid (hB7.put (.bool (isNeg q)) (.slice a7 (dg q.natAbs).length c7)),?_⟩;obtain ⟨t,e,r⟩:=hv7;exact Lib.hid ⟨t,e,r.box hB7 _ _⟩))
      case rest =>
      obtain ⟨nr,a7,lr',c7,HD8,HB8,HV8⟩:=hcut
      clear h4 h5 HDT HBA HVA
      have HDB:=Lib.hid (HD8.out.keep (Below.refl _ _).drew)
      have HBB:=Lib.hid HB8.out.drew
      have HVB:=Lib.hid (HV8.out.keep (Below.refl _ _).drew (Nat.le_refl _))
      clear HD8 HB8 HV8
      have h0:=HDB.out.box1.cell.1
      have h1:=HDB.out.box1.cell.2.1
      have h2:=HDB.out.box2.cell.1
      have h3:=HDB.out.box2.cell.2.1
      have h4:=HBB.out.cell.1
      have h5:=HBB.out.cell.2.1
      go_upto_region 17 with fail
      go_region_held3 (fun w'=>w'.cell? ⟨w.heap.size,0,none⟩=some (.bool n1)∧w'.cell? ⟨w.heap.size,1,none⟩=some (.slice a1 la c1)∧w'.cell? ⟨w.heap.size+1,0,none⟩=some (.bool n2)∧w'.cell? ⟨w.heap.size+1,1,none⟩=some (.slice a2 lb c2)∧w'.cell? ⟨g,0,none⟩=some (.bool nr)∧w'.cell? ⟨g,1,none⟩=some (.slice a7 lr' c7)) (first | ((try dsimp only);(repeat' apply And.intro);all_goals with_reducible assumption) | go_keep) (first | (go_at_call 83;have hgd:=hB6;clear hgd;refine (rSub_any _ _ x (q*y) (x-q*y) _ (by exact hD6.n1) (by exact hv6) (by have:=HLL.out.1;omega) HQOK.out.2.2 rfl).mono ?_;rintro e w9 ⟨v7,rfl,hv7,hb7⟩;have hD7:=hD6.keep hb7;have hB7:=hB6.below hb7 hB6.lt;have hV7:=hV6.keep hb7 (Nat.le_refl _);clear j0 j1 j2 j3 j4 j5;have k0:=hD7.box1.cell.1;have k1:=hD7.box1.cell.2.1;have k2:=hD7.box2.cell.1;have k3:=hD7.box2.cell.2.1;have k4:=hB7.cell.1;have k5:=hB7.cell.2.1;have z0:w9.frozen? ⟨w.heap.size+1+1,0,none⟩=false:=hD7.box3.cell.2.2.1;have z1:w9.frozen? ⟨w.heap.size+1+1,1,none⟩=false:=hD7.box3.cell.2.2.2;have z4:w9.cell? ⟨w.heap.size+1+1,0,none⟩=some (.bool false):=hD7.box3.cell.1;have z5:w9.cell? ⟨w.heap.size+1+1,1,none⟩=some (.slice none 0 0):=hD7.box3.cell.2.1;obtain ⟨a9,c9,rfl⟩:=hv7.form;have hB4:Bx ((w9.setCell ⟨w.heap.size+1+1,0,none⟩ (.bool nr)).setCell ⟨w.heap.size+1+1,1,none⟩ (.slice a7 lr' c7)) (w.heap.size+1+1+1) (.bool false) (.slice none 0 0):=hD7.box4.only (((Only.refl (w.heap.size+1+1) w9).set 0 _).set 1 _) (by omega);have z2:=hB4.cell.2.2.1;have z3:=hB4.cell.2.2.2;have z6:=hB4.cell.1;have z7:=hB4.cell.2.1;have t0:=(cell_set2 w9 (w.heap.size+1+1) (.bool nr) (.slice a7 lr' c7) (w.heap.size) 0 (by omega)).trans k0;have t1:=(cell_set2 w9 (w.heap.size+1+1) (.bool nr) (.slice a7 lr' c7) (w.heap.size) 1 (by omega)).trans k1;have t2:=(cell_set2 w9 (w.heap.size+1+1) (.bool nr) (.slice a7 lr' c7) (w.heap.size+1) 0 (by omega)).trans k2;have t3:=(cell_set2 w9 (w.heap.size+1+1) (.bool nr) (.slice a7 lr' c7) (w.heap.size+1) 1 (by omega)).trans k3;have t4:=(cell_set2 w9 (w.heap.size+1+1) (.bool nr) (.slice a7 lr' c7) (g) 0 (by omega)).trans k4;have t5:=(cell_set2 w9 (w.heap.size+1+1) (.bool nr) (.slice a7 lr' c7) (g) 1 (by omega)).trans k5;have s0:=(cell_set2 ((w9.setCell ⟨w.heap.size+1+1,0,none⟩ (.bool nr)).setCell ⟨w.heap.size+1+1,1,none⟩ (.slice a7 lr' c7)) (w.heap.size+1+1+1) (.bool (isNeg (x-q*y))) (.slice a9 (dg (x-q*y).natAbs).length c9) (w.heap.size) 0 (by omega)).trans t0;have s1:=(cell_set2 ((w9.setCell ⟨w.heap.size+1+1,0,none⟩ (.bool nr)).setCell ⟨w.heap.size+1+1,1,none⟩ (.slice a7 lr' c7)) (w.heap.size+1+1+1) (.bool (isNeg (x-q*y))) (.slice a9 (dg (x-q*y).natAbs).length c9) (w.heap.size) 1 (by omega)).trans t1;have s2:=(cell_set2 ((w9.setCell ⟨w.heap.size+1+1,0,none⟩ (.bool nr)).setCell ⟨w.heap.size+1+1,1,none⟩ (.slice a7 lr' c7)) (w.heap.size+1+1+1) (.bool (isNeg (x-q*y))) (.slice a9 (dg (x-q*y).natAbs).length c9) (w.heap.size+1) 0 (by omega)).trans t2;have s3:=(cell_set2 ((w9.setCell ⟨w.heap.size+1+1,0,none⟩ (.bool nr)).setCell ⟨w.heap.size+1+1,1,none⟩ (.slice a7 lr' c7)) (w.heap.size+1+1+1) (.bool (isNeg (x-q*y))) (.slice a9 (dg (x-q*y).natAbs).length c9) (w.heap.size+1) 1 (by omega)).trans t3;have s4:=(cell_set2 ((w9.setCell ⟨w.heap.size+1+1,0,none⟩ (.bool nr)).setCell ⟨w.heap.size+1+1,1,none⟩ (.slice a7 lr' c7)) (w.heap.size+1+1+1) (.bool (isNeg (x-q*y))) (.slice a9 (dg (x-q*y).natAbs).length c9) (g) 0 (by omega)).trans t4;have s5:=(cell_set2 ((w9.setCell ⟨w.heap.size+1+1,0,none⟩ (.bool nr)).setCell ⟨w.heap.size+1+1,1,none⟩ (.slice a7 lr' c7)) (w.heap.size+1+1+1) (.bool (isNeg (x-q*y))) (.slice a9 (dg (x-q*y).natAbs).length c9) (g) 1 (by omega)).trans t5) | (go_at_call 76;refine (rMul_any _ _ q y _ (by exact HVB.out) (by exact HDB.out.n2) HQOK.out.2.1 HLL.out.2).mono ?_;rintro e w6 ⟨v6,rfl,hv6,hb6⟩;have hD6:=HDB.out.keep hb6;have hB6:=HBB.out.below hb6 HBB.out.lt;have hV6:=HVB.out.keep hb6 (Nat.le_refl _);clear h0 h1 h2 h3 h4 h5;have j0:=hD6.box1.cell.1;have j1:=hD6.box1.cell.2.1;have j2:=hD6.box2.cell.1;have j3:=hD6.box2.cell.2.1;have j4:=hB6.cell.1;have j5:=hB6.cell.2.1;obtain ⟨a6,c6,rfl⟩:=hv6.form))
      have HD8:=Lib.hid hD7
      have HV8:=Lib.hid hV7
      have HR8:=Lib.hid hv7
      have HB4:=Lib.hid hB4
      clear hD7 hV7 hv7 hB4 z0 z1 z2 z3 z4 z5 z6 z7 t0 s0 k0 t1 s1 k1 t2 s2 k2 t3 s3 k3 t4 s4 k4 t5 s5 k5 hD6 hB6 hV6 hB7 hb6 hb7 hv6
      go_wp2
      obtain ⟨l0,l1,_,_⟩:=(HB4.out.put (.bool (isNeg (x-q*y))) (.slice a9 (dg (x-q*y).natAbs).length c9)).cell
      obtain ⟨l2,l3,_,_⟩:=((HD8.out.box3.put (.bool nr) (.slice a7 lr' c7)).only (((Only.refl (w.heap.size+1+1+1) _).set 0 (.bool (isNeg (x-q*y)))).set 1 (.slice a9 (dg (x-q*y).natAbs).length c9)) (by omega)).cell
      refine bodyPost_ret (v := .tuple #[.agg #[.bool nr,.slice a7 lr' c7],.agg #[.bool (isNeg (x-q*y)),.slice a9 (dg (x-q*y).natAbs).length c9]]) (by simp only [results,Tryz.results81];simp [go_sem,l0,l1,l2,l3]) rfl ?_
      exact RDivPost.boxed HV8.out HR8.out HD8.out.box3 HD8.out.box4 (by omega) HD8.out.below (by omega) (by omega) HQOK.out.1
end Go.Proofs.YtkhdocdddicgpaaGreatDoor
set_option linter.unusedVariables false
set_option linter.unusedSimpArgs false
namespace Go.Proofs.YtkhdocdddicgpaaGreatDoor
open Go.RowKit _root_.Go.Proofs.YtkhdocdddicgpaaGreatDoor.Nm
structure Gs (w wr:World) (na:Bool) (aa:Option Addr) (la ca:Nat) (nb:Bool) (ab:Option Addr) (lb cb:Nat) (a b:Int):Prop where
 box1:Bx wr w.heap.size (.bool na) (.slice aa la ca)
 box2:Bx wr (w.heap.size+1) (.bool nb) (.slice ab lb cb)
 box3:Bx wr (w.heap.size+1+1) (.bool false) (.slice none 0 0)
 r1:Ref wr (.agg #[.bool na,.slice aa la ca]) a
 r2:Ref wr (.agg #[.bool nb,.slice ab lb cb]) b
 below:Below w.heap.size w wr
theorem Ref.len {w:World} {n:Bool} {a:Option Addr} {l c:Nat} {z:Int} (h:Ref w (.agg #[.bool n,.slice a l c]) z):l=(dg z.natAbs).length:=by
 obtain ⟨sv,e,a',c',e2,_⟩:=h
 simp only [Value.agg.injEq,Array.mk.injEq,List.cons.injEq,and_true] at e
 rw [← e.2] at e2
 simp only [Value.slice.injEq] at e2
 exact e2.2.1
theorem dg_pos {n:Nat} (h:0<n):0<(dg n).length:=by
 rcases Nat.eq_zero_or_pos (dg n).length with h1 | h1
 · have h2:=dval_dg n
   rw [List.length_eq_zero_iff.1 h1,dval_nil] at h2
   omega
 · exact h1
theorem gcd_step {a b q r:Int} (h:Dv a b q r):Int.gcd b r=Int.gcd a b:=by
 obtain ⟨h1,_,_⟩:=h
 exact gcd_of a b b r 0 1 1 (-q) q 1 1 0 (by omega) (by grind) (by grind) (by omega)
theorem Gs.next {w wr:World} {na:Bool} {aa:Option Addr} {la ca:Nat} {nb:Bool} {ab:Option Addr} {lb cb:Nat} {a b:Int} (h:Gs w wr na aa la ca nb ab lb cb a b) {nr:Bool} {ar:Option Addr} {lr cr:Nat} {r:Int} (hr:Ref wr (.agg #[.bool nr,.slice ar lr cr]) r) :
 Gs w ((((wr.setCell ⟨w.heap.size,0,none⟩ (.bool nb)).setCell ⟨w.heap.size,1,none⟩ (.slice ab lb cb)).setCell ⟨w.heap.size+1,0,none⟩ (.bool nr)).setCell ⟨w.heap.size+1,1,none⟩ (.slice ar lr cr)) nb ab lb cb nr ar lr cr b r:=by
 have o1:=((Only.refl w.heap.size wr).set 0 (.bool nb)).set 1 (.slice ab lb cb)
 have x2:=h.box2.only o1 (by omega)
 have o2:=((Only.refl (w.heap.size+1) ((wr.setCell ⟨w.heap.size,0,none⟩ (.bool nb)).setCell ⟨w.heap.size,1,none⟩ (.slice ab lb cb))).set 0 (.bool nr)).set 1 (.slice ar lr cr)
 obtain ⟨s1,e1,r1⟩:=h.r2
 obtain ⟨s2,e2,r2⟩:=hr
 exact ⟨(h.box1.put _ _).only o2 (by omega),x2.put _ _,(h.box3.only o1 (by omega)).only o2 (by omega),⟨s1,e1,(r1.box h.box1 _ _).box x2 _ _⟩,⟨s2,e2,(r2.box h.box1 _ _).box x2 _ _⟩,(h.below.trans (o1.below (Nat.le_refl _))).trans (o2.below (by omega))⟩
set_option maxRecDepth 100000 in
set_option maxHeartbeats 6400000 in
theorem rGcd_any (v1 v2:Value) (x y:Int) (w:World) (h1:Ref w v1 x) (h2:Ref w v2 y) (lx:(dg x.natAbs).length≤1000) (ly:(dg y.natAbs).length≤1000) :
 Calls Tryz.prog 79 #[v1,v2] w (RefPost (Int.gcd x y:Nat) w):=by
 obtain ⟨a1,c1,rfl⟩:=h1.form
 obtain ⟨a2,c2,rfl⟩:=h2.form
 have HS0:Hid (Gs w (((w.alloc (.cells #[.bool (isNeg x),.slice a1 (dg x.natAbs).length c1] 31)).alloc (.cells #[.bool (isNeg y),.slice a2 (dg y.natAbs).length c2] 31)).alloc (.cells #[.bool false,.slice none 0 0] 31)) (isNeg x) a1 (dg x.natAbs).length c1 (isNeg y) a2 (dg y.natAbs).length c2 x y):=by
  have hs:=St.start w (.bool (isNeg x)) (.slice a1 (dg x.natAbs).length c1) (.bool (isNeg y)) (.slice a2 (dg y.natAbs).length c2) (.bool false) (.slice none 0 0) 31 31 31
  exact Lib.hid ⟨hs.2.2.1,hs.2.2.2.1,hs.2.2.2.2,h1.keep hs.1 (Nat.le_refl _),h2.keep hs.1 (Nat.le_refl _),hs.1⟩
 have HL0:=Lib.hid (And.intro lx ly)
 obtain ⟨G,hG⟩:∃ G:Int,((Int.gcd x y:Nat):Int)=G:=⟨_,rfl⟩
 have HG:=Lib.hid (And.intro trivial hG)
 rw [hG]
 obtain ⟨n1,hn1⟩:∃ n,isNeg x=n:=⟨_,rfl⟩
 obtain ⟨n2,hn2⟩:∃ n,isNeg y=n:=⟨_,rfl⟩
 obtain ⟨l1,hl1⟩:∃ n,(dg x.natAbs).length=n:=⟨_,rfl⟩
 obtain ⟨l2,hl2⟩:∃ n,(dg y.natAbs).length=n:=⟨_,rfl⟩
 rw [hn1,hn2,hl1,hl2] at HS0
 rw [hn1,hn2,hl1,hl2]
 obtain ⟨M,hM⟩:∃ M,y.natAbs=M:=⟨_,rfl⟩
 have HM:=Lib.hid (And.intro trivial hM)
 clear h1 h2 lx ly hG hn1 hn2 hl1 hl2 hM
 go_enter Tryz.func79,Tryz.ntmps79
 go_wp2_with fail
 go_loopg [5,6] M (fun gk _ _ wr=>∃ (na:Bool) (aa:Option Addr) (la ca:Nat) (nb:Bool) (ab:Option Addr) (lb cb:Nat) (a b:Int),Hid (Gs w wr na aa la ca nb ab lb cb a b)∧Hid (True∧b.natAbs=gk)∧Hid ((dg a.natAbs).length≤1000∧(dg b.natAbs).length≤1000)∧Hid (True∧((Int.gcd a b:Nat):Int)=G))
 case atStart=>exact ⟨_,_,_,_,_,_,_,_,_,_,HS0,HM,HL0,HG⟩
 case round =>
  obtain ⟨na,aa,la,ca,nb,ab,lb,cb,a,b,HS,HK,HL,HGG⟩:=hrel
  obtain ⟨p0,p1,p2,p3⟩:=HS.out.box1.cell
  obtain ⟨q0,q1,q2,q3⟩:=HS.out.box2.cell
  by_cases hb0:b=0
  · obtain rfl:lb=0:=by rw [HS.out.r2.len,hb0];show (dg 0).length=0;rw [dg_zero];rfl
    go_wp2_with fail
    refine (make0_any false (.slice aa la ca) (dg a.natAbs) _ (by obtain ⟨sv,e,h⟩:=HS.out.r1;simp only [Value.agg.injEq,Array.mk.injEq,List.cons.injEq,and_true] at e;rw [e.2];exact h) (dg_lt _)).mono ?_
    rintro e w2 ⟨v,rfl,hv,hb⟩
    have hz:sz false (dval (dg a.natAbs))=G:=by
     rw [dval_dg, ← HGG.out.2,hb0,Int.gcd_zero_right]
     rfl
    rw [hz] at hv
    obtain ⟨a5,c5,rfl⟩:=hv.form
    have HV:=Lib.hid hv
    have HB:=Lib.hid (HS.out.below.trans (hb.mono HS.out.below.size))
    have HX:=Lib.hid (HS.out.box3.below hb HS.out.box3.lt)
    clear hv hb p0 p1 p2 p3 q0 q1 q2 q3
    obtain ⟨f0,f1,f2,f3⟩:=HX.out.cell
    go_wp2
    obtain ⟨l0,l1,_,_⟩:=(HX.out.put (.bool (isNeg G)) (.slice a5 (dg G.natAbs).length c5)).cell
    refine bodyPost_ret (v := .agg #[.bool (isNeg G),.slice a5 (dg G.natAbs).length c5]) (by simp only [results,Tryz.results79];simp [go_sem,l0,l1]) rfl ?_
    exact RefPost.boxed HV.out HX.out HB.out (by omega)
  · have hlb:(0:Int)<lb:=by
     have h1:=HS.out.r2.len
     have h2:=dg_pos (n:=b.natAbs) (by omega)
     omega
    go_wp2_with fail
    refine (rDivMod_any _ _ a b _ HS.out.r1 HS.out.r2 HL.out.1 HL.out.2 hb0).mono ?_
    rintro e w3 ⟨vq,vr,q,r,rfl,hq,hr,hd,hb⟩
    obtain ⟨aq,cq,rfl⟩:=hq.form
    obtain ⟨ar,cr,rfl⟩:=hr.form
    clear p0 p1 p2 p3 q0 q1 q2 q3
    have HR3:=Lib.hid hr
    have HB3:=Lib.hid hb
    have HD:=Lib.hid hd
    obtain ⟨nq,hnq⟩:∃ n,isNeg q=n:=⟨_,rfl⟩
    obtain ⟨nr,hnr⟩:∃ n,isNeg r=n:=⟨_,rfl⟩
    obtain ⟨lq,hlq⟩:∃ n,(dg q.natAbs).length=n:=⟨_,rfl⟩
    obtain ⟨lr,hlr⟩:∃ n,(dg r.natAbs).length=n:=⟨_,rfl⟩
    rw [hnr,hlr] at HR3
    rw [hnq,hnr,hlq,hlr]
    have HLR:Hid (True∧(dg r.natAbs).length≤1000):=Lib.hid ⟨trivial,Nat.le_trans (dg_le_len (Nat.le_of_lt hd.size)) HL.out.2⟩
    have hsz:w.heap.size+1+1<wr.heap.size:=HS.out.box3.lt
    have hs3:=hb.size
    clear hq hr hd hb hnq hnr hlq hlr
    have HA:Hid (Below w3.heap.size w3 ((w3.alloc (.cells #[.bool nq,.slice aq lq cq] 31)).alloc (.cells #[.bool nr,.slice ar lr cr] 31))):=Lib.hid (((Below.refl _ w3).alloc (Nat.le_refl _) _).alloc (by simp) _)
    have HX:=Lib.hid (Bx.new (w3.alloc (.cells #[.bool nq,.slice aq lq cq] 31)) (.bool nr) (.slice ar lr cr) 31)
    rw [World.size_alloc] at HX
    go_upto_region 3 with fail
    obtain ⟨g,hg⟩:∃ g,w3.heap.size=g:=⟨_,rfl⟩
    generalize (w3.alloc (.cells #[.bool nq,.slice aq lq cq] 31)).alloc (.cells #[.bool nr,.slice ar lr cr] 31)=w4 at *
    have HB4:=Lib.hid (HB3.out.trans (HA.out.mono HB3.out.size))
    have HR4:=Lib.hid (HR3.out.keep HA.out (Nat.le_refl _))
    rw [hg] at HX hs3 ⊢
    clear HA HR3 HB3 hg
    have HS4:Hid (Gs w w4 na aa la ca nb ab lb cb a b):=Lib.hid ⟨HS.out.box1.below HB4.out HS.out.box1.lt,HS.out.box2.below HB4.out HS.out.box2.lt,HS.out.box3.below HB4.out HS.out.box3.lt,HS.out.r1.keep HB4.out (Nat.le_refl _),HS.out.r2.keep HB4.out (Nat.le_refl _),HS.out.below.trans (HB4.out.mono HS.out.below.size)⟩
    clear HS HB4
    obtain ⟨p0,p1,p2,p3⟩:=HS4.out.box1.cell
    obtain ⟨q0,q1,q2,q3⟩:=HS4.out.box2.cell
    obtain ⟨x0,x1,x2,x3⟩:=HX.out.cell
    have n1':w.heap.size+1≠w.heap.size:=by omega
    have n2':g+1≠w.heap.size:=by omega
    have n3':g+1≠w.heap.size+1:=by omega
    go_region
    go_wp2
    go_roundg r.natAbs
    case measure=>have h1:=HD.out.size;have h2:=HK.out.2;omega
    case rel=>exact ⟨nb,ab,lb,cb,nr,ar,lr,cr,b,r,Lib.hid (by have h:=HS4.out.next HR4.out;exact ⟨h.box1.drew,h.box2.drew,h.box3.drew,h.r1.keep (Below.refl _ _).drew (Nat.le_refl _),h.r2.keep (Below.refl _ _).drew (Nat.le_refl _),h.below.drew⟩),Lib.hid ⟨trivial,rfl⟩,Lib.hid ⟨HL.out.2,HLR.out.2⟩,Lib.hid ⟨trivial,by rw [gcd_step HD.out];exact HGG.out.2⟩⟩
end Go.Proofs.YtkhdocdddicgpaaGreatDoor
