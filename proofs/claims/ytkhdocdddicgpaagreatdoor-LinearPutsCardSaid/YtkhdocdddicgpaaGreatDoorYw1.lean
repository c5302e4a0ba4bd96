/- Part 1: what the law's walk leans on. -/
import Derived.Test.YtkhdocdddicgpaaGreatDoorYt0
import Derived.Test.YtkhdocdddicgpaaGreatDoorYt1
import Derived.Test.YtkhdocdddicgpaaGreatDoorYt2
import Derived.Test.YtkhdocdddicgpaaGreatDoorYt3
import Derived.Test.YtkhdocdddicgpaaGreatDoorYt4
import Derived.Test.YtkhdocdddicgpaaGreatDoorYt5
import Derived.Test.YtkhdocdddicgpaaGreatDoorYt6
import Derived.Test.YtkhdocdddicgpaaGreatDoorYt7
import Derived.Test.YtkhdocdddicgpaaGreatDoorYt8
import Derived.Test.YtkhdocdddicgpaaGreatDoorYt9
import Derived.Test.YtkhdocdddicgpaaGreatDoorYt10
import Derived.Test.YtkhdocdddicgpaaGreatDoorYt11
import Derived.Test.YtkhdocdddicgpaaGreatDoorYt12
import Derived.Test.YtkhdocdddicgpaaGreatDoorYt13
import Derived.Test.YtkhdocdddicgpaaGreatDoorYt14
import Derived.Test.YtkhdocdddicgpaaGreatDoorYt15
import Derived.Test.YtkhdocdddicgpaaGreatDoorYt16
import Derived.Test.YtkhdocdddicgpaaGreatDoorYt17
import Derived.Test.YtkhdocdddicgpaaGreatDoorYt18
import Derived.Test.YtkhdocdddicgpaaGreatDoorYt19
import Derived.Test.YtkhdocdddicgpaaGreatDoorYt20
import Derived.Test.YtkhdocdddicgpaaGreatDoorYt21
import Derived.Test.YtkhdocdddicgpaaGreatDoorYt22
import Derived.Test.YtkhdocdddicgpaaGreatDoorYt23
import Derived.Test.YtkhdocdddicgpaaGreatDoorYt24
import Derived.Test.YtkhdocdddicgpaaGreatDoorYt25
import Derived.Test.YtkhdocdddicgpaaGreatDoorYt26
import Derived.Test.YtkhdocdddicgpaaGreatDoorYt27
import Derived.Test.YtkhdocdddicgpaaGreatDoorYt28
import Derived.Test.YtkhdocdddicgpaaGreatDoorYt29
import Derived.Test.YtkhdocdddicgpaaGreatDoorYt30
import Derived.Test.YtkhdocdddicgpaaGreatDoorYw0
set_option linter.unusedVariables false
set_option linter.unusedSimpArgs false
namespace Go.Proofs.YtkhdocdddicgpaaGreatDoor
open Go.RowKit Go.Maps _root_.Go.Proofs.YtkhdocdddicgpaaGreatDoor.Nm
theorem B4.same {W W':World} {g:Nat} {x y z u:Value} (h:B4 W g x y z u) (hk:W'.heap[g]?=W.heap[g]?):B4 W' g x y z u:=by
 obtain ⟨T,h⟩:=h
 exact ⟨T,hk.trans h⟩
set_option maxRecDepth 100000 in
set_option maxHeartbeats 6400000 in
theorem rfAdd_any (s1 s2:Value) (n1 n2:Bool) (a1 a2:Option Addr) (l1 c1 l2 c2:Nat) (m1 m2:Bool) (b1 b2:Option Addr) (j1 d1 j2 d2:Nat) (B1 B2 m n:Nat) (f g:Int→Rat) (cs1 cs2:List C4) (rc:Rat) (w:World) (h1:RowQ B1 w s1 (rowOf f m) cs1) (h2:RowQ B2 w s2 (rowOf g n) cs2)
 (hf0:∀ c,(m:Int)≤c→f c=0) (hg0:∀ c,(n:Int)≤c→g c=0) (htf:∀ c,RT 400 (f c)) (htg:∀ c,RT 400 (g c)) (hm:m≤2048) (hn:n≤2048)
 (hadd:∀ W,Below w.heap.size w W→Calls Tryz.prog 40 #[.agg #[.bool n1,.slice a1 l1 c1,.bool n2,.slice a2 l2 c2],.agg #[.bool m1,.slice b1 j1 d1,.bool m2,.slice b2 j2 d2]] W (RRPost rc W)) :
 Calls Tryz.prog 15 #[.agg #[s1,.bool n1,.slice a1 l1 c1,.bool n2,.slice a2 l2 c2],.agg #[s2,.bool m1,.slice b1 j1 d1,.bool m2,.slice b2 j2 d2]] w fun e w'=>(∃ v,e = .returned v∧FormQ w' w.heap.size v (rowOf (fun c=>f c+g c) (max m n)) rc)∧Below w.heap.size w w':=by
 obtain ⟨p1,cap1,hs1⟩:=h1.slice
 rw [rowOf_length] at hs1
 subst hs1
 obtain ⟨p2,cap2,hs2⟩:=h2.slice
 rw [rowOf_length] at hs2
 subst hs2
 obtain ⟨M,hM⟩:∃ M,max m n=M:=⟨_,rfl⟩
 have hmx:max (m:Int) (n:Int)=(M:Int):=by omega
 have hM2:M≤2048:=by omega
 rw [hM]
 have hA1:=(Below.refl w.heap.size w).alloc (Nat.le_refl _) (.cells #[.slice p1 m cap1,.bool n1,.slice a1 l1 c1,.bool n2,.slice a2 l2 c2] 35)
 have hA2:=hA1.alloc (by simp) (.cells #[.slice p2 n cap2,.bool m1,.slice b1 j1 d1,.bool m2,.slice b2 j2 d2] 35)
 have hA3:=hA2.alloc (by simp;omega) (.cells #[.slice none 0 0,.bool false,.slice none 0 0,.bool false,.slice none 0 0] 35)
 have hBA:=((B5.new w (.slice p1 m cap1) (.bool n1) (.slice a1 l1 c1) (.bool n2) (.slice a2 l2 c2) 35).keep ((Below.refl _ _).alloc (Nat.le_refl _) (.cells #[.slice p2 n cap2,.bool m1,.slice b1 j1 d1,.bool m2,.slice b2 j2 d2] 35))).keep ((Below.refl _ _).alloc (Nat.le_refl _) (.cells #[.slice none 0 0,.bool false,.slice none 0 0,.bool false,.slice none 0 0] 35))
 have hBB0:=B5.new (w.alloc (.cells #[.slice p1 m cap1,.bool n1,.slice a1 l1 c1,.bool n2,.slice a2 l2 c2] 35)) (.slice p2 n cap2) (.bool m1) (.slice b1 j1 d1) (.bool m2) (.slice b2 j2 d2) 35
 have hBB:=hBB0.keep ((Below.refl _ _).alloc (Nat.le_refl _) (.cells #[.slice none 0 0,.bool false,.slice none 0 0,.bool false,.slice none 0 0] 35))
 have hBZ:=B5.new ((w.alloc (.cells #[.slice p1 m cap1,.bool n1,.slice a1 l1 c1,.bool n2,.slice a2 l2 c2] 35)).alloc (.cells #[.slice p2 n cap2,.bool m1,.slice b1 j1 d1,.bool m2,.slice b2 j2 d2] 35)) (.slice none 0 0) (.bool false) (.slice none 0 0) (.bool false) (.slice none 0 0) 35
 simp only [World.size_alloc] at hBB hBZ
 have HBA:=Lib.hid hBA
 have HBB:=Lib.hid hBB
 have HBZ:=Lib.hid hBZ
 have HW0:=Lib.hid hA3
 have HQ1:=Lib.hid h1
 have HQ2:=Lib.hid h2
 have HM:=Lib.hid (And.intro hM (And.intro hf0 hg0))
 have HT:=Lib.hid (And.intro htf htg)
 have HADD:=Lib.hid hadd
 clear hA1 hA2 hA3 hBA hBB0 hBB hBZ h1 h2 hM hf0 hg0 htf htg hadd
 obtain ⟨x0,x1,x2,x3,x4⟩:=HBA.out.cell
 obtain ⟨y0,y1,y2,y3,y4⟩:=HBB.out.cell
 go_enter Tryz.func15,Tryz.ntmps15
 go_wp2_with fail
 refine (rZero_any M _ (by omega)).mono ?_
 rintro e w5 ⟨⟨v,rfl,sv,cs0,c4,rfl,hrow,hnum⟩,hb⟩
 obtain ⟨i1,q1,k1,r1,i2,q2,k2,r2,rfl⟩:=hnum.expl
 obtain ⟨asl,cas,hsv⟩:=hrow.slice
 rw [List.length_replicate] at hsv
 subst hsv
 have hC:Below w5.heap.size w5 (w5.alloc (.cells #[.slice asl M cas,.bool i1,.slice q1 k1 r1,.bool i2,.slice q2 k2 r2] 35)):=(Below.refl _ w5).alloc (Nat.le_refl _) _
 have hbC:=hb.trans (hC.mono hb.size)
 have HBA5:=Lib.hid (HBA.out.keep hbC)
 have HBB5:=Lib.hid (HBB.out.keep hbC)
 have HBZ5:=Lib.hid (HBZ.out.keep hbC)
 have HW5:=Lib.hid (HW0.out.trans (hbC.mono HW0.out.size))
 have hro:=(hrow.keep hC).base (B':=w.heap.size+3) (by simp)
 have HRO:=Lib.hid hro
 have HN5:=Lib.hid (B5.new w5 (.slice asl M cas) (.bool i1) (.slice q1 k1 r1) (.bool i2) (.slice q2 k2 r2) 35)
 have HLT:Hid (w.heap.size+3≤w5.heap.size):=Lib.hid (by have:=hb.size;simp at this;omega)
 have HNE:Hid (∀ b,(Value.slice asl M cas).ownBlock=some b→b≠w5.heap.size):=Lib.hid (fun b hb=>by have:=(hrow.own.lt b hb).2;omega)
 clear hrow hnum hb hC hbC hro x0 x1 x2 x3 x4
 clear y0 y1 y2 y3 y4
 go_wp2
 go_loopw [6] (fun i W=>∃ (k:Nat) (f':Int→Rat) (cs:List C4),k≤M∧i = .int .i64 k∧Hid (∀ c:Int,f' c=if 0≤c∧c<(k:Int) then f c+g c else 0)∧Hid (RowQ (w.heap.size+3) W (.slice asl M cas) (rowOf f' M) cs)∧Hid (B5 W w5.heap.size (.slice asl M cas) (.bool i1) (.slice q1 k1 r1) (.bool i2) (.slice q2 k2 r2))∧Hid (B5 W w.heap.size (.slice p1 m cap1) (.bool n1) (.slice a1 l1 c1) (.bool n2) (.slice a2 l2 c2))∧Hid (B5 W (w.heap.size+1) (.slice p2 n cap2) (.bool m1) (.slice b1 j1 d1) (.bool m2) (.slice b2 j2 d2))∧Hid (B5 W (w.heap.size+1+1) (.slice none 0 0) (.bool false) (.slice none 0 0) (.bool false) (.slice none 0 0))∧Hid (Below w.heap.size w W)) (fun i _=>M-(intOf i).toNat)
 case atStart=>exact ⟨0,fun _=>0,cs0,Nat.zero_le _,rfl,Lib.hid (fun c=>by rw [if_neg (by omega)]),Lib.hid (by rw [rowOf_zero];exact HRO.out),HN5,HBA5,HBB5,HBZ5,HW5⟩
 case round =>
  obtain ⟨k,f',cs,hk,rfl,HF,HROW,HN,HBX,HBY,HBZ6,HW⟩:=hrel
  obtain ⟨x0,x1,x2,x3,x4⟩:=HN.out.cell
  by_cases hlt:k<M
  · obtain ⟨gr,capr,cr,ev,-,-,-,-,-⟩:=HROW.out.at k (by rw [rowOf_length];exact hlt)
    rw [rowOf_length] at ev
    simp only [Value.slice.injEq,true_and] at ev
    obtain ⟨rfl,rfl⟩:=ev
    have hgne:gr≠w5.heap.size:=HNE.out gr rfl
    have hgB:=(HROW.out.own.lt gr rfl).1
    obtain ⟨ra,hra⟩:∃ r,(if 0≤(k:Int)∧(k:Int)<(m:Int) then f (k:Int) else 0)=r:=⟨_,rfl⟩
    obtain ⟨rb,hrb⟩:∃ r,(if 0≤(k:Int)∧(k:Int)<(n:Int) then g (k:Int) else 0)=r:=⟨_,rfl⟩
    have era:ra=f (k:Int):=by
     rw [← hra]
     by_cases h:(k:Int)<m
     · rw [if_pos ⟨by omega,h⟩]
     · rw [if_neg (fun x=>h x.2),HM.out.2.1 _ (by omega)]
    have erb:rb=g (k:Int):=by
     rw [← hrb]
     by_cases h:(k:Int)<n
     · rw [if_pos ⟨by omega,h⟩]
     · rw [if_neg (fun x=>h x.2),HM.out.2.2 _ (by omega)]
    obtain ⟨r,hr⟩:∃ r,ra+rb=r:=⟨_,rfl⟩
    have HRA:=Lib.hid hra
    have HRB:=Lib.hid hrb
    have HRS:=Lib.hid hr
    have HTA:Hid (RT 400 ra):=Lib.hid (by rw [era];exact HT.out.1 _)
    have HTB:Hid (RT 400 rb):=Lib.hid (by rw [erb];exact HT.out.2 _)
    have HRR:Hid (r=f (k:Int)+g (k:Int)):=Lib.hid (by rw [← hr,era,erb])
    clear era erb hra hrb hr
    have hSW:∀ W',Below wr.heap.size wr W'→W'.cell? ⟨w5.heap.size,0,none⟩=some (.slice (some ⟨gr,0,none⟩) M cas)∧W'.cell? ⟨w.heap.size,0,none⟩=some (.slice p1 m cap1)∧W'.cell? ⟨w.heap.size,1,none⟩=some (.bool n1)∧W'.cell? ⟨w.heap.size,2,none⟩=some (.slice a1 l1 c1)∧W'.cell? ⟨w.heap.size,3,none⟩=some (.bool n2)∧W'.cell? ⟨w.heap.size,4,none⟩=some (.slice a2 l2 c2)∧W'.cell? ⟨w.heap.size+1,0,none⟩=some (.slice p2 n cap2)∧W'.cell? ⟨w.heap.size+1,1,none⟩=some (.bool m1)∧W'.cell? ⟨w.heap.size+1,2,none⟩=some (.slice b1 j1 d1)∧W'.cell? ⟨w.heap.size+1,3,none⟩=some (.bool m2)∧W'.cell? ⟨w.heap.size+1,4,none⟩=some (.slice b2 j2 d2):=fun W' hb=>⟨(hb.cell HN.out.lt).trans HN.out.cell.1,(hb.cell HBX.out.lt).trans HBX.out.cell.1,(hb.cell HBX.out.lt).trans HBX.out.cell.2.1,(hb.cell HBX.out.lt).trans HBX.out.cell.2.2.1,(hb.cell HBX.out.lt).trans HBX.out.cell.2.2.2.1,(hb.cell HBX.out.lt).trans HBX.out.cell.2.2.2.2,(hb.cell HBY.out.lt).trans HBY.out.cell.1,(hb.cell HBY.out.lt).trans HBY.out.cell.2.1,(hb.cell HBY.out.lt).trans HBY.out.cell.2.2.1,(hb.cell HBY.out.lt).trans HBY.out.cell.2.2.2.1,(hb.cell HBY.out.lt).trans HBY.out.cell.2.2.2.2⟩
    have HSW:=Lib.hid hSW
    have h1:(0:Int)≤k:=by omega
    have h2:(k:Int)<M:=by omega
    have hkM:k*4+3<M*4:=by omega
    have hS0:=HSW.out wr.drew (Below.refl _ wr).drew
    clear hSW
    go_wp2_with fail
    refine region_plainX (S:=fun W'=>W'.cell? ⟨w5.heap.size,0,none⟩=some (.slice (some ⟨gr,0,none⟩) M cas)∧W'.cell? ⟨w.heap.size,0,none⟩=some (.slice p1 m cap1)∧W'.cell? ⟨w.heap.size,1,none⟩=some (.bool n1)∧W'.cell? ⟨w.heap.size,2,none⟩=some (.slice a1 l1 c1)∧W'.cell? ⟨w.heap.size,3,none⟩=some (.bool n2)∧W'.cell? ⟨w.heap.size,4,none⟩=some (.slice a2 l2 c2)∧W'.cell? ⟨w.heap.size+1,0,none⟩=some (.slice p2 n cap2)∧W'.cell? ⟨w.heap.size+1,1,none⟩=some (.bool m1)∧W'.cell? ⟨w.heap.size+1,2,none⟩=some (.slice b1 j1 d1)∧W'.cell? ⟨w.heap.size+1,3,none⟩=some (.bool m2)∧W'.cell? ⟨w.heap.size+1,4,none⟩=some (.slice b2 j2 d2)) (m:=11) (by kernel_rfl) ?_
    refine x_take (i:=0) (v := .pointer (some ⟨w5.heap.size,0,none⟩)) rfl rfl (by kernel_rfl) (by kernel_rfl) (by kernel_rfl) (by kernel_rfl) (fun _ _ _ h=>h) (.inl ⟨by rfl,?_⟩) hS0 ?_
    · intro w hSw;(try dsimp only at hSw);go_simp
    simp only [Act.put,List.setIfInBounds_toArray,List.set_cons_zero,List.set_cons_succ]
    refine x_take (i:=1) (v := .slice (some ⟨gr,0,none⟩) M cas) rfl rfl (by kernel_rfl) (by kernel_rfl) (by kernel_rfl) (by kernel_rfl) (fun _ _ _ h=>h) (.inl ⟨by rfl,?_⟩) hS0 ?_
    · intro w hSw;(try dsimp only at hSw);go_simp
    simp only [Act.put,List.setIfInBounds_toArray,List.set_cons_zero,List.set_cons_succ]
    refine x_take (i:=2) (v := .int .i64 k) rfl rfl (by kernel_rfl) (by kernel_rfl) (by kernel_rfl) (by kernel_rfl) (fun _ _ _ h=>h) (.inl ⟨by rfl,?_⟩) hS0 ?_
    · intro w hSw;(try dsimp only at hSw);go_simp
    simp only [Act.put,List.setIfInBounds_toArray,List.set_cons_zero,List.set_cons_succ]
    refine x_take (i:=3) (v := .agg #[.slice p1 m cap1,.bool n1,.slice a1 l1 c1,.bool n2,.slice a2 l2 c2]) rfl rfl (by kernel_rfl) (by kernel_rfl) (by kernel_rfl) (by kernel_rfl) (fun _ _ _ h=>h) (.inl ⟨by rfl,?_⟩) hS0 ?_
    · intro w hSw;(try dsimp only at hSw);go_simp
    simp only [Act.put,List.setIfInBounds_toArray,List.set_cons_zero,List.set_cons_succ]
    refine x_take (i:=4) (v := .int .i64 k) rfl rfl (by kernel_rfl) (by kernel_rfl) (by kernel_rfl) (by kernel_rfl) (fun _ _ _ h=>h) (.inl ⟨by rfl,?_⟩) hS0 ?_
    · intro w hSw;(try dsimp only at hSw);go_simp
    simp only [Act.put,List.setIfInBounds_toArray,List.set_cons_zero,List.set_cons_succ]
    refine x_take (i:=6) (v := .agg #[.slice p2 n cap2,.bool m1,.slice b1 j1 d1,.bool m2,.slice b2 j2 d2]) rfl rfl (by kernel_rfl) (by kernel_rfl) (by kernel_rfl) (by kernel_rfl) (fun _ _ _ h=>h) (.inl ⟨by rfl,?_⟩) hS0 ?_
    · intro w hSw;(try dsimp only at hSw);go_simp
    simp only [Act.put,List.setIfInBounds_toArray,List.set_cons_zero,List.set_cons_succ]
    refine x_take (i:=7) (v := .int .i64 k) rfl rfl (by kernel_rfl) (by kernel_rfl) (by kernel_rfl) (by kernel_rfl) (fun _ _ _ h=>h) (.inl ⟨by rfl,?_⟩) hS0 ?_
    · intro w hSw;(try dsimp only at hSw);go_simp
    simp only [Act.put,List.setIfInBounds_toArray,List.set_cons_zero,List.set_cons_succ]
    refine x_one (i:=5) (by kernel_rfl) rfl (fun K' hK' => ?_)
    go_simp
    refine (rCoef_any _ _ _ _ _ _ _ _ _ _ m f cs1 (k:Int) _ _ (HQ1.out.keep (HW.out.trans (((Below.refl wr.heap.size wr).drew).mono HW.out.size))) HRA).mono ?_
    rintro e w7 ⟨vw7,rfl,hrw7,hbw7⟩
    have hxw7:Below wr.heap.size wr w7:=((Below.refl wr.heap.size wr).drew).trans (hbw7.mono (((Below.refl wr.heap.size wr).drew)).size)
    obtain ⟨E1,E2,E3,E4,E5,E6,E7,E8,rfl,z1,z2⟩:=hrw7
    have hrw7:RRef w7 (.agg #[.bool E1,.slice E2 E3 E4,.bool E5,.slice E6 E7 E8]) ra:=⟨_,_,_,_,_,_,_,_,rfl,z1,z2⟩
    dsimp only
    refine hK'.out _ _ (fun _=>HSW.out _ hxw7) ?_
    clear hK' K' z1 z2
    refine x_one (i:=8) (by kernel_rfl) rfl (fun K' hK' => ?_)
    go_simp
    refine (rCoef_any _ _ _ _ _ _ _ _ _ _ n g cs2 (k:Int) _ _ (HQ2.out.keep (HW.out.trans (hxw7.mono HW.out.size))) HRB).mono ?_
    rintro e w8 ⟨vw8,rfl,hrw8,hbw8⟩
    have hxw8:Below wr.heap.size wr w8:=hxw7.trans (hbw8.mono (hxw7).size)
    obtain ⟨H1,H2,H3,H4,H5,H6,H7,H8,rfl,z1,z2⟩:=hrw8
    have hrw8:RRef w8 (.agg #[.bool H1,.slice H2 H3 H4,.bool H5,.slice H6 H7 H8]) rb:=⟨_,_,_,_,_,_,_,_,rfl,z1,z2⟩
    dsimp only
    refine hK'.out _ _ (fun _=>HSW.out _ hxw8) ?_
    clear hK' K' z1 z2
    refine x_one (i:=9) (by kernel_rfl) rfl (fun K' hK' => ?_)
    go_simp
    refine (rrAdd_any _ _ ra rb 400 r _ (hrw7.keep hbw8 (Nat.le_refl _)) hrw8 HTA.out HTB.out (Nat.le_refl _) HRS).mono ?_
    rintro e w9 ⟨v9,rfl,hr9,hb9⟩
    have hby:Below wr.heap.size wr w9:=hxw8.trans (hb9.mono hxw8.size)
    obtain ⟨D1,D2,D3,D4,D5,D6,D7,D8,rfl,z1,z2⟩:=hr9
    have hr9:RRef w9 (agg4 (.bool D1,.slice D2 D3 D4,.bool D5,.slice D6 D7 D8)) r:=⟨_,_,_,_,_,_,_,_,rfl,z1,z2⟩
    have hrow9:=HROW.out.keep hby
    obtain ⟨hrow10,hoff⟩:=hrow9.set k (by rw [rowOf_length];omega) hr9
    rw [rowOf_set] at hrow10
    dsimp only at hrow10 hoff
    have HROW10:=Lib.hid hrow10
    have HN10:=Lib.hid ((HN.out.keep hby).same (heap_set4 w9 gr (k*4) (k*4+1) (k*4+2) (k*4+3) (.bool D1) (.slice D2 D3 D4) (.bool D5) (.slice D6 D7 D8) w5.heap.size (fun e=>hgne e.symm)))
    have HBX10:=Lib.hid ((HBX.out.keep hby).same (heap_set4 w9 gr (k*4) (k*4+1) (k*4+2) (k*4+3) (.bool D1) (.slice D2 D3 D4) (.bool D5) (.slice D6 D7 D8) w.heap.size (by omega)))
    have HBY10:=Lib.hid ((HBY.out.keep hby).same (heap_set4 w9 gr (k*4) (k*4+1) (k*4+2) (k*4+3) (.bool D1) (.slice D2 D3 D4) (.bool D5) (.slice D6 D7 D8) (w.heap.size+1) (by omega)))
    have HBZ10:=Lib.hid ((HBZ6.out.keep hby).same (heap_set4 w9 gr (k*4) (k*4+1) (k*4+2) (k*4+3) (.bool D1) (.slice D2 D3 D4) (.bool D5) (.slice D6 D7 D8) (w.heap.size+1+1) (by omega)))
    have HW10:=Lib.hid (below_set4 (HW.out.trans (hby.mono HW.out.size)) gr (k*4) (k*4+1) (k*4+2) (k*4+3) (.bool D1) (.slice D2 D3 D4) (.bool D5) (.slice D6 D7 D8) (by omega))
    have HF10:Hid (∀ c:Int,upd f' (k:Int) r c=if 0≤c∧c<((k+1:Nat):Int) then f c+g c else 0):=Lib.hid (fun c=>by
     by_cases e:c=(k:Int)
     · subst e;rw [upd_same,if_pos ⟨by omega,by omega⟩];exact HRR.out
     · rw [upd_other _ _ e,HF.out c]
       by_cases h:0≤c∧c<(k:Int)
       · rw [if_pos h,if_pos ⟨h.1,by omega⟩]
       · rw [if_neg h,if_neg (fun x=>h ⟨x.1,by omega⟩)])
    have hS9:=HSW.out _ hby
    have F0:=hrow9.froz (k*4)
    have F1:=hrow9.froz (k*4+1)
    have F2:=hrow9.froz (k*4+2)
    have F3:=hrow9.froz (k*4+3)
    obtain ⟨gr',capr',cr',ev',u0,u1,u2,u3,_⟩:=hrow9.at k (by rw [rowOf_length];omega)
    simp only [Value.slice.injEq,Option.some.injEq,Addr.mk.injEq,and_true] at ev'
    obtain ⟨rfl,hcapr⟩:=ev'
    clear hcapr
    dsimp only
    refine hK'.out _ _ (fun _=>hS9) ?_
    clear hK' K' z1 z2 hrow10 hoff hrow9 hr9
    refine x_one (i:=10) (by kernel_rfl) rfl (fun K' hK' => ?_)
    go_simp
    refine hK'.out _ _ (fun _=>hS9) ?_
    clear hK' K'
    refine x_one (i:=11) (by kernel_rfl) rfl (fun K' hK' => ?_)
    go_simp
    refine hK'.out _ _ (fun h=>absurd rfl h) ?_
    clear hK' K' hS9 F0 F1 F2 F3 hS0 u0 u1 u2 u3
    refine x_done (by kernel_rfl) ?_ _
    go_wp2
    go_roundw
    case rel=>exact ⟨k+1,upd f' (k:Int) r,_,by omega,by go_num,HF10,HROW10,HN10,HBX10,HBY10,HBZ10,HW10⟩
    case measure=>simp [intOf];omega
  · obtain rfl:M=k:=by omega
    have hnn:¬ (M:Int)<M:=by omega
    have hrow:rowOf f' M=rowOf (fun c=>f c+g c) M:=by
     unfold rowOf
     refine List.map_congr_left fun i hi => ?_
     rw [List.mem_range] at hi
     rw [HF.out,if_pos ⟨by omega,by omega⟩]
    have HROW2:Hid (RowQ (w.heap.size+3) wr (.slice asl M cas) (rowOf (fun c=>f c+g c) M) cs):=Lib.hid (by rw [← hrow];exact HROW.out)
    clear hrow
    obtain ⟨y0,y1,y2,y3,y4⟩:=HBX.out.cell
    obtain ⟨z0,z1,z2,z3,z4⟩:=HBY.out.cell
    go_wp2_with fail
    refine (HADD.out _ HW.out).mono ?_
    rintro e w7 ⟨v7,rfl,hr7,hb7⟩
    obtain ⟨E1,E2,E3,E4,E5,E6,E7,E8,rfl,u1,u2⟩:=hr7
    have hnum:RRef w7 (agg4 (.bool E1,.slice E2 E3 E4,.bool E5,.slice E6 E7 E8)) rc:=⟨_,_,_,_,_,_,_,_,rfl,u1,u2⟩
    have hn7:=HN.out.keep hb7
    have hz7:=HBZ6.out.keep hb7
    have hw7:=HW.out.trans (hb7.mono HW.out.size)
    have hka:Ka (w.heap.size+3) w7 w5.heap.size (.slice asl M cas) (rowOf (fun c=>f c+g c) M) cs (.bool E1,.slice E2 E3 E4,.bool E5,.slice E6 E7 E8) rc:=⟨HROW2.out.keep hb7,hnum,hn7.bn (ni5 (ni_slice _ _ _) _ _ _ _ _ _ _ _),HNE.out⟩
    have hka2:=(((hka.set 1 (ni_bool E1)).set 2 (ni_slice E2 E3 E4)).set 3 (ni_bool E5)).set 4 (ni_slice E6 E7 E8)
    have HKA:=Lib.hid hka2
    have HN7:=Lib.hid (hn7.put4 (.bool E1) (.slice E2 E3 E4) (.bool E5) (.slice E6 E7 E8))
    have HZ7:=Lib.hid (hz7.same (heap_set4 w7 w5.heap.size 1 2 3 4 (.bool E1) (.slice E2 E3 E4) (.bool E5) (.slice E6 E7 E8) (w.heap.size+1+1) (by have:=HLT.out;omega)))
    have HW7:=Lib.hid (below_set4 hw7 w5.heap.size 1 2 3 4 (.bool E1) (.slice E2 E3 E4) (.bool E5) (.slice E6 E7 E8) (by have:=HLT.out;omega))
    obtain ⟨e0,e1,e2,e3,e4⟩:=hn7.cell
    obtain ⟨f0,f1,f2,f3,f4⟩:=hn7.froz
    have hlt5:=HLT.out
    obtain ⟨g0,g1,g2,g3,g4⟩:=hz7.cell
    obtain ⟨h0,h1,h2,h3,h4⟩:=hz7.froz
    have hne5:w5.heap.size≠w.heap.size+1+1:=by omega
    have hne6:w.heap.size+1+1≠w5.heap.size:=by omega
    clear u1 u2 hnum hka hka2 hn7 hz7 hw7 hb7 x0 x1 x2 x3 x4 y0 y1 y2 y3 y4 z0 z1 z2 z3 z4
    go_wp2
    obtain ⟨l0,l1',l2',l3',l4'⟩:=(HZ7.out.store (.slice asl M cas) (.bool E1) (.slice E2 E3 E4) (.bool E5) (.slice E6 E7 E8)).cell
    refine bodyPost_ret (v := .agg #[.slice asl M cas,.bool E1,.slice E2 E3 E4,.bool E5,.slice E6 E7 E8]) (by simp only [results,Tryz.results15];simp [go_sem,l0,l1',l2',l3',l4']) rfl ?_
    have hka3:Ka (w.heap.size+3) _ (w.heap.size+1+1) (.slice asl M cas) (rowOf (fun c=>f c+g c) M) cs (.bool E1,.slice E2 E3 E4,.bool E5,.slice E6 E7 E8) rc:=⟨HKA.out.row,HKA.out.num,HZ7.out.bn (ni5 (ni_slice _ _ _) _ _ _ _ _ _ _ _),fun b hb=>by have:=(HKA.out.row.own.lt b hb).1;omega⟩
    have hk5:=((((hka3.set 0 (ni_slice asl M cas)).set 1 (ni_bool E1)).set 2 (ni_slice E2 E3 E4)).set 3 (ni_bool E5)).set 4 (ni_slice E6 E7 E8)
    exact ⟨⟨_,rfl,_,cs,(.bool E1,.slice E2 E3 E4,.bool E5,.slice E6 E7 E8),rfl,hk5.row.base (by omega),hk5.num⟩,((((HW7.out.setCell (by dsimp only;omega) _).setCell (by dsimp only;omega) _).setCell (by dsimp only;omega) _).setCell (by dsimp only;omega) _).setCell (by dsimp only;omega) _⟩
end Go.Proofs.YtkhdocdddicgpaaGreatDoor
set_option linter.unusedVariables false
set_option linter.unusedSimpArgs false
namespace Go.Proofs.YtkhdocdddicgpaaGreatDoor
open Go.RowKit Go.Maps _root_.Go.Proofs.YtkhdocdddicgpaaGreatDoor.Nm
set_option maxRecDepth 100000 in
set_option maxHeartbeats 6400000 in
theorem rfScale_any (s1:Value) (n1 n2:Bool) (a1 a2:Option Addr) (l1 c1 l2 c2:Nat) (m1 m2:Bool) (b1 b2:Option Addr) (j1 d1 j2 d2:Nat) (B1 M:Nat) (f:Int→Rat) (cs1:List C4) (y rc:Rat) (w:World) (h1:RowQ B1 w s1 (rowOf f M) cs1)
 (hby:RRef w (.agg #[.bool m1,.slice b1 j1 d1,.bool m2,.slice b2 j2 d2]) y) (htf:∀ c,RT 400 (f c)) (hty:RT 400 y) (hM2:M≤2048)
 (hadd:∀ W,Below w.heap.size w W→Calls Tryz.prog 47 #[.agg #[.bool n1,.slice a1 l1 c1,.bool n2,.slice a2 l2 c2],.agg #[.bool m1,.slice b1 j1 d1,.bool m2,.slice b2 j2 d2]] W (RRPost rc W)) :
 Calls Tryz.prog 18 #[.agg #[s1,.bool n1,.slice a1 l1 c1,.bool n2,.slice a2 l2 c2],.agg #[.bool m1,.slice b1 j1 d1,.bool m2,.slice b2 j2 d2]] w fun e w'=>(∃ v,e = .returned v∧FormQ w' w.heap.size v (rowOf (fun c=>f c*y) M) rc)∧Below w.heap.size w w':=by
 obtain ⟨p1,cap1,hs1⟩:=h1.slice
 rw [rowOf_length] at hs1
 subst hs1
 have hA1:=(Below.refl w.heap.size w).alloc (Nat.le_refl _) (.cells #[.slice p1 M cap1,.bool n1,.slice a1 l1 c1,.bool n2,.slice a2 l2 c2] 35)
 have hA2:=hA1.alloc (by simp) (.cells #[.bool m1,.slice b1 j1 d1,.bool m2,.slice b2 j2 d2] 33)
 have hA3:=hA2.alloc (by simp;omega) (.cells #[.slice none 0 0,.bool false,.slice none 0 0,.bool false,.slice none 0 0] 35)
 have hBA:=((B5.new w (.slice p1 M cap1) (.bool n1) (.slice a1 l1 c1) (.bool n2) (.slice a2 l2 c2) 35).keep ((Below.refl _ _).alloc (Nat.le_refl _) (.cells #[.bool m1,.slice b1 j1 d1,.bool m2,.slice b2 j2 d2] 33))).keep ((Below.refl _ _).alloc (Nat.le_refl _) (.cells #[.slice none 0 0,.bool false,.slice none 0 0,.bool false,.slice none 0 0] 35))
 have hBB0:=B4.new (w.alloc (.cells #[.slice p1 M cap1,.bool n1,.slice a1 l1 c1,.bool n2,.slice a2 l2 c2] 35)) (.bool m1) (.slice b1 j1 d1) (.bool m2) (.slice b2 j2 d2) 33
 have hBB:=hBB0.below ((Below.refl _ _).alloc (Nat.le_refl _) (.cells #[.slice none 0 0,.bool false,.slice none 0 0,.bool false,.slice none 0 0] 35)) hBB0.lt
 have hBZ:=B5.new ((w.alloc (.cells #[.slice p1 M cap1,.bool n1,.slice a1 l1 c1,.bool n2,.slice a2 l2 c2] 35)).alloc (.cells #[.bool m1,.slice b1 j1 d1,.bool m2,.slice b2 j2 d2] 33)) (.slice none 0 0) (.bool false) (.slice none 0 0) (.bool false) (.slice none 0 0) 35
 simp only [World.size_alloc] at hBB hBZ
 have HBA:=Lib.hid hBA
 have HBB:=Lib.hid hBB
 have HBZ:=Lib.hid hBZ
 have HW0:=Lib.hid hA3
 have HQ1:=Lib.hid h1
 have HBY0:=Lib.hid hby
 have HT:=Lib.hid (And.intro htf hty)
 have HADD:=Lib.hid hadd
 clear hA1 hA2 hA3 hBA hBB0 hBB hBZ h1 hby htf hty hadd
 obtain ⟨x0,x1,x2,x3,x4⟩:=HBA.out.cell
 go_enter Tryz.func18,Tryz.ntmps18
 go_wp2_with fail
 refine (rZero_any M _ (by omega)).mono ?_
 rintro e w5 ⟨⟨v,rfl,sv,cs0,c4,rfl,hrow,hnum⟩,hb⟩
 obtain ⟨i1,q1,k1,r1,i2,q2,k2,r2,rfl⟩:=hnum.expl
 obtain ⟨asl,cas,hsv⟩:=hrow.slice
 rw [List.length_replicate] at hsv
 subst hsv
 have hC:Below w5.heap.size w5 (w5.alloc (.cells #[.slice asl M cas,.bool i1,.slice q1 k1 r1,.bool i2,.slice q2 k2 r2] 35)):=(Below.refl _ w5).alloc (Nat.le_refl _) _
 have hbC:=hb.trans (hC.mono hb.size)
 have HBA5:=Lib.hid (HBA.out.keep hbC)
 have HBB5:=Lib.hid (HBB.out.below hbC HBB.out.lt)
 have HBZ5:=Lib.hid (HBZ.out.keep hbC)
 have HW5:=Lib.hid (HW0.out.trans (hbC.mono HW0.out.size))
 have hro:=(hrow.keep hC).base (B':=w.heap.size+3) (by simp)
 have HRO:=Lib.hid hro
 have HN5:=Lib.hid (B5.new w5 (.slice asl M cas) (.bool i1) (.slice q1 k1 r1) (.bool i2) (.slice q2 k2 r2) 35)
 have HLT:Hid (w.heap.size+3≤w5.heap.size):=Lib.hid (by have:=hb.size;simp at this;omega)
 have HNE:Hid (∀ b,(Value.slice asl M cas).ownBlock=some b→b≠w5.heap.size):=Lib.hid (fun b hb=>by have:=(hrow.own.lt b hb).2;omega)
 clear hrow hnum hb hC hbC hro x0 x1 x2 x3 x4
 go_wp2
 go_loopw [6] (fun i W=>∃ (k:Nat) (f':Int→Rat) (cs:List C4),k≤M∧i = .int .i64 k∧Hid (∀ c:Int,f' c=if 0≤c∧c<(k:Int) then f c*y else 0)∧Hid (RowQ (w.heap.size+3) W (.slice asl M cas) (rowOf f' M) cs)∧Hid (B5 W w5.heap.size (.slice asl M cas) (.bool i1) (.slice q1 k1 r1) (.bool i2) (.slice q2 k2 r2))∧Hid (B5 W w.heap.size (.slice p1 M cap1) (.bool n1) (.slice a1 l1 c1) (.bool n2) (.slice a2 l2 c2))∧Hid (B4 W (w.heap.size+1) (.bool m1) (.slice b1 j1 d1) (.bool m2) (.slice b2 j2 d2))∧Hid (B5 W (w.heap.size+1+1) (.slice none 0 0) (.bool false) (.slice none 0 0) (.bool false) (.slice none 0 0))∧Hid (Below w.heap.size w W)) (fun i _=>M-(intOf i).toNat)
 case atStart=>exact ⟨0,fun _=>0,cs0,Nat.zero_le _,rfl,Lib.hid (fun c=>by rw [if_neg (by omega)]),Lib.hid (by rw [rowOf_zero];exact HRO.out),HN5,HBA5,HBB5,HBZ5,HW5⟩
 case round =>
  obtain ⟨k,f',cs,hk,rfl,HF,HROW,HN,HBX,HBY,HBZ6,HW⟩:=hrel
  obtain ⟨x0,x1,x2,x3,x4⟩:=HN.out.cell
  by_cases hlt:k<M
  · obtain ⟨gr,capr,cr,ev,-,-,-,-,-⟩:=HROW.out.at k (by rw [rowOf_length];exact hlt)
    rw [rowOf_length] at ev
    simp only [Value.slice.injEq,true_and] at ev
    obtain ⟨rfl,rfl⟩:=ev
    have hgne:gr≠w5.heap.size:=HNE.out gr rfl
    have hgB:=(HROW.out.own.lt gr rfl).1
    obtain ⟨ga,capa,ca,ev,t0,t1,t2,t3,hra⟩:=(HQ1.out.keep HW.out).at k (by rw [rowOf_length];exact hlt)
    rw [rowOf_get] at hra
    rw [rowOf_length] at ev
    simp only [Value.slice.injEq,true_and] at ev
    obtain ⟨rfl,rfl⟩:=ev
    obtain ⟨g1,g2,g3,g4,g5,g6,g7,g8,rfl⟩:=hra.expl
    dsimp only at t0 t1 t2 t3
    have hgl:ga<wr.heap.size:=World.block_lt_of_cell? _ _ t0
    have hgn:ga≠gr:=fun e=>by
     have:=(HQ1.out.own.lt ga rfl).2
     omega
    obtain ⟨r,hr⟩:∃ r,f (k:Int)*y=r:=⟨_,rfl⟩
    have HRS:=Lib.hid hr
    have HRA:=Lib.hid hra
    have HRY:=Lib.hid (HBY0.out.keep HW.out (Nat.le_refl _))
    have HRR:Hid (r=f (k:Int)*y):=Lib.hid hr.symm
    clear hra hr
    have hSW:∀ W',Below wr.heap.size wr W'→W'.cell? ⟨w5.heap.size,0,none⟩=some (.slice (some ⟨gr,0,none⟩) M cas)∧W'.cell? ⟨w.heap.size,0,none⟩=some (.slice (some ⟨ga,0,none⟩) M cap1)∧W'.cell? ⟨w.heap.size,1,none⟩=some (.bool n1)∧W'.cell? ⟨w.heap.size,2,none⟩=some (.slice a1 l1 c1)∧W'.cell? ⟨w.heap.size,3,none⟩=some (.bool n2)∧W'.cell? ⟨w.heap.size,4,none⟩=some (.slice a2 l2 c2)∧W'.cell? ⟨w.heap.size+1,0,none⟩=some (.bool m1)∧W'.cell? ⟨w.heap.size+1,1,none⟩=some (.slice b1 j1 d1)∧W'.cell? ⟨w.heap.size+1,2,none⟩=some (.bool m2)∧W'.cell? ⟨w.heap.size+1,3,none⟩=some (.slice b2 j2 d2)∧W'.cell? ⟨ga,k*4,none⟩=some (.bool g1)∧W'.cell? ⟨ga,k*4+1,none⟩=some (.slice g2 g3 g4)∧W'.cell? ⟨ga,k*4+2,none⟩=some (.bool g5)∧W'.cell? ⟨ga,k*4+3,none⟩=some (.slice g6 g7 g8):=fun W' hb=>⟨(hb.cell HN.out.lt).trans HN.out.cell.1,(hb.cell HBX.out.lt).trans HBX.out.cell.1,(hb.cell HBX.out.lt).trans HBX.out.cell.2.1,(hb.cell HBX.out.lt).trans HBX.out.cell.2.2.1,(hb.cell HBX.out.lt).trans HBX.out.cell.2.2.2.1,(hb.cell HBX.out.lt).trans HBX.out.cell.2.2.2.2,(hb.cell HBY.out.lt).trans HBY.out.cell.1,(hb.cell HBY.out.lt).trans HBY.out.cell.2.1,(hb.cell HBY.out.lt).trans HBY.out.cell.2.2.1,(hb.cell HBY.out.lt).trans HBY.out.cell.2.2.2,(hb.cell (p:=⟨ga,k*4,none⟩) hgl).trans t0,(hb.cell (p:=⟨ga,k*4+1,none⟩) hgl).trans t1,(hb.cell (p:=⟨ga,k*4+2,none⟩) hgl).trans t2,(hb.cell (p:=⟨ga,k*4+3,none⟩) hgl).trans t3⟩
    have HSW:=Lib.hid hSW
    have h1:(0:Int)≤k:=by omega
    have h2:(k:Int)<M:=by omega
    have hkM:k*4+3<M*4:=by omega
    have hS0:=HSW.out wr.drew (Below.refl _ wr).drew
    clear hSW
    go_wp2_with fail
    refine region_plainX (S:=fun W'=>W'.cell? ⟨w5.heap.size,0,none⟩=some (.slice (some ⟨gr,0,none⟩) M cas)∧W'.cell? ⟨w.heap.size,0,none⟩=some (.slice (some ⟨ga,0,none⟩) M cap1)∧W'.cell? ⟨w.heap.size,1,none⟩=some (.bool n1)∧W'.cell? ⟨w.heap.size,2,none⟩=some (.slice a1 l1 c1)∧W'.cell? ⟨w.heap.size,3,none⟩=some (.bool n2)∧W'.cell? ⟨w.heap.size,4,none⟩=some (.slice a2 l2 c2)∧W'.cell? ⟨w.heap.size+1,0,none⟩=some (.bool m1)∧W'.cell? ⟨w.heap.size+1,1,none⟩=some (.slice b1 j1 d1)∧W'.cell? ⟨w.heap.size+1,2,none⟩=some (.bool m2)∧W'.cell? ⟨w.heap.size+1,3,none⟩=some (.slice b2 j2 d2)∧W'.cell? ⟨ga,k*4,none⟩=some (.bool g1)∧W'.cell? ⟨ga,k*4+1,none⟩=some (.slice g2 g3 g4)∧W'.cell? ⟨ga,k*4+2,none⟩=some (.bool g5)∧W'.cell? ⟨ga,k*4+3,none⟩=some (.slice g6 g7 g8)) (m:=11) (by kernel_rfl) ?_
    refine x_take (i:=0) (v := .pointer (some ⟨w5.heap.size,0,none⟩)) rfl rfl (by kernel_rfl) (by kernel_rfl) (by kernel_rfl) (by kernel_rfl) (fun _ _ _ h=>h) (.inl ⟨by rfl,?_⟩) hS0 ?_
    · intro w hSw;(try dsimp only at hSw);go_simp
    simp only [Act.put,List.setIfInBounds_toArray,List.set_cons_zero,List.set_cons_succ]
    refine x_take (i:=1) (v := .slice (some ⟨gr,0,none⟩) M cas) rfl rfl (by kernel_rfl) (by kernel_rfl) (by kernel_rfl) (by kernel_rfl) (fun _ _ _ h=>h) (.inl ⟨by rfl,?_⟩) hS0 ?_
    · intro w hSw;(try dsimp only at hSw);go_simp
    simp only [Act.put,List.setIfInBounds_toArray,List.set_cons_zero,List.set_cons_succ]
    refine x_take (i:=2) (v := .int .i64 k) rfl rfl (by kernel_rfl) (by kernel_rfl) (by kernel_rfl) (by kernel_rfl) (fun _ _ _ h=>h) (.inl ⟨by rfl,?_⟩) hS0 ?_
    · intro w hSw;(try dsimp only at hSw);go_simp
    simp only [Act.put,List.setIfInBounds_toArray,List.set_cons_zero,List.set_cons_succ]
    refine x_take (i:=3) (v := .pointer (some ⟨w.heap.size,0,none⟩)) rfl rfl (by kernel_rfl) (by kernel_rfl) (by kernel_rfl) (by kernel_rfl) (fun _ _ _ h=>h) (.inl ⟨by rfl,?_⟩) hS0 ?_
    · intro w hSw;(try dsimp only at hSw);go_simp
    simp only [Act.put,List.setIfInBounds_toArray,List.set_cons_zero,List.set_cons_succ]
    refine x_take (i:=4) (v := .slice (some ⟨ga,0,none⟩) M cap1) rfl rfl (by kernel_rfl) (by kernel_rfl) (by kernel_rfl) (by kernel_rfl) (fun _ _ _ h=>h) (.inl ⟨by rfl,?_⟩) hS0 ?_
    · intro w hSw;(try dsimp only at hSw);go_simp
    simp only [Act.put,List.setIfInBounds_toArray,List.set_cons_zero,List.set_cons_succ]
    refine x_take (i:=5) (v := .int .i64 k) rfl rfl (by kernel_rfl) (by kernel_rfl) (by kernel_rfl) (by kernel_rfl) (fun _ _ _ h=>h) (.inl ⟨by rfl,?_⟩) hS0 ?_
    · intro w hSw;(try dsimp only at hSw);go_simp
    simp only [Act.put,List.setIfInBounds_toArray,List.set_cons_zero,List.set_cons_succ]
    refine x_take (i:=6) (v := .pointer (some ⟨ga,k*4,none⟩)) rfl rfl (by kernel_rfl) (by kernel_rfl) (by kernel_rfl) (by kernel_rfl) (fun _ _ _ h=>h) (.inl ⟨by rfl,?_⟩) hS0 ?_
    · intro w hSw;(try dsimp only at hSw);go_simp
    simp only [Act.put,List.setIfInBounds_toArray,List.set_cons_zero,List.set_cons_succ]
    refine x_take (i:=7) (v := .agg #[.bool g1,.slice g2 g3 g4,.bool g5,.slice g6 g7 g8]) rfl rfl (by kernel_rfl) (by kernel_rfl) (by kernel_rfl) (by kernel_rfl) (fun _ _ _ h=>h) (.inl ⟨by rfl,?_⟩) hS0 ?_
    · intro w hSw;(try dsimp only at hSw);go_simp
    simp only [Act.put,List.setIfInBounds_toArray,List.set_cons_zero,List.set_cons_succ]
    refine x_take (i:=8) (v := .agg #[.bool m1,.slice b1 j1 d1,.bool m2,.slice b2 j2 d2]) rfl rfl (by kernel_rfl) (by kernel_rfl) (by kernel_rfl) (by kernel_rfl) (fun _ _ _ h=>h) (.inl ⟨by rfl,?_⟩) hS0 ?_
    · intro w hSw;(try dsimp only at hSw);go_simp
    simp only [Act.put,List.setIfInBounds_toArray,List.set_cons_zero,List.set_cons_succ]
    refine x_one (i:=9) (by kernel_rfl) rfl (fun K' hK' => ?_)
    go_simp
    refine (rrMul_any _ _ (f (k:Int)) y 400 r _ (HRA.out.keep (Below.refl _ wr).drew (Nat.le_refl _)) (HRY.out.keep (Below.refl _ wr).drew (Nat.le_refl _)) (HT.out.1 _) HT.out.2 (Nat.le_refl _) HRS).mono ?_
    rintro e w9 ⟨v9,rfl,hr9,hb9⟩
    have hby:Below wr.heap.size wr w9:=(Below.refl wr.heap.size wr).drew.trans (hb9.mono (Below.refl wr.heap.size wr).drew.size)
    obtain ⟨D1,D2,D3,D4,D5,D6,D7,D8,rfl,z1,z2⟩:=hr9
    have hr9:RRef w9 (agg4 (.bool D1,.slice D2 D3 D4,.bool D5,.slice D6 D7 D8)) r:=⟨_,_,_,_,_,_,_,_,rfl,z1,z2⟩
    have hrow9:=HROW.out.keep hby
    obtain ⟨hrow10,hoff⟩:=hrow9.set k (by rw [rowOf_length];omega) hr9
    rw [rowOf_set] at hrow10
    dsimp only at hrow10 hoff
    have HROW10:=Lib.hid hrow10
    have HN10:=Lib.hid ((HN.out.keep hby).same (heap_set4 w9 gr (k*4) (k*4+1) (k*4+2) (k*4+3) (.bool D1) (.slice D2 D3 D4) (.bool D5) (.slice D6 D7 D8) w5.heap.size (fun e=>hgne e.symm)))
    have HBX10:=Lib.hid ((HBX.out.keep hby).same (heap_set4 w9 gr (k*4) (k*4+1) (k*4+2) (k*4+3) (.bool D1) (.slice D2 D3 D4) (.bool D5) (.slice D6 D7 D8) w.heap.size (by omega)))
    have HBY10:=Lib.hid (B4.same (HBY.out.below hby HBY.out.lt) (heap_set4 w9 gr (k*4) (k*4+1) (k*4+2) (k*4+3) (.bool D1) (.slice D2 D3 D4) (.bool D5) (.slice D6 D7 D8) (w.heap.size+1) (by omega)))
    have HBZ10:=Lib.hid ((HBZ6.out.keep hby).same (heap_set4 w9 gr (k*4) (k*4+1) (k*4+2) (k*4+3) (.bool D1) (.slice D2 D3 D4) (.bool D5) (.slice D6 D7 D8) (w.heap.size+1+1) (by omega)))
    have HW10:=Lib.hid (below_set4 (HW.out.trans (hby.mono HW.out.size)) gr (k*4) (k*4+1) (k*4+2) (k*4+3) (.bool D1) (.slice D2 D3 D4) (.bool D5) (.slice D6 D7 D8) (by omega))
    have HF10:Hid (∀ c:Int,upd f' (k:Int) r c=if 0≤c∧c<((k+1:Nat):Int) then f c*y else 0):=Lib.hid (fun c=>by
     by_cases e:c=(k:Int)
     · subst e;rw [upd_same,if_pos ⟨by omega,by omega⟩];exact HRR.out
     · rw [upd_other _ _ e,HF.out c]
       by_cases h:0≤c∧c<(k:Int)
       · rw [if_pos h,if_pos ⟨h.1,by omega⟩]
       · rw [if_neg h,if_neg (fun x=>h ⟨x.1,by omega⟩)])
    have hS9:=HSW.out _ hby
    have F0:=hrow9.froz (k*4)
    have F1:=hrow9.froz (k*4+1)
    have F2:=hrow9.froz (k*4+2)
    have F3:=hrow9.froz (k*4+3)
    obtain ⟨gr',capr',cr',ev',u0,u1,u2,u3,_⟩:=hrow9.at k (by rw [rowOf_length];omega)
    simp only [Value.slice.injEq,Option.some.injEq,Addr.mk.injEq,and_true] at ev'
    obtain ⟨rfl,hcapr⟩:=ev'
    clear hcapr
    dsimp only
    refine hK'.out _ _ (fun _=>hS9) ?_
    clear hK' K' z1 z2 hrow10 hoff hrow9 hr9
    refine x_one (i:=10) (by kernel_rfl) rfl (fun K' hK' => ?_)
    go_simp
    refine hK'.out _ _ (fun _=>hS9) ?_
    clear hK' K'
    refine x_one (i:=11) (by kernel_rfl) rfl (fun K' hK' => ?_)
    go_simp
    refine hK'.out _ _ (fun h=>absurd rfl h) ?_
    clear hK' K' hS9 F0 F1 F2 F3 hS0 u0 u1 u2 u3
    refine x_done (by kernel_rfl) ?_ _
    go_wp2
    go_roundw
    case rel=>exact ⟨k+1,upd f' (k:Int) r,_,by omega,by go_num,HF10,HROW10,HN10,HBX10,HBY10,HBZ10,HW10⟩
    case measure=>simp [intOf];omega
  · obtain rfl:M=k:=by omega
    have hnn:¬ (M:Int)<M:=by omega
    have hrow:rowOf f' M=rowOf (fun c=>f c*y) M:=by
     unfold rowOf
     refine List.map_congr_left fun i hi => ?_
     rw [List.mem_range] at hi
     rw [HF.out,if_pos ⟨by omega,by omega⟩]
    have HROW2:Hid (RowQ (w.heap.size+3) wr (.slice asl M cas) (rowOf (fun c=>f c*y) M) cs):=Lib.hid (by rw [← hrow];exact HROW.out)
    clear hrow
    obtain ⟨y0,y1,y2,y3,y4⟩:=HBX.out.cell
    obtain ⟨z0,z1,z2,z3⟩:=HBY.out.cell
    go_wp2_with fail
    refine (HADD.out _ HW.out).mono ?_
    rintro e w7 ⟨v7,rfl,hr7,hb7⟩
    obtain ⟨E1,E2,E3,E4,E5,E6,E7,E8,rfl,u1,u2⟩:=hr7
    have hnum:RRef w7 (agg4 (.bool E1,.slice E2 E3 E4,.bool E5,.slice E6 E7 E8)) rc:=⟨_,_,_,_,_,_,_,_,rfl,u1,u2⟩
    have hn7:=HN.out.keep hb7
    have hz7:=HBZ6.out.keep hb7
    have hw7:=HW.out.trans (hb7.mono HW.out.size)
    have hka:Ka (w.heap.size+3) w7 w5.heap.size (.slice asl M cas) (rowOf (fun c=>f c*y) M) cs (.bool E1,.slice E2 E3 E4,.bool E5,.slice E6 E7 E8) rc:=⟨HROW2.out.keep hb7,hnum,hn7.bn (ni5 (ni_slice _ _ _) _ _ _ _ _ _ _ _),HNE.out⟩
    have hka2:=(((hka.set 1 (ni_bool E1)).set 2 (ni_slice E2 E3 E4)).set 3 (ni_bool E5)).set 4 (ni_slice E6 E7 E8)
    have HKA:=Lib.hid hka2
    have HN7:=Lib.hid (hn7.put4 (.bool E1) (.slice E2 E3 E4) (.bool E5) (.slice E6 E7 E8))
    have HZ7:=Lib.hid (hz7.same (heap_set4 w7 w5.heap.size 1 2 3 4 (.bool E1) (.slice E2 E3 E4) (.bool E5) (.slice E6 E7 E8) (w.heap.size+1+1) (by have:=HLT.out;omega)))
    have HW7:=Lib.hid (below_set4 hw7 w5.heap.size 1 2 3 4 (.bool E1) (.slice E2 E3 E4) (.bool E5) (.slice E6 E7 E8) (by have:=HLT.out;omega))
    obtain ⟨e0,e1,e2,e3,e4⟩:=hn7.cell
    obtain ⟨f0,f1,f2,f3,f4⟩:=hn7.froz
    have hlt5:=HLT.out
    obtain ⟨g0,g1,g2,g3,g4⟩:=hz7.cell
    obtain ⟨h0,h1,h2,h3,h4⟩:=hz7.froz
    have hne5:w5.heap.size≠w.heap.size+1+1:=by omega
    have hne6:w.heap.size+1+1≠w5.heap.size:=by omega
    clear u1 u2 hnum hka hka2 hn7 hz7 hw7 hb7 x0 x1 x2 x3 x4 y0 y1 y2 y3 y4 z0 z1 z2 z3 
    go_wp2
    obtain ⟨l0,l1',l2',l3',l4'⟩:=(HZ7.out.store (.slice asl M cas) (.bool E1) (.slice E2 E3 E4) (.bool E5) (.slice E6 E7 E8)).cell
    refine bodyPost_ret (v := .agg #[.slice asl M cas,.bool E1,.slice E2 E3 E4,.bool E5,.slice E6 E7 E8]) (by simp only [results,Tryz.results18];simp [go_sem,l0,l1',l2',l3',l4']) rfl ?_
    have hka3:Ka (w.heap.size+3) _ (w.heap.size+1+1) (.slice asl M cas) (rowOf (fun c=>f c*y) M) cs (.bool E1,.slice E2 E3 E4,.bool E5,.slice E6 E7 E8) rc:=⟨HKA.out.row,HKA.out.num,HZ7.out.bn (ni5 (ni_slice _ _ _) _ _ _ _ _ _ _ _),fun b hb=>by have:=(HKA.out.row.own.lt b hb).1;omega⟩
    have hk5:=((((hka3.set 0 (ni_slice asl M cas)).set 1 (ni_bool E1)).set 2 (ni_slice E2 E3 E4)).set 3 (ni_bool E5)).set 4 (ni_slice E6 E7 E8)
    exact ⟨⟨_,rfl,_,cs,(.bool E1,.slice E2 E3 E4,.bool E5,.slice E6 E7 E8),rfl,hk5.row.base (by omega),hk5.num⟩,((((HW7.out.setCell (by dsimp only;omega) _).setCell (by dsimp only;omega) _).setCell (by dsimp only;omega) _).setCell (by dsimp only;omega) _).setCell (by dsimp only;omega) _⟩
end Go.Proofs.YtkhdocdddicgpaaGreatDoor
set_option linter.unusedVariables false
set_option linter.unusedSimpArgs false
namespace Go.Proofs.YtkhdocdddicgpaaGreatDoor
open Go.RowKit Go.Maps _root_.Go.Proofs.YtkhdocdddicgpaaGreatDoor.Nm
theorem row_below {W W':World} {B n:Nat} {E:TypeId} {z:Nat} {v:Value} {xs:List Value} (h:W.ownsRow B E z v n xs) (hb:Below W.heap.size W W'):W'.ownsRow B E z v n xs :=
 h.kept (grown_of hb none) (by cases v.ownBlock <;> simp)
theorem formUp_length (f:Int→Rat) (n:Nat):(formUp f n).length≤n:=by
 unfold formUp
 rw [List.length_map]
 exact Nat.le_trans (List.length_filter_le _ _) (by simp)
set_option maxRecDepth 100000 in
set_option maxHeartbeats 6400000 in
theorem rWrite_good (s1:Value) (n1 n2:Bool) (a1 a2:Option Addr) (l1 c1 l2 c2:Nat) (B1 m:Nat) (f:Int→Rat) (cs1:List C4) (rc:Rat) (x:ByteArray) (w:World) (h1:RowQ B1 w s1 (rowOf f m) cs1)
 (hc:RRef w (.agg #[.bool n1,.slice a1 l1 c1,.bool n2,.slice a2 l2 c2]) rc) (hsh:∀ c,rshort (f c)=true) (hcs:rshort rc=true) (hm:m≤2048) (hx:Hid (txt rc=x)) :
 Calls Tryz.prog 38 #[.agg #[s1,.bool n1,.slice a1 l1 c1,.bool n2,.slice a2 l2 c2]] w fun e w'=>(∃ ad n cap,e = .returned (.tuple #[.slice ad n cap,.string x,.int .i64 0])∧TsAt w' (.slice ad n cap) (tms (formUp f m)))∧Below w.heap.size w w':=by
 obtain ⟨p1,cap1,hs1⟩:=h1.slice
 rw [rowOf_length] at hs1
 subst hs1
 have hA1:=(Below.refl w.heap.size w).alloc (Nat.le_refl _) (.cells #[.slice p1 m cap1,.bool n1,.slice a1 l1 c1,.bool n2,.slice a2 l2 c2] 35)
 have HBA:=Lib.hid (B5.new w (.slice p1 m cap1) (.bool n1) (.slice a1 l1 c1) (.bool n2) (.slice a2 l2 c2) 35)
 have HW0:=Lib.hid hA1
 have HQ1:=Lib.hid h1
 have HC:=Lib.hid hc
 have HS:=Lib.hid (And.intro hsh hcs)
 have HXT:Hid (True∧x=⟨(rt rc).toArray⟩):=Lib.hid ⟨trivial,hx.out.symm⟩
 clear hA1 h1 hc hsh hcs
 obtain ⟨x0,x1,x2,x3,x4⟩:=HBA.out.cell
 go_enter Tryz.func38,Tryz.ntmps38
 go_wp2
 clear x0 x1 x2 x3 x4
 go_loopw [5,6] (fun v i wr=>∃ (k:Nat) (v':Value),k≤m∧v'=v∧i = .int .i64 k∧Hid (wr.ownsRow (w.heap.size+1) 68 2 v' (formUp f k).length (flatT (formUp f k)))∧Hid (B5 wr w.heap.size (.slice p1 m cap1) (.bool n1) (.slice a1 l1 c1) (.bool n2) (.slice a2 l2 c2))∧Hid (Below w.heap.size w wr)) (fun _ i _=>m-(intOf i).toNat)
 case atStart=>exact ⟨0,.slice none 0 0,Nat.zero_le _,rfl,rfl,Lib.hid ⟨rfl,.inl ⟨rfl,rfl⟩⟩,HBA,HW0⟩
 case round =>
  obtain ⟨k,v,hk,rfl,rfl,HROW,HB,HW⟩:=hrel
  obtain ⟨x0,x1,x2,x3,x4⟩:=HB.out.cell
  by_cases hlt:k<m
  · obtain ⟨ga,capa,ca,ev,t0,t1,t2,t3,hra⟩:=(HQ1.out.keep HW.out).at k (by rw [rowOf_length];exact hlt)
    rw [rowOf_get] at hra
    rw [rowOf_length] at ev
    simp only [Value.slice.injEq,true_and] at ev
    obtain ⟨rfl,rfl⟩:=ev
    obtain ⟨g1,g2,g3,g4,g5,g6,g7,g8,rfl⟩:=hra.expl
    dsimp only at t0 t1 t2 t3
    have hgl:ga<wr.heap.size:=World.block_lt_of_cell? _ _ t0
    have HGL:=Lib.hid (And.intro trivial hgl)
    have HRA:=Lib.hid hra
    have h1:(0:Int)≤k:=by omega
    have h2:(k:Int)<m:=by omega
    clear hra hgl
    go_wp2_with fail
    refine (rrLong_any _ (f (k:Int)) false _ HRA.out (Lib.hid ⟨trivial,by rw [HS.out.1];rfl⟩)).mono ?_
    rintro e w2 ⟨rfl,hb⟩
    have HB2:=Lib.hid (HB.out.keep hb)
    have HRA2:=Lib.hid (HRA.out.keep hb (Nat.le_refl _))
    have HW2:=Lib.hid (HW.out.trans (hb.mono HW.out.size))
    have HROW2:=Lib.hid (row_below HROW.out hb)
    have T0:=(hb.cell (p:=⟨ga,k*4,none⟩) HGL.out.2).trans t0
    have T1:=(hb.cell (p:=⟨ga,k*4+1,none⟩) HGL.out.2).trans t1
    have T2:=(hb.cell (p:=⟨ga,k*4+2,none⟩) HGL.out.2).trans t2
    have T3:=(hb.cell (p:=⟨ga,k*4+3,none⟩) HGL.out.2).trans t3
    have HGL2:=Lib.hid (And.intro trivial (Nat.lt_of_lt_of_le HGL.out.2 hb.size))
    clear hb t0 t1 t2 t3 x0 x1 x2 x3 x4
    obtain ⟨x0,x1,x2,x3,x4⟩:=HB2.out.cell
    obtain ⟨z,hz⟩:∃ z,decide (f (k:Int)=0)=z:=⟨_,rfl⟩
    have HZ:=Lib.hid (And.intro trivial hz)
    clear hz
    go_wp2_with fail
    refine (rrZero_any _ (f (k:Int)) z _ HRA2.out HZ).mono ?_
    rintro e w3 ⟨rfl,hb⟩
    have HB3:=Lib.hid (HB2.out.keep hb)
    have HRA3:=Lib.hid (HRA2.out.keep hb (Nat.le_refl _))
    have HW3:=Lib.hid (HW2.out.trans (hb.mono HW2.out.size))
    have HROW3:=Lib.hid (row_below HROW2.out hb)
    have t0:=(hb.cell (p:=⟨ga,k*4,none⟩) HGL2.out.2).trans T0
    have t1:=(hb.cell (p:=⟨ga,k*4+1,none⟩) HGL2.out.2).trans T1
    have t2:=(hb.cell (p:=⟨ga,k*4+2,none⟩) HGL2.out.2).trans T2
    have t3:=(hb.cell (p:=⟨ga,k*4+3,none⟩) HGL2.out.2).trans T3
    clear hb T0 T1 T2 T3 x0 x1 x2 x3 x4
    obtain ⟨x0,x1,x2,x3,x4⟩:=HB3.out.cell
    cases z with
    | true =>
     have hz:=of_decide_eq_true HZ.out.2
     have HROW4:Hid (w3.ownsRow (w.heap.size+1) 68 2 v (formUp f (k+1)).length (flatT (formUp f (k+1)))):=Lib.hid (by rw [formUp_skip hz];exact HROW3.out)
     clear hz t0 t1 t2 t3
     go_wp2
     go_roundw
     case rel=>exact ⟨k+1,v,by omega,rfl,by go_num,HROW4,HB3,HW3⟩
     case measure=>simp [intOf];omega
    | false =>
     have hz:=of_decide_eq_false HZ.out.2
     obtain ⟨y,hy⟩:∃ y,txt (f (k:Int))=y:=⟨_,rfl⟩
     have HY:=Lib.hid hy
     have HYT:Hid (True∧y=⟨(rt (f (k:Int))).toArray⟩):=Lib.hid ⟨trivial,hy.symm⟩
     have HZN:=Lib.hid hz
     clear hz hy
     go_wp2_with fail
     refine (rrText_any _ (f (k:Int)) y 400 _ HRA3.out (RT.of (HS.out.1 _)) (by omega) HYT).mono ?_
     rintro e w4 ⟨rfl,hb⟩
     have hA4:=(Below.refl w4.heap.size w4).alloc (Nat.le_refl _) (.cells #[.int .i64 k,.string y] 68)
     have hall:Below w3.heap.size w3 _:=hb.trans (hA4.mono hb.size)
     have HB4:=Lib.hid (HB3.out.keep hall)
     have HW4:=Lib.hid (HW3.out.trans (hall.mono HW3.out.size))
     have HROW4:=Lib.hid (row_below HROW3.out hall)
     have HTN:=Lib.hid (two_new w4 (.int .i64 k) (.string y) 68)
     have hlen:=formUp_length f k
     have HLEN:=Lib.hid (And.intro trivial hlen)
     have hbase:w.heap.size+1≤w4.heap.size:=by have:=HB3.out.lt;have:=hb.size;omega
     obtain ⟨i0,hi,hz0,hz1,hz2⟩:=info_parts infoTm
     have HI:=Lib.hid (And.intro hi (And.intro hz0 (And.intro hz1 hz2)))
     clear hb hA4 hall hlen hi hz0 hz1 hz2 t0 t1 t2 t3 x0 x1 x2 x3 x4
     go_wp2_with (first | (at_builtin;refine wpList_append_own _ rfl _ _ 22 rfl (w.heap.size+1) 68 i0 (.agg #[.int .i64 0,.string ⟨#[]⟩]) 2 24 Tryz.underlying22 HI.out.1 HI.out.2.1 HI.out.2.2.1 HI.out.2.2.2 rfl (by decide) _ _ _ rfl HROW4.out _ 1 1 [.int .i64 k,.string y] rfl rfl HTN.out (by simp [Value.oneCell']) (by have:=HLEN.out.2;unfold maxLen;omega) (by have:=HLEN.out.2;omega) (by simp;omega) ?_;intro v5 w5 hown hgrow hnil;refine hold ?_))
     have HROW5:Hid (w5.ownsRow (w.heap.size+1) 68 2 v5 (formUp f (k+1)).length (flatT (formUp f (k+1)))):=Lib.hid (by
      have e:flatT (formUp f (k+1))=flatT (formUp f k)++[.int .i64 k,.string y]:=by
       rw [formUp_add HZN.out,flatT_snoc, ← HY.out];rfl
      rw [e,formUp_add HZN.out,List.length_append]
      exact hown)
     have HB5:=Lib.hid (HB4.out.same (hgrow.block w.heap.size HB4.out.lt (fun e=>by have:=(HROW4.out.lt w.heap.size e.symm).1;omega)))
     have HW5:=Lib.hid (HW4.out.grown hgrow HW4.out.size (fun j e=>by have:=(HROW4.out.lt j e).1;omega))
     clear hown hgrow hnil
     refine go_on ?_
     go_wp2
     go_roundw
     case rel=>exact ⟨k+1,v5,by omega,rfl,by go_num,HROW5,HB5,HW5⟩
     case measure=>simp [intOf];omega
  · obtain rfl:m=k:=by omega
    have hnn:¬ (m:Int)<m:=by omega
    have HC1:=Lib.hid (HC.out.keep HW.out (Nat.le_refl _))
    go_wp2_with fail
    refine (rrLong_any _ rc false _ HC1.out (Lib.hid ⟨trivial,by rw [HS.out.2];rfl⟩)).mono ?_
    rintro e w2 ⟨rfl,hb⟩
    have HB2:=Lib.hid (HB.out.keep hb)
    have HC2:=Lib.hid (HC1.out.keep hb (Nat.le_refl _))
    have HW2:=Lib.hid (HW.out.trans (hb.mono HW.out.size))
    have HROW2:=Lib.hid (row_below HROW.out hb)
    clear hb x0 x1 x2 x3 x4
    obtain ⟨x0,x1,x2,x3,x4⟩:=HB2.out.cell
    go_wp2_with fail
    refine (rrText_any _ rc x 400 _ HC2.out (RT.of HS.out.2) (by omega) HXT).mono ?_
    rintro e w3 ⟨rfl,hb⟩
    have HW3:=Lib.hid (HW2.out.trans (hb.mono HW2.out.size))
    have hrow:=row_below HROW2.out hb
    obtain ⟨ad,n,cap,rfl,hn⟩:∃ ad n cap,v = .slice ad n cap∧n=(formUp f m).length:=by
     rcases hrow.2 with ⟨h,h0⟩ | ⟨g,cap,cur,h,_⟩
     · exact ⟨none,0,0,h,h0.symm⟩
     · exact ⟨_,_,cap,h,rfl⟩
    have HTS:=Lib.hid (terms_of_row (q:=formUp f m) hrow hn)
    subst hn
    clear hb hrow x0 x1 x2 x3 x4
    go_wp2
    refine bodyPost_ret (v := .tuple #[.slice ad (formUp f m).length cap,.string x,.int .i64 0]) (by simp only [results,Tryz.results38];simp [go_sem]) rfl ?_
    exact ⟨⟨ad,_,cap,rfl,HTS.out⟩,HW3.out⟩
end Go.Proofs.YtkhdocdddicgpaaGreatDoor
