/- Part 28: what the law's walk leans on. -/
import Derived.Test.YtkhdocdddicgpaaGreatDoorYa27
import Derived.Test.YtkhdocdddicgpaaGreatDoorYa18
import Derived.Test.YtkhdocdddicgpaaGreatDoorYa24
import Derived.Test.YtkhdocdddicgpaaGreatDoorYa17
set_option linter.unusedVariables false
set_option linter.unusedSimpArgs false
namespace Go.Proofs.YtkhdocdddicgpaaGreatDoor
open Go.RowKit Go.Maps _root_.Go.Proofs.YtkhdocdddicgpaaGreatDoor.Nm
set_option maxRecDepth 100000 in
set_option maxHeartbeats 6400000 in
theorem rfScale_any (s1:Value) (n1 n2:Bool) (a1 a2:Option Addr) (l1 c1 l2 c2:Nat) (m1 m2:Bool) (b1 b2:Option Addr) (j1 d1 j2 d2:Nat) (B1 M:Nat) (f:Int→Rat) (cs1:List C4) (y rc:Rat) (w:World) (h1:RowQ B1 w s1 (rowOf f M) cs1)
 (hby:RRef w (.agg #[.bool m1,.slice b1 j1 d1,.bool m2,.slice b2 j2 d2]) y) (htf:∀ c,RT 400 (f c)) (hty:RT 400 y) (hM2:M≤2048)
 (hadd:∀ W,Below w.heap.size w W→Calls Tryz.prog 47 #[.agg #[.bool n1,.slice a1 l1 c1,.bool n2,.slice a2 l2 c2],.agg #[.bool m1,.slice b1 j1 d1,.bool m2,.slice b2 j2 d2]] W (RRPost rc W)) :
 Calls Tryz.prog 18 #[.agg #[s1,.bool n1,.slice a1 l1 c1,.bool n2,.slice a2 l2 c2],.agg #[.bool m1,.slice b1 j1 d1,.bool m2,.slice b2 j2 d2]] w fun e w'=>(∃ v,e = .returned v∧FormQ w' w.heap.size v (rowOf (fun c=>f c*y) M) rc)∧Below w.heap.size w w':=by
 obtain ⟨p1,cap1,hs1⟩:=h1.slice
 rw [rowOf_length] at hs1
 subst hs1
 have hA1:=(Below.refl w.heap.size w).alloc (Nat.le_refl _) (.cells #[.slice p1 M cap1,.bool n1,.slice a1 l1 c1,.bool n2,.slice a2 l2 c2] 35)
 have hA2:=hA1.alloc (by simp) (.cells #[.bool m1,.slice b1 j1 d1,.bool m2,.slice b2 j2 d2] 33)
 have hA3:=hA2.alloc (by simp;omega) (.cells #[.slice none 0 0,.bool false,.slice none 0 0,.bool false,.slice none 0 0] 35)
 have hBA:=((B5.new w (.slice p1 M cap1) (.bool n1) (.slice a1 l1 c1) (.bool n2) (.slice a2 l2 c2) 35).keep ((Below.refl _ _).alloc (Nat.le_refl _) (.cells #[.bool m1,.slice b1 j1 d1,.bool m2,.slice b2 j2 d2] 33))).keep ((Below.refl _ _).alloc (Nat.le_refl _) (.cells #[.slice none 0 0,.bool false,.slice none 0 0,.bool false,.slice none 0 0] 35))
 have hBB0:=B4.new (w.alloc (.cells #[.slice p1 M cap1,.bool n1,.slice a1 l1 c1,.bool n2,.slice a2 l2 c2] 35)) (.bool m1) (.slice b1 j1 d1) (.bool m2) (.slice b2 j2 d2) 33
 have hBB:=hBB0.below ((Below.refl _ _).alloc (Nat.le_refl _) (.cells #[.slice none 0 0,.bool false,.slice none 0 0,.bool false,.slice none 0 0] 35)) hBB0.lt
 have hBZ:=B5.new ((w.alloc (.cells #[.slice p1 M cap1,.bool n1,.slice a1 l1 c1,.bool n2,.slice a2 l2 c2] 35)).alloc (.cells #[.bool m1,.slice b1 j1 d1,.bool m2,.slice b2 j2 d2] 33)) (.slice none 0 0) (.bool false) (.slice none 0 0) (.bool false) (.slice none 0 0) 35
 simp only [World.size_alloc] at hBB hBZ
 have HBA:=Lib.hid hBA
 have HBB:=Lib.hid hBB
 have HBZ:=Lib.hid hBZ
 have HW0:=Lib.hid hA3
 have HQ1:=Lib.hid h1
 have HBY0:=Lib.hid hby
 have HT:=Lib.hid (And.intro htf hty)
 have HADD:=Lib.hid hadd
 clear hA1 hA2 hA3 hBA hBB0 hBB hBZ h1 hby htf hty hadd
 obtain ⟨x0,x1,x2,x3,x4⟩:=HBA.out.cell
 go_enter Tryz.func18,Tryz.ntmps18
 go_wp2_with fail
 refine (rZero_any M _ (by omega)).mono ?_
 rintro e w5 ⟨⟨v,rfl,sv,cs0,c4,rfl,hrow,hnum⟩,hb⟩
 obtain ⟨i1,q1,k1,r1,i2,q2,k2,r2,rfl⟩:=hnum.expl
 obtain ⟨asl,cas,hsv⟩:=hrow.slice
 rw [List.length_replicate] at hsv
 subst hsv
 have hC:Below w5.heap.size w5 (w5.alloc (.cells #[.slice asl M cas,.bool i1,.slice q1 k1 r1,.bool i2,.slice q2 k2 r2] 35)):=(Below.refl _ w5).alloc (Nat.le_refl _) _
 have hbC:=hb.trans (hC.mono hb.size)
 have HBA5:=Lib.hid (HBA.out.keep hbC)
 have HBB5:=Lib.hid (HBB.out.below hbC HBB.out.lt)
 have HBZ5:=Lib.hid (HBZ.out.keep hbC)
 have HW5:=Lib.hid (HW0.out.trans (hbC.mono HW0.out.size))
 have hro:=(hrow.keep hC).base (B':=w.heap.size+3) (by simp)
 have HRO:=Lib.hid hro
 have HN5:=Lib.hid (B5.new w5 (.slice asl M cas) (.bool i1) (.slice q1 k1 r1) (.bool i2) (.slice q2 k2 r2) 35)
 have HLT:Hid (w.heap.size+3≤w5.heap.size):=Lib.hid (by have:=hb.size;simp at this;omega)
 have HNE:Hid (∀ b,(Value.slice asl M cas).ownBlock=some b→b≠w5.heap.size):=Lib.hid (fun b hb=>by have:=(hrow.own.lt b hb).2;omega)
 clear hrow hnum hb hC hbC hro x0 x1 x2 x3 x4
 go_wp2
 go_loopw [6] (fun i W=>∃ (k:Nat) (f':Int→Rat) (cs:List C4),k≤M∧i = .int .i64 k∧Hid (∀ c:Int,f' c=if 0≤c∧c<(k:Int) then f c*y else 0)∧Hid (RowQ (w.heap.size+3) W (.slice asl M cas) (rowOf f' M) cs)∧Hid (B5 W w5.heap.size (.slice asl M cas) (.bool i1) (.slice q1 k1 r1) (.bool i2) (.slice q2 k2 r2))∧Hid (B5 W w.heap.size (.slice p1 M cap1) (.bool n1) (.slice a1 l1 c1) (.bool n2) (.slice a2 l2 c2))∧Hid (B4 W (w.heap.size+1) (.bool m1) (.slice b1 j1 d1) (.bool m2) (.slice b2 j2 d2))∧Hid (B5 W (w.heap.size+1+1) (.slice none 0 0) (.bool false) (.slice none 0 0) (.bool false) (.slice none 0 0))∧Hid (Below w.heap.size w W)) (fun i _=>M-(intOf i).toNat)
 case atStart=>exact ⟨0,fun _=>0,cs0,Nat.zero_le _,rfl,Lib.hid (fun c=>by rw [if_neg (by omega)]),Lib.hid (by rw [rowOf_zero];exact HRO.out),HN5,HBA5,HBB5,HBZ5,HW5⟩
 case round =>
  obtain ⟨k,f',cs,hk,rfl,HF,HROW,HN,HBX,HBY,HBZ6,HW⟩:=hrel
  obtain ⟨x0,x1,x2,x3,x4⟩:=HN.out.cell
  by_cases hlt:k<M
  · obtain ⟨gr,capr,cr,ev,-,-,-,-,-⟩:=HROW.out.at k (by rw [rowOf_length];exact hlt)
    rw [rowOf_length] at ev
    simp only [Value.slice.injEq,true_and] at ev
    obtain ⟨rfl,rfl⟩:=ev
    have hgne:gr≠w5.heap.size:=HNE.out gr rfl
    have hgB:=(HROW.out.own.lt gr rfl).1
    obtain ⟨ga,capa,ca,ev,t0,t1,t2,t3,hra⟩:=(HQ1.out.keep HW.out).at k (by rw [rowOf_length];exact hlt)
    rw [rowOf_get] at hra
    rw [rowOf_length] at ev
    simp only [Value.slice.injEq,true_and] at ev
    obtain ⟨rfl,rfl⟩:=ev
    obtain ⟨g1,g2,g3,g4,g5,g6,g7,g8,rfl⟩:=hra.expl
    dsimp only at t0 t1 t2 t3
    have hgl:ga<wr.heap.size:=World.block_lt_of_cell? _ _ t0
    have hgn:ga≠gr:=fun e=>by
     have:=(HQ1.out.own.lt ga rfl).2
     omega
    obtain ⟨r,hr⟩:∃ r,f (k:Int)*y=r:=⟨_,rfl⟩
    have HRS:=Lib.hid hr
    have HRA:=Lib.hid hra
    have HRY:=Lib.hid (HBY0.out.keep HW.out (Nat.le_refl _))
    have HRR:Hid (r=f (k:Int)*y):=Lib.hid hr.symm
    clear hra hr
    have hSW:∀ W',Below wr.heap.size wr W'→W'.cell? ⟨w5.heap.size,0,none⟩=some (.slice (some ⟨gr,0,none⟩) M cas)∧W'.cell? ⟨w.heap.size,0,none⟩=some (.slice (some ⟨ga,0,none⟩) M cap1)∧W'.cell? ⟨w.heap.size,1,none⟩=some (.bool n1)∧W'.cell? ⟨w.heap.size,2,none⟩=some (.slice a1 l1 c1)∧W'.cell? ⟨w.heap.size,3,none⟩=some (.bool n2)∧W'.cell? ⟨w.heap.size,4,none⟩=some (.slice a2 l2 c2)∧W'.cell? ⟨w.heap.size+1,0,none⟩=some (.bool m1)∧W'.cell? ⟨w.heap.size+1,1,none⟩=some (.slice b1 j1 d1)∧W'.cell? ⟨w.heap.size+1,2,none⟩=some (.bool m2)∧W'.cell? ⟨w.heap.size+1,3,none⟩=some (.slice b2 j2 d2)∧W'.cell? ⟨ga,k*4,none⟩=some (.bool g1)∧W'.cell? ⟨ga,k*4+1,none⟩=some (.slice g2 g3 g4)∧W'.cell? ⟨ga,k*4+2,none⟩=some (.bool g5)∧W'.cell? ⟨ga,k*4+3,none⟩=some (.slice g6 g7 g8):=fun W' hb=>⟨(hb.cell HN.out.lt).trans HN.out.cell.1,(hb.cell HBX.out.lt).trans HBX.out.cell.1,(hb.cell HBX.out.lt).trans HBX.out.cell.2.1,(hb.cell HBX.out.lt).trans HBX.out.cell.2.2.1,(hb.cell HBX.out.lt).trans HBX.out.cell.2.2.2.1,(hb.cell HBX.out.lt).trans HBX.out.cell.2.2.2.2,(hb.cell HBY.out.lt).trans HBY.out.cell.1,(hb.cell HBY.out.lt).trans HBY.out.cell.2.1,(hb.cell HBY.out.lt).trans HBY.out.cell.2.2.1,(hb.cell HBY.out.lt).trans HBY.out.cell.2.2.2,(hb.cell (p:=⟨ga,k*4,none⟩) hgl).trans t0,(hb.cell (p:=⟨ga,k*4+1,none⟩) hgl).trans t1,(hb.cell (p:=⟨ga,k*4+2,none⟩) hgl).trans t2,(hb.cell (p:=⟨ga,k*4+3,none⟩) hgl).trans t3⟩
    have HSW:=Lib.hid hSW
    have h1:(0:Int)≤k:=by omega
    have h2:(k:Int)<M:=by omega
    have hkM:k*4+3<M*4:=by omega
    have hS0:=HSW.out wr.drew (Below.refl _ wr).drew
    clear hSW
    go_wp2_with fail
    refine region_plainX (S:=fun W'=>W'.cell? ⟨w5.heap.size,0,none⟩=some (.slice (some ⟨gr,0,none⟩) M cas)∧W'.cell? ⟨w.heap.size,0,none⟩=some (.slice (some ⟨ga,0,none⟩) M cap1)∧W'.cell? ⟨w.heap.size,1,none⟩=some (.bool n1)∧W'.cell? ⟨w.heap.size,2,none⟩=some (.slice a1 l1 c1)∧W'.cell? ⟨w.heap.size,3,none⟩=some (.bool n2)∧W'.cell? ⟨w.heap.size,4,none⟩=some (.slice a2 l2 c2)∧W'.cell? ⟨w.heap.size+1,0,none⟩=some (.bool m1)∧W'.cell? ⟨w.heap.size+1,1,none⟩=some (.slice b1 j1 d1)∧W'.cell? ⟨w.heap.size+1,2,none⟩=some (.bool m2)∧W'.cell? ⟨w.heap.size+1,3,none⟩=some (.slice b2 j2 d2)∧W'.cell? ⟨ga,k*4,none⟩=some (.bool g1)∧W'.cell? ⟨ga,k*4+1,none⟩=some (.slice g2 g3 g4)∧W'.cell? ⟨ga,k*4+2,none⟩=some (.bool g5)∧W'.cell? ⟨ga,k*4+3,none⟩=some (.slice g6 g7 g8)) (m:=11) (by kernel_rfl) ?_
    refine x_take (i:=0) (v := .pointer (some ⟨w5.heap.size,0,none⟩)) rfl rfl (by kernel_rfl) (by kernel_rfl) (by kernel_rfl) (by kernel_rfl) (fun _ _ _ h=>h) (.inl ⟨by rfl,?_⟩) hS0 ?_
    · intro w hSw;(try dsimp only at hSw);go_simp
    simp only [Act.put,List.setIfInBounds_toArray,List.set_cons_zero,List.set_cons_succ]
    refine x_take (i:=1) (v := .slice (some ⟨gr,0,none⟩) M cas) rfl rfl (by kernel_rfl) (by kernel_rfl) (by kernel_rfl) (by kernel_rfl) (fun _ _ _ h=>h) (.inl ⟨by rfl,?_⟩) hS0 ?_
    · intro w hSw;(try dsimp only at hSw);go_simp
    simp only [Act.put,List.setIfInBounds_toArray,List.set_cons_zero,List.set_cons_succ]
    refine x_take (i:=2) (v := .int .i64 k) rfl rfl (by kernel_rfl) (by kernel_rfl) (by kernel_rfl) (by kernel_rfl) (fun _ _ _ h=>h) (.inl ⟨by rfl,?_⟩) hS0 ?_
    · intro w hSw;(try dsimp only at hSw);go_simp
    simp only [Act.put,List.setIfInBounds_toArray,List.set_cons_zero,List.set_cons_succ]
    refine x_take (i:=3) (v := .pointer (some ⟨w.heap.size,0,none⟩)) rfl rfl (by kernel_rfl) (by kernel_rfl) (by kernel_rfl) (by kernel_rfl) (fun _ _ _ h=>h) (.inl ⟨by rfl,?_⟩) hS0 ?_
    · intro w hSw;(try dsimp only at hSw);go_simp
    simp only [Act.put,List.setIfInBounds_toArray,List.set_cons_zero,List.set_cons_succ]
    refine x_take (i:=4) (v := .slice (some ⟨ga,0,none⟩) M cap1) rfl rfl (by kernel_rfl) (by kernel_rfl) (by kernel_rfl) (by kernel_rfl) (fun _ _ _ h=>h) (.inl ⟨by rfl,?_⟩) hS0 ?_
    · intro w hSw;(try dsimp only at hSw);go_simp
    simp only [Act.put,List.setIfInBounds_toArray,List.set_cons_zero,List.set_cons_succ]
    refine x_take (i:=5) (v := .int .i64 k) rfl rfl (by kernel_rfl) (by kernel_rfl) (by kernel_rfl) (by kernel_rfl) (fun _ _ _ h=>h) (.inl ⟨by rfl,?_⟩) hS0 ?_
    · intro w hSw;(try dsimp only at hSw);go_simp
    simp only [Act.put,List.setIfInBounds_toArray,List.set_cons_zero,List.set_cons_succ]
    refine x_take (i:=6) (v := .pointer (some ⟨ga,k*4,none⟩)) rfl rfl (by kernel_rfl) (by kernel_rfl) (by kernel_rfl) (by kernel_rfl) (fun _ _ _ h=>h) (.inl ⟨by rfl,?_⟩) hS0 ?_
    · intro w hSw;(try dsimp only at hSw);go_simp
    simp only [Act.put,List.setIfInBounds_toArray,List.set_cons_zero,List.set_cons_succ]
    refine x_take (i:=7) (v := .agg #[.bool g1,.slice g2 g3 g4,.bool g5,.slice g6 g7 g8]) rfl rfl (by kernel_rfl) (by kernel_rfl) (by kernel_rfl) (by kernel_rfl) (fun _ _ _ h=>h) (.inl ⟨by rfl,?_⟩) hS0 ?_
    · intro w hSw;(try dsimp only at hSw);go_simp
    simp only [Act.put,List.setIfInBounds_toArray,List.set_cons_zero,List.set_cons_succ]
    refine x_take (i:=8) (v := .agg #[.bool m1,.slice b1 j1 d1,.bool m2,.slice b2 j2 d2]) rfl rfl (by kernel_rfl) (by kernel_rfl) (by kernel_rfl) (by kernel_rfl) (fun _ _ _ h=>h) (.inl ⟨by rfl,?_⟩) hS0 ?_
    · intro w hSw;(try dsimp only at hSw);go_simp
    simp only [Act.put,List.setIfInBounds_toArray,List.set_cons_zero,List.set_cons_succ]
    refine x_one (i:=9) (by kernel_rfl) rfl (fun K' hK' => ?_)
    go_simp
    refine (rrMul_any _ _ (f (k:Int)) y 400 r _ (HRA.out.keep (Below.refl _ wr).drew (Nat.le_refl _)) (HRY.out.keep (Below.refl _ wr).drew (Nat.le_refl _)) (HT.out.1 _) HT.out.2 (Nat.le_refl _) HRS).mono ?_
    rintro e w9 ⟨v9,rfl,hr9,hb9⟩
    have hby:Below wr.heap.size wr w9:=(Below.refl wr.heap.size wr).drew.trans (hb9.mono (Below.refl wr.heap.size wr).drew.size)
    obtain ⟨D1,D2,D3,D4,D5,D6,D7,D8,rfl,z1,z2⟩:=hr9
    have hr9:RRef w9 (agg4 (.bool D1,.slice D2 D3 D4,.bool D5,.slice D6 D7 D8)) r:=⟨_,_,_,_,_,_,_,_,rfl,z1,z2⟩
    have hrow9:=HROW.out.keep hby
    obtain ⟨hrow10,hoff⟩:=hrow9.set k (by rw [rowOf_length];omega) hr9
    rw [rowOf_set] at hrow10
    dsimp only at hrow10 hoff
    have HROW10:=Lib.hid hrow10
    have HN10:=Lib.hid ((HN.out.keep hby).same (heap_set4 w9 gr (k*4) (k*4+1) (k*4+2) (k*4+3) (.bool D1) (.slice D2 D3 D4) (.bool D5) (.slice D6 D7 D8) w5.heap.size (fun e=>hgne e.symm)))
    have HBX10:=Lib.hid ((HBX.out.keep hby).same (heap_set4 w9 gr (k*4) (k*4+1) (k*4+2) (k*4+3) (.bool D1) (.slice D2 D3 D4) (.bool D5) (.slice D6 D7 D8) w.heap.size (by omega)))
    have HBY10:=Lib.hid (B4.same (HBY.out.below hby HBY.out.lt) (heap_set4 w9 gr (k*4) (k*4+1) (k*4+2) (k*4+3) (.bool D1) (.slice D2 D3 D4) (.bool D5) (.slice D6 D7 D8) (w.heap.size+1) (by omega)))
    have HBZ10:=Lib.hid ((HBZ6.out.keep hby).same (heap_set4 w9 gr (k*4) (k*4+1) (k*4+2) (k*4+3) (.bool D1) (.slice D2 D3 D4) (.bool D5) (.slice D6 D7 D8) (w.heap.size+1+1) (by omega)))
    have HW10:=Lib.hid (below_set4 (HW.out.trans (hby.mono HW.out.size)) gr (k*4) (k*4+1) (k*4+2) (k*4+3) (.bool D1) (.slice D2 D3 D4) (.bool D5) (.slice D6 D7 D8) (by omega))
    have HF10:Hid (∀ c:Int,upd f' (k:Int) r c=if 0≤c∧c<((k+1:Nat):Int) then f c*y else 0):=Lib.hid (fun c=>by
     by_cases e:c=(k:Int)
     · subst e;rw [upd_same,if_pos ⟨by omega,by omega⟩];exact HRR.out
     · rw [upd_other _ _ e,HF.out c]
       by_cases h:0≤c∧c<(k:Int)
       · rw [if_pos h,if_pos ⟨h.1,by omega⟩]
       · rw [if_neg h,if_neg (fun x=>h ⟨x.1,by omega⟩)])
    have hS9:=HSW.out _ hby
    have F0:=hrow9.froz (k*4)
    have F1:=hrow9.froz (k*4+1)
    have F2:=hrow9.froz (k*4+2)
    have F3:=hrow9.froz (k*4+3)
    obtain ⟨gr',capr',cr',ev',u0,u1,u2,u3,_⟩:=hrow9.at k (by rw [rowOf_length];omega)
    simp only [Value.slice.injEq,Option.some.injEq,Addr.mk.injEq,and_true] at ev'
    obtain ⟨rfl,hcapr⟩:=ev'
    clear hcapr
    dsimp only
    refine hK'.out _ _ (fun _=>hS9) ?_
    clear hK' K' z1 z2 hrow10 hoff hrow9 hr9
    refine x_one (i:=10) (by kernel_rfl) rfl (fun K' hK' => ?_)
    go_simp
    refine hK'.out _ _ (fun _=>hS9) ?_
    clear hK' K'
    refine x_one (i:=11) (by kernel_rfl) rfl (fun K' hK' => ?_)
    go_simp
    refine hK'.out _ _ (fun h=>absurd rfl h) ?_
    clear hK' K' hS9 F0 F1 F2 F3 hS0 u0 u1 u2 u3
    refine x_done (by kernel_rfl) ?_ _
    go_wp2
    go_roundw
    case rel=>exact ⟨k+1,upd f' (k:Int) r,_,by omega,by go_num,HF10,HROW10,HN10,HBX10,HBY10,HBZ10,HW10⟩
    case measure=>simp [intOf];omega
  · obtain rfl:M=k:=by omega
    have hnn:¬ (M:Int)<M:=by omega
    have hrow:rowOf f' M=rowOf (fun c=>f c*y) M:=by
     unfold rowOf
     refine List.map_congr_left fun i hi => ?_
     rw [List.mem_range] at hi
     rw [HF.out,if_pos ⟨by omega,by omega⟩]
    have HROW2:Hid (RowQ (w.heap.size+3) wr (.slice asl M cas) (rowOf (fun c=>f c*y) M) cs):=Lib.hid (by rw [← hrow];exact HROW.out)
    clear hrow
    obtain ⟨y0,y1,y2,y3,y4⟩:=HBX.out.cell
    obtain ⟨z0,z1,z2,z3⟩:=HBY.out.cell
    go_wp2_with fail
    refine (HADD.out _ HW.out).mono ?_
    rintro e w7 ⟨v7,rfl,hr7,hb7⟩
    obtain ⟨E1,E2,E3,E4,E5,E6,E7,E8,rfl,u1,u2⟩:=hr7
    have hnum:RRef w7 (agg4 (.bool E1,.slice E2 E3 E4,.bool E5,.slice E6 E7 E8)) rc:=⟨_,_,_,_,_,_,_,_,rfl,u1,u2⟩
    have hn7:=HN.out.keep hb7
    have hz7:=HBZ6.out.keep hb7
    have hw7:=HW.out.trans (hb7.mono HW.out.size)
    have hka:Ka (w.heap.size+3) w7 w5.heap.size (.slice asl M cas) (rowOf (fun c=>f c*y) M) cs (.bool E1,.slice E2 E3 E4,.bool E5,.slice E6 E7 E8) rc:=⟨HROW2.out.keep hb7,hnum,hn7.bn (ni5 (ni_slice _ _ _) _ _ _ _ _ _ _ _),HNE.out⟩
    have hka2:=(((hka.set 1 (ni_bool E1)).set 2 (ni_slice E2 E3 E4)).set 3 (ni_bool E5)).set 4 (ni_slice E6 E7 E8)
    have HKA:=Lib.hid hka2
    have HN7:=Lib.hid (hn7.put4 (.bool E1) (.slice E2 E3 E4) (.bool E5) (.slice E6 E7 E8))
    have HZ7:=Lib.hid (hz7.same (heap_set4 w7 w5.heap.size 1 2 3 4 (.bool E1) (.slice E2 E3 E4) (.bool E5) (.slice E6 E7 E8) (w.heap.size+1+1) (by have:=HLT.out;omega)))
    have HW7:=Lib.hid (below_set4 hw7 w5.heap.size 1 2 3 4 (.bool E1) (.slice E2 E3 E4) (.bool E5) (.slice E6 E7 E8) (by have:=HLT.out;omega))
    obtain ⟨e0,e1,e2,e3,e4⟩:=hn7.cell
    obtain ⟨f0,f1,f2,f3,f4⟩:=hn7.froz
    have hlt5:=HLT.out
    obtain ⟨g0,g1,g2,g3,g4⟩:=hz7.cell
    obtain ⟨h0,h1,h2,h3,h4⟩:=hz7.froz
    have hne5:w5.heap.size≠w.heap.size+1+1:=by omega
    have hne6:w.heap.size+1+1≠w5.heap.size:=by omega
    clear u1 u2 hnum hka hka2 hn7 hz7 hw7 hb7 x0 x1 x2 x3 x4 y0 y1 y2 y3 y4 z0 z1 z2 z3 
    go_wp2
    obtain ⟨l0,l1',l2',l3',l4'⟩:=(HZ7.out.store (.slice asl M cas) (.bool E1) (.slice E2 E3 E4) (.bool E5) (.slice E6 E7 E8)).cell
    refine bodyPost_ret (v := .agg #[.slice asl M cas,.bool E1,.slice E2 E3 E4,.bool E5,.slice E6 E7 E8]) (by simp only [results,Tryz.results18];simp [go_sem,l0,l1',l2',l3',l4']) rfl ?_
    have hka3:Ka (w.heap.size+3) _ (w.heap.size+1+1) (.slice asl M cas) (rowOf (fun c=>f c*y) M) cs (.bool E1,.slice E2 E3 E4,.bool E5,.slice E6 E7 E8) rc:=⟨HKA.out.row,HKA.out.num,HZ7.out.bn (ni5 (ni_slice _ _ _) _ _ _ _ _ _ _ _),fun b hb=>by have:=(HKA.out.row.own.lt b hb).1;omega⟩
    have hk5:=((((hka3.set 0 (ni_slice asl M cas)).set 1 (ni_bool E1)).set 2 (ni_slice E2 E3 E4)).set 3 (ni_bool E5)).set 4 (ni_slice E6 E7 E8)
    exact ⟨⟨_,rfl,_,cs,(.bool E1,.slice E2 E3 E4,.bool E5,.slice E6 E7 E8),rfl,hk5.row.base (by omega),hk5.num⟩,((((HW7.out.setCell (by dsimp only;omega) _).setCell (by dsimp only;omega) _).setCell (by dsimp only;omega) _).setCell (by dsimp only;omega) _).setCell (by dsimp only;omega) _⟩
end Go.Proofs.YtkhdocdddicgpaaGreatDoor
set_option linter.unusedVariables false
set_option linter.unusedSimpArgs false
namespace Go.Proofs.YtkhdocdddicgpaaGreatDoor
open Go.RowKit Go.Maps _root_.Go.Proofs.YtkhdocdddicgpaaGreatDoor.Nm
theorem row_below {W W':World} {B n:Nat} {E:TypeId} {z:Nat} {v:Value} {xs:List Value} (h:W.ownsRow B E z v n xs) (hb:Below W.heap.size W W'):W'.ownsRow B E z v n xs :=
 h.kept (grown_of hb none) (by cases v.ownBlock <;> simp)
theorem formUp_length (f:Int→Rat) (n:Nat):(formUp f n).length≤n:=by
 unfold formUp
 rw [List.length_map]
 exact Nat.le_trans (List.length_filter_le _ _) (by simp)
set_option maxRecDepth 100000 in
set_option maxHeartbeats 6400000 in
theorem rWrite_good (s1:Value) (n1 n2:Bool) (a1 a2:Option Addr) (l1 c1 l2 c2:Nat) (B1 m:Nat) (f:Int→Rat) (cs1:List C4) (rc:Rat) (x:ByteArray) (w:World) (h1:RowQ B1 w s1 (rowOf f m) cs1)
 (hc:RRef w (.agg #[.bool n1,.slice a1 l1 c1,.bool n2,.slice a2 l2 c2]) rc) (hsh:∀ c,rshort (f c)=true) (hcs:rshort rc=true) (hm:m≤2048) (hx:Hid (txt rc=x)) :
 Calls Tryz.prog 38 #[.agg #[s1,.bool n1,.slice a1 l1 c1,.bool n2,.slice a2 l2 c2]] w fun e w'=>(∃ ad n cap,e = .returned (.tuple #[.slice ad n cap,.string x,.int .i64 0])∧TsAt w' (.slice ad n cap) (tms (formUp f m)))∧Below w.heap.size w w':=by
 obtain ⟨p1,cap1,hs1⟩:=h1.slice
 rw [rowOf_length] at hs1
 subst hs1
 have hA1:=(Below.refl w.heap.size w).alloc (Nat.le_refl _) (.cells #[.slice p1 m cap1,.bool n1,.slice a1 l1 c1,.bool n2,.slice a2 l2 c2] 35)
 have HBA:=Lib.hid (B5.new w (.slice p1 m cap1) (.bool n1) (.slice a1 l1 c1) (.bool n2) (.slice a2 l2 c2) 35)
 have HW0:=Lib.hid hA1
 have HQ1:=Lib.hid h1
 have HC:=Lib.hid hc
 have HS:=Lib.hid (And.intro hsh hcs)
 have HXT:Hid (True∧x=⟨(rt rc).toArray⟩):=Lib.hid ⟨trivial,hx.out.symm⟩
 clear hA1 h1 hc hsh hcs
 obtain ⟨x0,x1,x2,x3,x4⟩:=HBA.out.cell
 go_enter Tryz.func38,Tryz.ntmps38
 go_wp2
 clear x0 x1 x2 x3 x4
 go_loopw [5,6] (fun v i wr=>∃ (k:Nat) (v':Value),k≤m∧v'=v∧i = .int .i64 k∧Hid (wr.ownsRow (w.heap.size+1) 68 2 v' (formUp f k).length (flatT (formUp f k)))∧Hid (B5 wr w.heap.size (.slice p1 m cap1) (.bool n1) (.slice a1 l1 c1) (.bool n2) (.slice a2 l2 c2))∧Hid (Below w.heap.size w wr)) (fun _ i _=>m-(intOf i).toNat)
 case atStart=>exact ⟨0,.slice none 0 0,Nat.zero_le _,rfl,rfl,Lib.hid ⟨rfl,.inl ⟨rfl,rfl⟩⟩,HBA,HW0⟩
 case round =>
  obtain ⟨k,v,hk,rfl,rfl,HROW,HB,HW⟩:=hrel
  obtain ⟨x0,x1,x2,x3,x4⟩:=HB.out.cell
  by_cases hlt:k<m
  · obtain ⟨ga,capa,ca,ev,t0,t1,t2,t3,hra⟩:=(HQ1.out.keep HW.out).at k (by rw [rowOf_length];exact hlt)
    rw [rowOf_get] at hra
    rw [rowOf_length] at ev
    simp only [Value.slice.injEq,true_and] at ev
    obtain ⟨rfl,rfl⟩:=ev
    obtain ⟨g1,g2,g3,g4,g5,g6,g7,g8,rfl⟩:=hra.expl
    dsimp only at t0 t1 t2 t3
    have hgl:ga<wr.heap.size:=World.block_lt_of_cell? _ _ t0
    have HGL:=Lib.hid (And.intro trivial hgl)
    have HRA:=Lib.hid hra
    have h1:(0:Int)≤k:=by omega
    have h2:(k:Int)<m:=by omega
    clear hra hgl
    go_wp2_with fail
    refine (rrLong_any _ (f (k:Int)) false _ HRA.out (Lib.hid ⟨trivial,by rw [HS.out.1];rfl⟩)).mono ?_
    rintro e w2 ⟨rfl,hb⟩
    have HB2:=Lib.hid (HB.out.keep hb)
    have HRA2:=Lib.hid (HRA.out.keep hb (Nat.le_refl _))
    have HW2:=Lib.hid (HW.out.trans (hb.mono HW.out.size))
    have HROW2:=Lib.hid (row_below HROW.out hb)
    have T0:=(hb.cell (p:=⟨ga,k*4,none⟩) HGL.out.2).trans t0
    have T1:=(hb.cell (p:=⟨ga,k*4+1,none⟩) HGL.out.2).trans t1
    have T2:=(hb.cell (p:=⟨ga,k*4+2,none⟩) HGL.out.2).trans t2
    have T3:=(hb.cell (p:=⟨ga,k*4+3,none⟩) HGL.out.2).trans t3
    have HGL2:=Lib.hid (And.intro trivial (Nat.lt_of_lt_of_le HGL.out.2 hb.size))
    clear hb t0 t1 t2 t3 x0 x1 x2 x3 x4
    obtain ⟨x0,x1,x2,x3,x4⟩:=HB2.out.cell
    obtain ⟨z,hz⟩:∃ z,decide (f (k:Int)=0)=z:=⟨_,rfl⟩
    have HZ:=Lib.hid (And.intro trivial hz)
    clear hz
    go_wp2_with fail
    refine (rrZero_any _ (f (k:Int)) z _ HRA2.out HZ).mono ?_
    rintro e w3 ⟨rfl,hb⟩
    have HB3:=Lib.hid (HB2.out.keep hb)
    have HRA3:=Lib.hid (HRA2.out.keep hb (Nat.le_refl _))
    have HW3:=Lib.hid (HW2.out.trans (hb.mono HW2.out.size))
    have HROW3:=Lib.hid (row_below HROW2.out hb)
    have t0:=(hb.cell (p:=⟨ga,k*4,none⟩) HGL2.out.2).trans T0
    have t1:=(hb.cell (p:=⟨ga,k*4+1,none⟩) HGL2.out.2).trans T1
    have t2:=(hb.cell (p:=⟨ga,k*4+2,none⟩) HGL2.out.2).trans T2
    have t3:=(hb.cell (p:=⟨ga,k*4+3,none⟩) HGL2.out.2).trans T3
    clear hb T0 T1 T2 T3 x0 x1 x2 x3 x4
    obtain ⟨x0,x1,x2,x3,x4⟩:=HB3.out.cell
    cases z with
    | true =>
     have hz:=of_decide_eq_true HZ.out.2
     have HROW4:Hid (w3.ownsRow (w.heap.size+1) 68 2 v (formUp f (k+1)).length (flatT (formUp f (k+1)))):=Lib.hid (by rw [formUp_skip hz];exact HROW3.out)
     clear hz t0 t1 t2 t3
     go_wp2
     go_roundw
     case rel=>exact ⟨k+1,v,by omega,rfl,by go_num,HROW4,HB3,HW3⟩
     case measure=>simp [intOf];omega
    | false =>
     have hz:=of_decide_eq_false HZ.out.2
     obtain ⟨y,hy⟩:∃ y,txt (f (k:Int))=y:=⟨_,rfl⟩
     have HY:=Lib.hid hy
     have HYT:Hid (True∧y=⟨(rt (f (k:Int))).toArray⟩):=Lib.hid ⟨trivial,hy.symm⟩
     have HZN:=Lib.hid hz
     clear hz hy
     go_wp2_with fail
     refine (rrText_any _ (f (k:Int)) y 400 _ HRA3.out (RT.of (HS.out.1 _)) (by omega) HYT).mono ?_
     rintro e w4 ⟨rfl,hb⟩
     have hA4:=(Below.refl w4.heap.size w4).alloc (Nat.le_refl _) (.cells #[.int .i64 k,.string y] 68)
     have hall:Below w3.heap.size w3 _:=hb.trans (hA4.mono hb.size)
     have HB4:=Lib.hid (HB3.out.keep hall)
     have HW4:=Lib.hid (HW3.out.trans (hall.mono HW3.out.size))
     have HROW4:=Lib.hid (row_below HROW3.out hall)
     have HTN:=Lib.hid (two_new w4 (.int .i64 k) (.string y) 68)
     have hlen:=formUp_length f k
     have HLEN:=Lib.hid (And.intro trivial hlen)
     have hbase:w.heap.size+1≤w4.heap.size:=by have:=HB3.out.lt;have:=hb.size;omega
     obtain ⟨i0,hi,hz0,hz1,hz2⟩:=info_parts infoTm
     have HI:=Lib.hid (And.intro hi (And.intro hz0 (And.intro hz1 hz2)))
     clear hb hA4 hall hlen hi hz0 hz1 hz2 t0 t1 t2 t3 x0 x1 x2 x3 x4
     go_wp2_with (first | (at_builtin;refine wpList_append_own _ rfl _ _ 22 rfl (w.heap.size+1) 68 i0 (.agg #[.int .i64 0,.string ⟨#[]⟩]) 2 24 Tryz.underlying22 HI.out.1 HI.out.2.1 HI.out.2.2.1 HI.out.2.2.2 rfl (by decide) _ _ _ rfl HROW4.out _ 1 1 [.int .i64 k,.string y] rfl rfl HTN.out (by simp [Value.oneCell']) (by have:=HLEN.out.2;unfold maxLen;omega) (by have:=HLEN.out.2;omega) (by simp;omega) ?_;intro v5 w5 hown hgrow hnil;refine hold ?_))
     have HROW5:Hid (w5.ownsRow (w.heap.size+1) 68 2 v5 (formUp f (k+1)).length (flatT (formUp f (k+1)))):=Lib.hid (by
      have e:flatT (formUp f (k+1))=flatT (formUp f k)++[.int .i64 k,.string y]:=by
       rw [formUp_add HZN.out,flatT_snoc, ← HY.out];rfl
      rw [e,formUp_add HZN.out,List.length_append]
      exact hown)
     have HB5:=Lib.hid (HB4.out.same (hgrow.block w.heap.size HB4.out.lt (fun e=>by have:=(HROW4.out.lt w.heap.size e.symm).1;omega)))
     have HW5:=Lib.hid (HW4.out.grown hgrow HW4.out.size (fun j e=>by have:=(HROW4.out.lt j e).1;omega))
     clear hown hgrow hnil
     refine go_on ?_
     go_wp2
     go_roundw
     case rel=>exact ⟨k+1,v5,by omega,rfl,by go_num,HROW5,HB5,HW5⟩
     case measure=>simp [intOf];omega
  · obtain rfl:m=k:=by omega
    have hnn:¬ (m:Int)<m:=by omega
    have HC1:=Lib.hid (HC.out.keep HW.out (Nat.le_refl _))
    go_wp2_with fail
    refine (rrLong_any _ rc false _ HC1.out (Lib.hid ⟨trivial,by rw [HS.out.2];rfl⟩)).mono ?_
    rintro e w2 ⟨rfl,hb⟩
    have HB2:=Lib.hid (HB.out.keep hb)
    have HC2:=Lib.hid (HC1.out.keep hb (Nat.le_refl _))
    have HW2:=Lib.hid (HW.out.trans (hb.mono HW.out.size))
    have HROW2:=Lib.hid (row_below HROW.out hb)
    clear hb x0 x1 x2 x3 x4
    obtain ⟨x0,x1,x2,x3,x4⟩:=HB2.out.cell
    go_wp2_with fail
    refine (rrText_any _ rc x 400 _ HC2.out (RT.of HS.out.2) (by omega) HXT).mono ?_
    rintro e w3 ⟨rfl,hb⟩
    have HW3:=Lib.hid (HW2.out.trans (hb.mono HW2.out.size))
    have hrow:=row_below HROW2.out hb
    obtain ⟨ad,n,cap,rfl,hn⟩:∃ ad n cap,v = .slice ad n cap∧n=(formUp f m).length:=by
     rcases hrow.2 with ⟨h,h0⟩ | ⟨g,cap,cur,h,_⟩
     · exact ⟨none,0,0,h,h0.symm⟩
     · exact ⟨_,_,cap,h,rfl⟩
    have HTS:=Lib.hid (terms_of_row (q:=formUp f m) hrow hn)
    subst hn
    clear hb hrow x0 x1 x2 x3 x4
    go_wp2
    refine bodyPost_ret (v := .tuple #[.slice ad (formUp f m).length cap,.string x,.int .i64 0]) (by simp only [results,Tryz.results38];simp [go_sem]) rfl ?_
    exact ⟨⟨ad,_,cap,rfl,HTS.out⟩,HW3.out⟩
end Go.Proofs.YtkhdocdddicgpaaGreatDoor
set_option linter.unusedVariables false
set_option linter.unusedSimpArgs false
namespace Go.Proofs.YtkhdocdddicgpaaGreatDoor
open Go.RowKit Go.Maps _root_.Go.Proofs.YtkhdocdddicgpaaGreatDoor.Nm
set_option maxRecDepth 100000 in
set_option maxHeartbeats 3200000 in
theorem Equal_same (ad1 ad2:Option Addr) (n1 cap1 n2 cap2:Nat) (l:List Tm) (w:World) (h1:TsAt w (.slice ad1 n1 cap1) l) (h2:TsAt w (.slice ad2 n2 cap2) l) (hl:l.length≤100000) :
 Calls Tryz.prog 30 #[.slice ad1 n1 cap1,.slice ad2 n2 cap2] w fun e w'=>e = .returned (.bool true)∧Below w.heap.size w w':=by
 obtain ⟨_,_,_,e1,e2,hv1⟩:=h1
 cases e1
 obtain ⟨_,_,_,e1,e3,hv2⟩:=h2
 cases e1
 obtain rfl:n1=n2:=e2.trans e3.symm
 have HN:=Lib.hid (And.intro trivial e2)
 have HL:=Lib.hid (And.intro trivial hl)
 have HV1:=Lib.hid hv1
 have HV2:=Lib.hid hv2
 clear e2 e3 hv1 hv2 hl
 go_enter Tryz.func30,Tryz.ntmps30
 go_wp2
 go_loopw [13] (fun i wr=>∃ k:Nat,k≤n1∧i = .int .i64 k∧Hid (Below w.heap.size w wr)) (fun i _=>n1-(intOf i).toNat)
 case atStart=>exact ⟨0,Nat.zero_le _,rfl,Lib.hid (Below.refl _ _)⟩
 case round =>
  obtain ⟨k,hk,rfl,HW⟩:=hrel
  by_cases hlt:k<n1
  · have hkl:k<l.length:=by rw [← HN.out.2];exact hlt
    obtain ⟨g,off,rfl,hg,hcc⟩:∃ g off,ad1=some ⟨g,off,none⟩∧g<w.heap.size∧∀ (i:Nat) (h:i<l.length),w.cell? ⟨g,off+i*2,none⟩=some (.int .i64 l[i].1)∧w.cell? ⟨g,off+i*2+1,none⟩=some (.string l[i].2):=by
     rcases HV1.out with h | h
     · omega
     · exact h
    obtain ⟨g2,off2,rfl,hg2,hcc2⟩:∃ g off,ad2=some ⟨g,off,none⟩∧g<w.heap.size∧∀ (i:Nat) (h:i<l.length),w.cell? ⟨g,off+i*2,none⟩=some (.int .i64 l[i].1)∧w.cell? ⟨g,off+i*2+1,none⟩=some (.string l[i].2):=by
     rcases HV2.out with h | h
     · omega
     · exact h
    obtain ⟨c,hc⟩:∃ c,l[k].1=c:=⟨_,rfl⟩
    obtain ⟨s,hs⟩:∃ s,l[k].2=s:=⟨_,rfl⟩
    have a0:=(HW.out.cell (p:=⟨g,off+k*2,none⟩) hg).trans (hcc k hkl).1
    have a1:=(HW.out.cell (p:=⟨g,off+k*2+1,none⟩) hg).trans (hcc k hkl).2
    have b0:=(HW.out.cell (p:=⟨g2,off2+k*2,none⟩) hg2).trans (hcc2 k hkl).1
    have b1:=(HW.out.cell (p:=⟨g2,off2+k*2+1,none⟩) hg2).trans (hcc2 k hkl).2
    rw [hc] at a0 b0
    rw [hs] at a1 b1
    have h1:(0:Int)≤k:=by omega
    have h2:(k:Int)<n1:=by omega
    have hx:=HL.out.2
    have hn1:=HN.out.2
    clear hcc hcc2 hc hs hkl
    go_wp2
    go_region
    go_wp2
    go_roundw
    case rel=>exact ⟨k+1,by omega,by go_num,Lib.hid HW.out.drew⟩
    case measure=>simp [intOf];omega
  · obtain rfl:n1=k:=by omega
    have hnn:¬ (n1:Int)<n1:=by omega
    go_wp2
    go_ret
    exact ⟨rfl,HW.out⟩
set_option maxRecDepth 100000 in
set_option maxHeartbeats 3200000 in
theorem is_bad (s0 x1 x2 x3 x4:Value) (no:Int) (w:World) (h0:(no != 0)=true) :
 Calls Tryz.prog 14 #[.agg #[.slice none 0 0,.string ⟨#[]⟩],.int .i64 no,.agg #[s0,x1,x2,x3,x4],.int .i64 no] w fun e w'=>e = .returned (.bool true)∧Below w.heap.size w w':=by
 have hA1:=(Below.refl w.heap.size w).alloc (Nat.le_refl _) (.cells #[.slice none 0 0,.string ⟨#[]⟩] 24)
 have hA2:=hA1.alloc (by simp) (.cells #[s0,x1,x2,x3,x4] 35)
 have HB:=Lib.hid ((Bx.new w (.slice none 0 0) (.string ⟨#[]⟩) 24).alloc (.cells #[s0,x1,x2,x3,x4] 35))
 have HW:=Lib.hid hA2
 clear hA1 hA2
 obtain ⟨a0,a1,a2,a3⟩:=HB.out.cell
 go_enter Tryz.func14,Tryz.ntmps14
 go_wp2
 trace_state
 go_ret
 exact ⟨rfl,HW.out⟩
set_option maxRecDepth 100000 in
set_option maxHeartbeats 3200000 in
theorem is_good (ad:Option Addr) (n cap:Nat) (x:ByteArray) (s1:Value) (n1 n2:Bool) (a1 a2:Option Addr) (l1 c1 l2 c2:Nat) (B1 m:Nat) (f:Int→Rat) (cs1:List C4) (rc:Rat) (w:World) (h1:RowQ B1 w s1 (rowOf f m) cs1)
 (hc:RRef w (.agg #[.bool n1,.slice a1 l1 c1,.bool n2,.slice a2 l2 c2]) rc) (hsh:∀ c,rshort (f c)=true) (hcs:rshort rc=true) (hm:m≤2048) (hx:Hid (txt rc=x)) (hv:TsAt w (.slice ad n cap) (tms (formUp f m))) :
 Calls Tryz.prog 14 #[.agg #[.slice ad n cap,.string x],.int .i64 0,.agg #[s1,.bool n1,.slice a1 l1 c1,.bool n2,.slice a2 l2 c2],.int .i64 0] w fun e w'=>e = .returned (.bool true)∧Below w.heap.size w w':=by
 obtain ⟨p1,cap1,hs1⟩:=h1.slice
 rw [rowOf_length] at hs1
 subst hs1
 have hA1:=(Below.refl w.heap.size w).alloc (Nat.le_refl _) (.cells #[.slice ad n cap,.string x] 24)
 have hA2:=hA1.alloc (by simp) (.cells #[.slice p1 m cap1,.bool n1,.slice a1 l1 c1,.bool n2,.slice a2 l2 c2] 35)
 have HB:=Lib.hid ((Bx.new w (.slice ad n cap) (.string x) 24).alloc (.cells #[.slice p1 m cap1,.bool n1,.slice a1 l1 c1,.bool n2,.slice a2 l2 c2] 35))
 have hF:=B5.new (w.alloc (.cells #[.slice ad n cap,.string x] 24)) (.slice p1 m cap1) (.bool n1) (.slice a1 l1 c1) (.bool n2) (.slice a2 l2 c2) 35
 simp only [World.size_alloc] at hF
 have HF:=Lib.hid hF
 have HW:=Lib.hid hA2
 have HQ:=Lib.hid (h1.keep hA2)
 have HC:=Lib.hid (hc.keep hA2 (Nat.le_refl _))
 have HT:=Lib.hid (hv.keep hA2 (Nat.le_refl _))
 have HS:=Lib.hid (And.intro hsh hcs)
 clear hA1 hA2 hF h1 hc hv hsh hcs
 obtain ⟨a0,a1',a2',a3⟩:=HB.out.cell
 obtain ⟨b0,b1,b2,b3,b4⟩:=HF.out.cell
 go_enter Tryz.func14,Tryz.ntmps14
 go_wp2_with fail
 refine (rWrite_good _ _ _ _ _ _ _ _ _ _ m f cs1 rc x _ HQ.out HC.out HS.out.1 HS.out.2 hm hx).mono ?_
 rintro e w2 ⟨⟨ad2,n2',cap2,rfl,hts⟩,hb⟩
 have HT2:=Lib.hid (HT.out.keep hb (Nat.le_refl _))
 have HU2:=Lib.hid hts
 have HB2:=Lib.hid (HB.out.below hb HB.out.lt)
 have HW2:=Lib.hid (HW.out.trans (hb.mono HW.out.size))
 clear hb hts a0 a1' a2' a3 b0 b1 b2 b3 b4
 obtain ⟨a0,a1',a2',a3⟩:=HB2.out.cell
 go_wp2_with fail
 refine (Equal_same ad ad2 n cap n2' cap2 _ _ HT2.out HU2.out (by have:=formUp_length f m;simp [tms];omega)).mono ?_
 rintro e w3 ⟨rfl,hb⟩
 have HB3:=Lib.hid (HB2.out.below hb HB2.out.lt)
 have HW3:=Lib.hid (HW2.out.trans (hb.mono HW2.out.size))
 clear hb a0 a1' a2' a3
 obtain ⟨a0,a1',a2',a3⟩:=HB3.out.cell
 go_wp2
 go_ret
 exact ⟨rfl,HW3.out⟩
end Go.Proofs.YtkhdocdddicgpaaGreatDoor
set_option linter.unusedVariables false
set_option linter.unusedSimpArgs false
namespace Go.Proofs.YtkhdocdddicgpaaGreatDoor
open Go.RowKit _root_.Go.Proofs.YtkhdocdddicgpaaGreatDoor.Nm
structure M2i (w W:World) (x0 x1 x2 x3 y0 y1 y2 y3:Value) (pn pd qn qd:Int):Prop where
 below:Below w.heap.size w W
 far:w.heap.size+2≤W.heap.size
 b1:B4 W w.heap.size x0 x1 x2 x3
 b2:B4 W (w.heap.size+1) y0 y1 y2 y3
 xn:Ref W (.agg #[x0,x1]) pn
 xd:Ref W (.agg #[x2,x3]) pd
 yn:Ref W (.agg #[y0,y1]) qn
 yd:Ref W (.agg #[y2,y3]) qd
section
variable {w W W':World} {x0 x1 x2 x3 y0 y1 y2 y3:Value} {pn pd qn qd:Int} {B:Nat}
theorem M2i.keep (h:M2i w W x0 x1 x2 x3 y0 y1 y2 y3 pn pd qn qd) (hb:Below B W W') (hB:W.heap.size≤B):M2i w W' x0 x1 x2 x3 y0 y1 y2 y3 pn pd qn qd :=
 ⟨h.below.trans (hb.mono (Nat.le_trans h.below.size hB)),Nat.le_trans h.far hb.size,h.b1.below hb (Nat.lt_of_lt_of_le h.b1.lt hB),h.b2.below hb (Nat.lt_of_lt_of_le h.b2.lt hB),h.xn.keep hb hB,h.xd.keep hb hB,h.yn.keep hb hB,h.yd.keep hb hB⟩
theorem M2i.cells (h:M2i w W x0 x1 x2 x3 y0 y1 y2 y3 pn pd qn qd) :
 W.cell? ⟨w.heap.size,0,none⟩=some x0∧W.cell? ⟨w.heap.size,1,none⟩=some x1∧W.cell? ⟨w.heap.size,2,none⟩=some x2∧W.cell? ⟨w.heap.size,3,none⟩=some x3 ∧
 W.cell? ⟨w.heap.size+1,0,none⟩=some y0∧W.cell? ⟨w.heap.size+1,1,none⟩=some y1∧W.cell? ⟨w.heap.size+1,2,none⟩=some y2∧W.cell? ⟨w.heap.size+1,3,none⟩=some y3 :=
 ⟨h.b1.cell.1,h.b1.cell.2.1,h.b1.cell.2.2.1,h.b1.cell.2.2.2,h.b2.cell.1,h.b2.cell.2.1,h.b2.cell.2.2.1,h.b2.cell.2.2.2⟩
theorem M2i.start (w:World) (x0 x1 x2 x3 y0 y1 y2 y3:Value) (pn pd qn qd:Int) (T1 T2:TypeId) (h1:Ref w (.agg #[x0,x1]) pn) (h2:Ref w (.agg #[x2,x3]) pd) (h3:Ref w (.agg #[y0,y1]) qn) (h4:Ref w (.agg #[y2,y3]) qd) :
 M2i w ((w.alloc (.cells #[x0,x1,x2,x3] T1)).alloc (.cells #[y0,y1,y2,y3] T2)) x0 x1 x2 x3 y0 y1 y2 y3 pn pd qn qd:=by
 have hb:=boxes2 w (.cells #[x0,x1,x2,x3] T1) (.cells #[y0,y1,y2,y3] T2)
 have e1:=B4.new w x0 x1 x2 x3 T1
 have e2:=B4.new (w.alloc (.cells #[x0,x1,x2,x3] T1)) y0 y1 y2 y3 T2
 rw [World.size_alloc] at e2
 exact ⟨hb,by simp,e1.below ((Below.refl _ _).alloc (Nat.le_refl _) _) (by simp),e2,h1.keep hb (Nat.le_refl _),h2.keep hb (Nat.le_refl _),h3.keep hb (Nat.le_refl _),h4.keep hb (Nat.le_refl _)⟩
end
def RI2 (W:World) (v:Value) (x y:Int):Prop:=∃ n1 a1 l1 c1 n2 a2 l2 c2,v = .agg #[.bool n1,.slice a1 l1 c1,.bool n2,.slice a2 l2 c2]∧Ref W (.agg #[.bool n1,.slice a1 l1 c1]) x∧Ref W (.agg #[.bool n2,.slice a2 l2 c2]) y
set_option maxRecDepth 100000 in
set_option maxHeartbeats 6400000 in
theorem rrMul_zero (v1 v2:Value) (pn pd qn qd:Int) (w:World) (h1:RI2 w v1 pn pd) (h2:RI2 w v2 qn qd) (hp:Ten 400 pn∧Ten 400 pd) (hq:Ten 400 qn∧Ten 400 qd) (h0:pn*qn=0) :
 Calls Tryz.prog 47 #[v1,v2] w (RRPost 0 w):=by
 obtain ⟨n1,a1,l1,c1,n2,a2,l2,c2,rfl,x1,x2⟩:=h1
 obtain ⟨n3,a3,l3,c3,n4,a4,l4,c4,rfl,y1,y2⟩:=h2
 have hM:M2i w ((w.alloc (.cells #[.bool n1,.slice a1 l1 c1,.bool n2,.slice a2 l2 c2] 33)).alloc (.cells #[.bool n3,.slice a3 l3 c3,.bool n4,.slice a4 l4 c4] 33)) (.bool n1) (.slice a1 l1 c1) (.bool n2) (.slice a2 l2 c2) (.bool n3) (.slice a3 l3 c3) (.bool n4) (.slice a4 l4 c4) pn pd qn qd:=M2i.start w _ _ _ _ _ _ _ _ pn pd qn qd _ _ x1 x2 y1 y2
 have hA:=(Below.refl ((w.alloc (.cells #[.bool n1,.slice a1 l1 c1,.bool n2,.slice a2 l2 c2] 33)).alloc (.cells #[.bool n3,.slice a3 l3 c3,.bool n4,.slice a4 l4 c4] 33)).heap.size ((w.alloc (.cells #[.bool n1,.slice a1 l1 c1,.bool n2,.slice a2 l2 c2] 33)).alloc (.cells #[.bool n3,.slice a3 l3 c3,.bool n4,.slice a4 l4 c4] 33))).alloc (Nat.le_refl _) (.cells #[.bool false,.slice none 0 0,.bool false,.slice none 0 0] 33)
 have HM0:=Lib.hid (hM.keep hA.drew (Nat.le_refl _))
 have HR0:Hid (Rb w (((w.alloc (.cells #[.bool n1,.slice a1 l1 c1,.bool n2,.slice a2 l2 c2] 33)).alloc (.cells #[.bool n3,.slice a3 l3 c3,.bool n4,.slice a4 l4 c4] 33)).alloc (.cells #[.bool false,.slice none 0 0,.bool false,.slice none 0 0] 33)).drew):=Lib.hid (B4.drew (Rb.start w (.cells #[.bool n1,.slice a1 l1 c1,.bool n2,.slice a2 l2 c2] 33) (.cells #[.bool n3,.slice a3 l3 c3,.bool n4,.slice a4 l4 c4] 33) 33))
 have t1:=fun (z:Int) (h:Ten 801 z)=>digs_ten h 1000 (by omega)
 have lp1:=digs_ten hp.1 1000 (by omega)
 have lp2:=digs_ten hp.2 1000 (by omega)
 have lq1:=digs_ten hq.1 1000 (by omega)
 have lq2:=digs_ten hq.2 1000 (by omega)
 have HL:=Lib.hid (And.intro lp1 (And.intro lp2 (And.intro lq1 lq2)))
 have HNE:=Lib.hid h0
 have HQ:Hid (Rat.divInt (pn*qn) (pd*qd)=0):=Lib.hid (by rw [h0,Rat.zero_divInt])
 have HLN:Hid ((dg (pn*qn).natAbs).length≤1000∧(dg (pd*qd).natAbs).length≤1000):=Lib.hid ⟨(t1 _ (by have h:=hp.1.mul hq.1;exact h.mono (by omega))),(t1 _ (by have h:=hp.2.mul hq.2;exact h.mono (by omega)))⟩
 clear t1 lp1 lp2 lq1 lq2 hp hq h0
 clear hM x1 x2 y1 y2 hA
 obtain ⟨k0_0,k0_1,k0_2,k0_3,k0_4,k0_5,k0_6,k0_7⟩:=HM0.out.cells
 go_enter Tryz.func47,Tryz.ntmps47
 go_wp2_with fail
 go_region_held3 (fun w'=>w'.cell? ⟨w.heap.size,0,none⟩=some (.bool n1)∧w'.cell? ⟨w.heap.size,1,none⟩=some (.slice a1 l1 c1)∧w'.cell? ⟨w.heap.size,2,none⟩=some (.bool n2)∧w'.cell? ⟨w.heap.size,3,none⟩=some (.slice a2 l2 c2)∧w'.cell? ⟨w.heap.size+1,0,none⟩=some (.bool n3)∧w'.cell? ⟨w.heap.size+1,1,none⟩=some (.slice a3 l3 c3)∧w'.cell? ⟨w.heap.size+1,2,none⟩=some (.bool n4)∧w'.cell? ⟨w.heap.size+1,3,none⟩=some (.slice a4 l4 c4)) (first | ((try dsimp only);(repeat' apply And.intro);all_goals with_reducible assumption) | ((try dsimp only);(repeat' apply And.intro);all_goals (repeat' (first | with_reducible assumption | refine cell_off4 ?_ ?_ | omega))) | go_keep) (first | (go_at_call 44;have hgd:=hM2;clear hgd;refine (rNew_zero _ _ (pn*qn) (pd*qd) 0 _ (by exact (hv1.keep hb2 (Nat.le_refl _))) (by exact hv2) HNE.out HQ).mono ?_;rintro e w3 ⟨v3,rfl,hv3,hb3⟩;obtain ⟨m1,b1,j1,d1,m2,b2,j2,d2,rfl,hz1,hz2⟩:=hv3;have hM3:=hM2.keep hb3 (Nat.le_refl _);have hR3:=hR2.keep hb3 (Nat.le_refl _);clear k2_0 k2_1 k2_2 k2_3 k2_4 k2_5 k2_6 k2_7;obtain ⟨k3_0,k3_1,k3_2,k3_3,k3_4,k3_5,k3_6,k3_7⟩:=hM3.cells;obtain ⟨e0,e1,e2,e3⟩:=B4.cell hR3;obtain ⟨f0,f1,f2,f3⟩:=B4.froz hR3) | (go_at_call 76;have hgd:=hM1;clear hgd;refine (rMul_any _ _ pd qd _ (by exact hM1.xd) (by exact hM1.yd) HL.out.2.1 HL.out.2.2.2).mono ?_;rintro e w2 ⟨v2,rfl,hv2,hb2⟩;obtain ⟨m2,b2,j2,d2,rfl⟩:=hv2.any;have hM2:=hM1.keep hb2 (Nat.le_refl _);have hR2:=hR1.keep hb2 (Nat.le_refl _);clear k1_0 k1_1 k1_2 k1_3 k1_4 k1_5 k1_6 k1_7;obtain ⟨k2_0,k2_1,k2_2,k2_3,k2_4,k2_5,k2_6,k2_7⟩:=hM2.cells) | (go_at_call 76;refine (rMul_any _ _ pn qn _ (by exact HM0.out.xn) (by exact HM0.out.yn) HL.out.1 HL.out.2.2.1).mono ?_;rintro e w1 ⟨v1,rfl,hv1,hb1⟩;obtain ⟨m1,b1,j1,d1,rfl⟩:=hv1.any;have hM1:=HM0.out.keep hb1 (Nat.le_refl _);have hR1:=HR0.out.keep hb1 (Nat.le_refl _);clear k0_0 k0_1 k0_2 k0_3 k0_4 k0_5 k0_6 k0_7;obtain ⟨k1_0,k1_1,k1_2,k1_3,k1_4,k1_5,k1_6,k1_7⟩:=hM1.cells))
 have HV:Hid (RRef w3 (.agg #[.bool m1,.slice b1 j1 d1,.bool m2,.slice b2 j2 d2]) 0):=Lib.hid ⟨_,_,_,_,_,_,_,_,rfl,hz1,hz2⟩
 have HR:=Lib.hid hR3
 have HW:=Lib.hid hM3.below
 clear hz1 hz2 hR3 hM3 k3_0 k3_1 k3_2 k3_3 k3_4 k3_5 k3_6 k3_7 e0 e1 e2 e3 f0 f1 f2 f3 HM0 HR0
 go_wp2
 obtain ⟨l0,l1',l2',l3'⟩:=(B4.put HR.out (.bool m1) (.slice b1 j1 d1) (.bool m2) (.slice b2 j2 d2)).cell
 refine bodyPost_ret (v := .agg #[.bool m1,.slice b1 j1 d1,.bool m2,.slice b2 j2 d2]) (by simp only [results,Tryz.results47];simp [go_sem,l0,l1',l2',l3']) rfl ?_
 exact RRPost.boxed HV.out HR.out HW.out (by omega) _ _ _ _
set_option maxRecDepth 100000 in
set_option maxHeartbeats 6400000 in
theorem rrAdd_zero (v1 v2:Value) (pn pd qn qd:Int) (w:World) (h1:RI2 w v1 pn pd) (h2:RI2 w v2 qn qd) (hp:Ten 400 pn∧Ten 400 pd) (hq:Ten 400 qn∧Ten 400 qd) (h0:pn*qd+qn*pd=0) :
 Calls Tryz.prog 40 #[v1,v2] w (RRPost 0 w):=by
 obtain ⟨n1,a1,l1,c1,n2,a2,l2,c2,rfl,x1,x2⟩:=h1
 obtain ⟨n3,a3,l3,c3,n4,a4,l4,c4,rfl,y1,y2⟩:=h2
 have hM:M2i w ((w.alloc (.cells #[.bool n1,.slice a1 l1 c1,.bool n2,.slice a2 l2 c2] 33)).alloc (.cells #[.bool n3,.slice a3 l3 c3,.bool n4,.slice a4 l4 c4] 33)) (.bool n1) (.slice a1 l1 c1) (.bool n2) (.slice a2 l2 c2) (.bool n3) (.slice a3 l3 c3) (.bool n4) (.slice a4 l4 c4) pn pd qn qd:=M2i.start w _ _ _ _ _ _ _ _ pn pd qn qd _ _ x1 x2 y1 y2
 have hA:=(Below.refl ((w.alloc (.cells #[.bool n1,.slice a1 l1 c1,.bool n2,.slice a2 l2 c2] 33)).alloc (.cells #[.bool n3,.slice a3 l3 c3,.bool n4,.slice a4 l4 c4] 33)).heap.size ((w.alloc (.cells #[.bool n1,.slice a1 l1 c1,.bool n2,.slice a2 l2 c2] 33)).alloc (.cells #[.bool n3,.slice a3 l3 c3,.bool n4,.slice a4 l4 c4] 33))).alloc (Nat.le_refl _) (.cells #[.bool false,.slice none 0 0,.bool false,.slice none 0 0] 33)
 have HM0:=Lib.hid (hM.keep hA.drew (Nat.le_refl _))
 have HR0:Hid (Rb w (((w.alloc (.cells #[.bool n1,.slice a1 l1 c1,.bool n2,.slice a2 l2 c2] 33)).alloc (.cells #[.bool n3,.slice a3 l3 c3,.bool n4,.slice a4 l4 c4] 33)).alloc (.cells #[.bool false,.slice none 0 0,.bool false,.slice none 0 0] 33)).drew):=Lib.hid (B4.drew (Rb.start w (.cells #[.bool n1,.slice a1 l1 c1,.bool n2,.slice a2 l2 c2] 33) (.cells #[.bool n3,.slice a3 l3 c3,.bool n4,.slice a4 l4 c4] 33) 33))
 have t1:=fun (z:Int) (h:Ten 801 z)=>digs_ten h 1000 (by omega)
 have lp1:=digs_ten hp.1 1000 (by omega)
 have lp2:=digs_ten hp.2 1000 (by omega)
 have lq1:=digs_ten hq.1 1000 (by omega)
 have lq2:=digs_ten hq.2 1000 (by omega)
 have HL:=Lib.hid (And.intro lp1 (And.intro lp2 (And.intro lq1 lq2)))
 have HNE:=Lib.hid h0
 have HQ:Hid (Rat.divInt (pn*qd+qn*pd) (pd*qd)=0):=Lib.hid (by rw [h0,Rat.zero_divInt])
 have HLN:Hid ((dg (pn*qd+qn*pd).natAbs).length≤1000∧(dg (pd*qd).natAbs).length≤1000):=Lib.hid ⟨(t1 _ (by have h:=(hp.1.mul hq.2).add (hq.1.mul hp.2);exact h.mono (by omega))),(t1 _ (by have h:=hp.2.mul hq.2;exact h.mono (by omega)))⟩
 have HLS:Hid ((dg (pn*qd).natAbs).length≤2000∧(dg (qn*pd).natAbs).length≤2000):=Lib.hid ⟨Nat.le_trans (t1 _ (by have h:=hp.1.mul hq.2;exact h.mono (by omega))) (by omega),Nat.le_trans (t1 _ (by have h:=hq.1.mul hp.2;exact h.mono (by omega))) (by omega)⟩
 clear t1 lp1 lp2 lq1 lq2 hp hq h0
 clear hM x1 x2 y1 y2 hA
 obtain ⟨k0_0,k0_1,k0_2,k0_3,k0_4,k0_5,k0_6,k0_7⟩:=HM0.out.cells
 go_enter Tryz.func40,Tryz.ntmps40
 go_wp2_with fail
 go_region_held3 (fun w'=>w'.cell? ⟨w.heap.size,0,none⟩=some (.bool n1)∧w'.cell? ⟨w.heap.size,1,none⟩=some (.slice a1 l1 c1)∧w'.cell? ⟨w.heap.size,2,none⟩=some (.bool n2)∧w'.cell? ⟨w.heap.size,3,none⟩=some (.slice a2 l2 c2)∧w'.cell? ⟨w.heap.size+1,0,none⟩=some (.bool n3)∧w'.cell? ⟨w.heap.size+1,1,none⟩=some (.slice a3 l3 c3)∧w'.cell? ⟨w.heap.size+1,2,none⟩=some (.bool n4)∧w'.cell? ⟨w.heap.size+1,3,none⟩=some (.slice a4 l4 c4)) (first | ((try dsimp only);(repeat' apply And.intro);all_goals with_reducible assumption) | ((try dsimp only);(repeat' apply And.intro);all_goals (repeat' (first | with_reducible assumption | refine cell_off4 ?_ ?_ | omega))) | go_keep) (first | (go_at_call 44;have hgd:=hM4;clear hgd;refine (rNew_zero _ _ (pn*qd+qn*pd) (pd*qd) 0 _ (by exact (hv3.keep hb4 (Nat.le_refl _))) (by exact hv4) HNE.out HQ).mono ?_;rintro e w5 ⟨v5,rfl,hv5,hb5⟩;obtain ⟨m1,b1,j1,d1,m2,b2,j2,d2,rfl,hz1,hz2⟩:=hv5;have hM5:=hM4.keep hb5 (Nat.le_refl _);have hR5:=hR4.keep hb5 (Nat.le_refl _);clear k4_0 k4_1 k4_2 k4_3 k4_4 k4_5 k4_6 k4_7;obtain ⟨k5_0,k5_1,k5_2,k5_3,k5_4,k5_5,k5_6,k5_7⟩:=hM5.cells;obtain ⟨e0,e1,e2,e3⟩:=B4.cell hR5;obtain ⟨f0,f1,f2,f3⟩:=B4.froz hR5) | (go_at_call 76;have hgd:=hM3;clear hgd;refine (rMul_any _ _ pd qd _ (by exact hM3.xd) (by exact hM3.yd) HL.out.2.1 HL.out.2.2.2).mono ?_;rintro e w4 ⟨v4,rfl,hv4,hb4⟩;obtain ⟨m4,b4,j4,d4,rfl⟩:=hv4.any;have hM4:=hM3.keep hb4 (Nat.le_refl _);have hR4:=hR3.keep hb4 (Nat.le_refl _);clear k3_0 k3_1 k3_2 k3_3 k3_4 k3_5 k3_6 k3_7;obtain ⟨k4_0,k4_1,k4_2,k4_3,k4_4,k4_5,k4_6,k4_7⟩:=hM4.cells) | (go_at_call 75;have hgd:=hM2;clear hgd;refine (rAdd_any _ _ (pn*qd) (qn*pd) _ (by exact (hv1.keep hb2 (Nat.le_refl _))) (by exact hv2) HLS.out.1 HLS.out.2).mono ?_;rintro e w3 ⟨v3,rfl,hv3,hb3⟩;obtain ⟨m3,b3,j3,d3,rfl⟩:=hv3.any;have hM3:=hM2.keep hb3 (Nat.le_refl _);have hR3:=hR2.keep hb3 (Nat.le_refl _);clear k2_0 k2_1 k2_2 k2_3 k2_4 k2_5 k2_6 k2_7;obtain ⟨k3_0,k3_1,k3_2,k3_3,k3_4,k3_5,k3_6,k3_7⟩:=hM3.cells) | (go_at_call 76;have hgd:=hM1;clear hgd;refine (rMul_any _ _ qn pd _ (by exact hM1.yn) (by exact hM1.xd) HL.out.2.2.1 HL.out.2.1).mono ?_;rintro e w2 ⟨v2,rfl,hv2,hb2⟩;obtain ⟨m2,b2,j2,d2,rfl⟩:=hv2.any;have hM2:=hM1.keep hb2 (Nat.le_refl _);have hR2:=hR1.keep hb2 (Nat.le_refl _);clear k1_0 k1_1 k1_2 k1_3 k1_4 k1_5 k1_6 k1_7;obtain ⟨k2_0,k2_1,k2_2,k2_3,k2_4,k2_5,k2_6,k2_7⟩:=hM2.cells) | (go_at_call 76;refine (rMul_any _ _ pn qd _ (by exact HM0.out.xn) (by exact HM0.out.yd) HL.out.1 HL.out.2.2.2).mono ?_;rintro e w1 ⟨v1,rfl,hv1,hb1⟩;obtain ⟨m1,b1,j1,d1,rfl⟩:=hv1.any;have hM1:=HM0.out.keep hb1 (Nat.le_refl _);have hR1:=HR0.out.keep hb1 (Nat.le_refl _);clear k0_0 k0_1 k0_2 k0_3 k0_4 k0_5 k0_6 k0_7;obtain ⟨k1_0,k1_1,k1_2,k1_3,k1_4,k1_5,k1_6,k1_7⟩:=hM1.cells))
 have HV:Hid (RRef w5 (.agg #[.bool m1,.slice b1 j1 d1,.bool m2,.slice b2 j2 d2]) 0):=Lib.hid ⟨_,_,_,_,_,_,_,_,rfl,hz1,hz2⟩
 have HR:=Lib.hid hR5
 have HW:=Lib.hid hM5.below
 clear hz1 hz2 hR5 hM5 k5_0 k5_1 k5_2 k5_3 k5_4 k5_5 k5_6 k5_7 e0 e1 e2 e3 f0 f1 f2 f3 HM0 HR0
 go_wp2
 obtain ⟨l0,l1',l2',l3'⟩:=(B4.put HR.out (.bool m1) (.slice b1 j1 d1) (.bool m2) (.slice b2 j2 d2)).cell
 refine bodyPost_ret (v := .agg #[.bool m1,.slice b1 j1 d1,.bool m2,.slice b2 j2 d2]) (by simp only [results,Tryz.results40];simp [go_sem,l0,l1',l2',l3']) rfl ?_
 exact RRPost.boxed HV.out HR.out HW.out (by omega) _ _ _ _
end Go.Proofs.YtkhdocdddicgpaaGreatDoor
set_option linter.unusedVariables false
set_option linter.unusedSimpArgs false
namespace Go.Proofs.YtkhdocdddicgpaaGreatDoor
open Go.RowKit Go.Maps _root_.Go.Proofs.YtkhdocdddicgpaaGreatDoor.Nm
theorem sum_all {K L:Nat} {p1 p2:Rat} {q1 q2:List Qm} (hKL:K+L+1≤400) (t1:RT K p1) (t2:RT L p2) (c1:∀ c,RT K (co q1 c)) (c2:∀ c,RT L (co q2 c)) (h1:Fo q1) (h2:Fo q2) :
 sumRes p1 p2 q1 q2=some (fun c=>co q1 c+co q2 c):=by
 unfold sumRes
 rw [if_pos ((t1.add t2).short hKL),acc_append,acc_fo h1]
 show acc (co q1) q2=_
 exact acc_some q2 (co q1) h2.2 fun p hp=>by
  rw [← co_mem q2 h2.2 p hp]
  exact ((c1 _).add (c2 _)).short hKL
theorem scl_all {K L:Nat} {p r:Rat} {q:List Qm} (hKL:K+L≤400) (t1:RT K p) (t2:RT L r) (c1:∀ c,RT K (co q c)) (h:Fo q):sclRes p r q=some (fun c=>co q c*r):=by
 have hall:∀ x∈q,rshort (x.2*r)=true:=fun x hx=>by
  rw [← co_mem q h.2 x hx]
  exact ((c1 _).mul t2).short hKL
 unfold sclRes
 have hok:scOk p r q=true:=by
  unfold scOk
  rw [(t1.mul t2).short hKL,Bool.true_and,List.all_eq_true]
  exact hall
 rw [if_pos hok,acc_some (scl r q) (fun _=>0) (scl_sorted r h.2) (fun x hx=>by
  obtain ⟨y,hy,rfl⟩:=List.mem_map.1 hx
  rw [Rat.zero_add]
  exact hall y hy)]
 congr 1
 funext c
 rw [Rat.zero_add,co_scl]
theorem formOf_cut {f:Int→Rat} {m:Nat} (h0:∀ c,(m:Int)≤c→f c=0) (hm:m≤2048):formOf f=formUp f m:=by
 have key:∀ d:Nat,formUp f (m+d)=formUp f m:=by
  intro d
  induction d with
  | zero=>rfl
  | succ d ih=>rw [← Nat.add_assoc,formUp_skip (h0 _ (by omega)),ih]
 have h:=key (2048-m)
 rw [show m+(2048-m)=2048 from by omega] at h
 exact h
theorem co_past {q:List Qm} (h:Fo q):∀ c,(colsOf q:Int)≤c→co q c=0:=fun c hc=>by
 obtain ⟨j,rfl⟩:∃ j:Nat,c=(j:Int):=⟨c.toNat,(Int.toNat_of_nonneg (by omega)).symm⟩
 exact co_beyond (fun p hp=>(h.1 p hp).1.1) (by omega)
theorem fo_cols {q:List Qm} (h:Fo q):colsOf q≤2048:=colsUp_bound q 0 (by omega) (fun p hp=>(h.1 p hp).1)
theorem ref_nil (W:World):Ref W (.agg #[.bool false,.slice none 0 0]) 0:=⟨.slice none 0 0,rfl,by
 rw [show dg (0:Int).natAbs=[] from by decide +kernel]
 exact ⟨none,0,rfl,Nat.le_refl _,by simp [Cap],fun h=>absurd rfl h⟩⟩
theorem ri_nil (W:World):RI2 W (.agg #[.bool false,.slice none 0 0,.bool false,.slice none 0 0]) 0 0:=⟨_,_,_,_,_,_,_,_,rfl,ref_nil W,ref_nil W⟩
theorem RRef.ri {W:World} {v:Value} {q:Rat} (h:RRef W v q):RI2 W v q.num (q.den:Int):=h
def zf:Int→Rat:=fun _=>0
theorem ten0:Ten 400 0:=⟨0,Nat.zero_le _,by decide⟩
theorem add_nil {v1 v2:Value} {w:World} (h:(v1 = .agg #[.bool false,.slice none 0 0,.bool false,.slice none 0 0]∧(v2 = .agg #[.bool false,.slice none 0 0,.bool false,.slice none 0 0]∨∃ q,RRef w v2 q∧RT 400 q))∨(v2 = .agg #[.bool false,.slice none 0 0,.bool false,.slice none 0 0]∧∃ q,RRef w v1 q∧RT 400 q)) :
 ∀ W,Below w.heap.size w W→Calls Tryz.prog 40 #[v1,v2] W (RRPost 0 W):=by
 intro W hb
 rcases h with ⟨rfl,rfl | ⟨q,hq,ht⟩⟩ | ⟨rfl,q,hq,ht⟩
 · exact rrAdd_zero _ _ 0 0 0 0 W (ri_nil W) (ri_nil W) ⟨ten0,ten0⟩ ⟨ten0,ten0⟩ (by omega)
 · exact rrAdd_zero _ _ 0 0 q.num q.den W (ri_nil W) ((hq.keep hb (Nat.le_refl _)).ri) ⟨ten0,ten0⟩ ht (by rw [Int.zero_mul,Int.mul_zero];rfl)
 · exact rrAdd_zero _ _ q.num q.den 0 0 W ((hq.keep hb (Nat.le_refl _)).ri) (ri_nil W) ht ⟨ten0,ten0⟩ (by rw [Int.zero_mul,Int.mul_zero];rfl)
theorem mul_nil {v2:Value} {w:World} {q:Rat} (hq:RRef w v2 q) (ht:RT 400 q) :
 ∀ W,Below w.heap.size w W→Calls Tryz.prog 47 #[.agg #[.bool false,.slice none 0 0,.bool false,.slice none 0 0],v2] W (RRPost 0 W):=fun W hb =>
 rrMul_zero _ _ 0 0 q.num q.den W (ri_nil W) ((hq.keep hb (Nat.le_refl _)).ri) ⟨ten0,ten0⟩ ht (Int.zero_mul _)
end Go.Proofs.YtkhdocdddicgpaaGreatDoor
