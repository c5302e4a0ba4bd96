/- Part 7: what the law's walk leans on. -/
import Derived.Test.YtkhdocdddicgpaaGreatDoorYt6
import Derived.Lib.ItoaNum
set_option linter.unusedVariables false
set_option linter.unusedSimpArgs false
namespace Go.Proofs.YtkhdocdddicgpaaGreatDoor
open Go.RowKit _root_.Go.Proofs.YtkhdocdddicgpaaGreatDoor.Nm
theorem tdiv_sz (a b:Int):sz (isNeg a != isNeg b) (a.natAbs/b.natAbs)=a.tdiv b:=by
 obtain ⟨m,ha⟩:=Int.eq_nat_or_neg a
 obtain ⟨n,hb⟩:=Int.eq_nat_or_neg b
 rcases Nat.eq_zero_or_pos m with hm | hm
 · subst hm
   have:a=0:=by omega
   subst this
   simp [sz]
 · rcases Nat.eq_zero_or_pos n with hn | hn
   · subst hn
     have:b=0:=by omega
     subst this
     simp [sz]
   · rcases ha with rfl | rfl <;> rcases hb with rfl | rfl
     · rw [show isNeg (m:Int)=false from by simp [isNeg],show isNeg (n:Int)=false from by simp [isNeg]]
       simp [sz]
     · rw [show isNeg (m:Int)=false from by simp [isNeg],show isNeg (-(n:Int))=true from by simp [isNeg];omega]
       simp [sz,Int.tdiv_neg]
     · rw [show isNeg (-(m:Int))=true from by simp [isNeg];omega,show isNeg (n:Int)=false from by simp [isNeg]]
       simp [sz,Int.neg_tdiv]
     · rw [show isNeg (-(m:Int))=true from by simp [isNeg];omega,show isNeg (-(n:Int))=true from by simp [isNeg];omega]
       simp [sz,Int.neg_tdiv,Int.tdiv_neg]
theorem tmod_sz (a b:Int):sz (isNeg a) (a.natAbs%b.natAbs)=a.tmod b:=by
 obtain ⟨m,ha⟩:=Int.eq_nat_or_neg a
 obtain ⟨n,hb⟩:=Int.eq_nat_or_neg b
 rcases Nat.eq_zero_or_pos m with hm | hm
 · subst hm
   have:a=0:=by omega
   subst this
   simp [sz]
 · rcases ha with rfl | rfl <;> rcases hb with rfl | rfl
   · rw [show isNeg (m:Int)=false from by simp [isNeg]];simp [sz];rw [Int.tmod_eq_emod_of_nonneg (by omega)]
   · rw [show isNeg (m:Int)=false from by simp [isNeg]];simp [sz,Int.tmod_neg];rw [Int.tmod_eq_emod_of_nonneg (by omega)]
   · rw [show isNeg (-(m:Int))=true from by simp [isNeg];omega];simp [sz,Int.neg_tmod];rw [Int.tmod_eq_emod_of_nonneg (by omega)]
   · rw [show isNeg (-(m:Int))=true from by simp [isNeg];omega];simp [sz,Int.neg_tmod,Int.tmod_neg];rw [Int.tmod_eq_emod_of_nonneg (by omega)]
theorem Bs.six4 {W:World} {g1 g2 g3 g4:Nat} {x0 x1 y0 y1 z0 z1 u0 u1:Value} (h:Bs W [(g1,x0,x1),(g2,y0,y1),(g3,z0,z1),(g4,u0,u1)]) :
 W.cell? ⟨g1,0,none⟩=some x0∧W.cell? ⟨g1,1,none⟩=some x1∧W.cell? ⟨g2,0,none⟩=some y0∧W.cell? ⟨g2,1,none⟩=some y1 ∧
 W.cell? ⟨g3,0,none⟩=some z0∧W.cell? ⟨g3,1,none⟩=some z1∧W.cell? ⟨g4,0,none⟩=some u0∧W.cell? ⟨g4,1,none⟩=some u1 ∧
 W.frozen? ⟨g3,0,none⟩=false∧W.frozen? ⟨g3,1,none⟩=false∧W.frozen? ⟨g4,0,none⟩=false∧W.frozen? ⟨g4,1,none⟩=false :=
 ⟨h.head.cell.1,h.head.cell.2.1,h.tail.head.cell.1,h.tail.head.cell.2.1,h.tail.tail.head.cell.1,h.tail.tail.head.cell.2.1,h.tail.tail.tail.head.cell.1,h.tail.tail.tail.head.cell.2.1,
  h.tail.tail.head.cell.2.2.1,h.tail.tail.head.cell.2.2.2,h.tail.tail.tail.head.cell.2.2.1,h.tail.tail.tail.head.cell.2.2.2⟩
theorem quo_form {q r:Nat} {w w':World} {e:Ending} (h:QuoPost q r w e w'):∃ a1 m1 c1 a2 m2 c2,e = .returned (.tuple #[.slice a1 m1 c1,.slice a2 m2 c2])∧IsNat w' (.slice a1 m1 c1) q∧Fr w.heap.size (.slice a1 m1 c1)∧IsNat w' (.slice a2 m2 c2) r∧Fr w.heap.size (.slice a2 m2 c2)∧Below w.heap.size w w':=by
 obtain ⟨v1,v2,rfl,h1,h2,h3,h4,h5⟩:=h
 obtain ⟨a1,m1,c1,rfl⟩:=h1.slice
 obtain ⟨a2,m2,c2,rfl⟩:=h3.slice
 exact ⟨_,_,_,_,_,_,rfl,h1,h2,h3,h4,h5⟩
set_option maxRecDepth 100000 in
set_option maxHeartbeats 6400000 in
theorem divide_long (P:Nat→Prop) (s1 s2:Int) (p1 p2:Option Addr) (a b:Int) (w:World) (hP:∀ k,w.heap.size≤k→P k) (ha:IsInt P w (.agg #[.int .i64 s1,.pointer p1]) a) (hb:IsInt P w (.agg #[.int .i64 s2,.pointer p2]) b)
 (hp:(p1.isNone&&p2.isNone)=false) (hb0:b≠0) (la:(ds 1000000000 a.natAbs).length≤900) :
 Calls Tryz.prog 201 #[.agg #[.int .i64 s1,.pointer p1],.agg #[.int .i64 s2,.pointer p2]] w (DivPost P (a.tdiv b) (a.tmod b) w):=by
 have HA:=Lib.hid ha
 have HB:=Lib.hid hb
 have HP:=Lib.hid hP
 have hbn:0<b.natAbs:=by omega
 have HV1:=tdiv_sz a b
 have HV2:=tmod_sz a b
 obtain ⟨na,hna⟩:∃ na,isNeg a=na:=⟨_,rfl⟩
 obtain ⟨nb,hnb⟩:∃ nb,isNeg b=nb:=⟨_,rfl⟩
 rw [hna,hnb] at HV1
 rw [hna] at HV2
 have HV1:=Lib.hid HV1
 have HV2:=Lib.hid HV2
 have HNA:=Lib.hid hna
 have HNB:=Lib.hid hnb
 have hB0:=Bs.four w (.int .i64 s1) (.pointer p1) (.int .i64 s2) (.pointer p2) (.int .i64 0) (.pointer none) (.int .i64 0) (.pointer none) 107 107 107 107
 have HW0:=Lib.hid (boxes4 w (.cells #[.int .i64 s1,.pointer p1] 107) (.cells #[.int .i64 s2,.pointer p2] 107) (.cells #[.int .i64 0,.pointer none] 107) (.cells #[.int .i64 0,.pointer none] 107))
 clear ha hb hP hna hnb hb0
 cases h1:p1.isNone <;> cases h2:p2.isNone
 case true.true=>rw [h1,h2] at hp;cases hp
 all_goals
  clear hp
  have hz0:w.heap.size+4≤((((w.alloc (.cells #[.int .i64 s1,.pointer p1] 107)).alloc (.cells #[.int .i64 s2,.pointer p2] 107)).alloc (.cells #[.int .i64 0,.pointer none] 107)).alloc (.cells #[.int .i64 0,.pointer none] 107)).heap.size:=by simp
  have HAQ:=Lib.hid (HA.out.bar (m:=4) HW0.out.drew)
  go_enter Tryz.func201,Tryz.ntmps201
  go_wp2_with fail
  obtain ⟨c0,c1,c2,c3,c4,c5,c6,c7,c8,c9,c10,c11⟩:=hB0.drew.six4
  go_region_held3 (fun w'=>w'.cell? ⟨w.heap.size,0,none⟩=some (.int .i64 s1)∧w'.cell? ⟨w.heap.size,1,none⟩=some (.pointer p1)∧w'.cell? ⟨w.heap.size+1,0,none⟩=some (.int .i64 s2)∧w'.cell? ⟨w.heap.size+1,1,none⟩=some (.pointer p2)) (first | ((try dsimp only);(repeat' apply And.intro);all_goals (first | (rw [cell_set2 _ _ _ _ _ _ (by omega),cell_set2 _ _ _ _ _ _ (by omega)];with_reducible assumption) | (rw [cell_set2 _ _ _ _ _ _ (by omega)];with_reducible assumption) | with_reducible assumption)) | go_keep) (first | (go_at_call 133;have hgd:=hw1;clear hgd;refine (limbs_any (Bar 4 P w) _ b _ (by intro k hk;exact Bar.new HP.out k (Nat.le_trans hz1 hk)) (by exact HB.out.bar hw1)).mono ?_;rintro e w2 ⟨v2,rfl,hv2,hi2,hb2⟩;have hB2:=hB1.next hb2 (Nat.le_refl _);have hw2:=hw1.trans (hb2.mono (Nat.le_trans (Nat.le_add_right _ 4) hz1));have hz2:=Nat.le_trans hz1 hb2.size;clear d0 d1 d2 d3 d4 d5 d6 d7 d8 d9 d10 d11;obtain ⟨e0,e1,e2,e3,e4,e5,e6,e7,e8,e9,e10,e11⟩:=hB2.six4;obtain ⟨a2,m2,k2,rfl⟩:=hv2.slice) | (go_at_call 133;refine (limbs_any (Bar 4 P w) _ a _ (by intro k hk;exact Bar.new HP.out k (Nat.le_trans hz0 hk)) (by exact HAQ.out)).mono ?_;rintro e w1 ⟨v1,rfl,hv1,hi1,hb1⟩;have hB1:=hB0.drew.next hb1 (Nat.le_refl _);have hw1:=HW0.out.drew.trans (hb1.mono HW0.out.size);have hz1:=Nat.le_trans hz0 hb1.size;clear c0 c1 c2 c3 c4 c5 c6 c7 c8 c9 c10 c11;obtain ⟨d0,d1,d2,d3,d4,d5,d6,d7,d8,d9,d10,d11⟩:=hB1.six4;obtain ⟨a1,m1,k1,rfl⟩:=hv1.slice) | (go_at_call 190;refine (divide_nat _ _ a.natAbs b.natAbs _ (by exact hv1.kept hi1 (.all hb2)) hv2 hbn la).mono ?_;rintro e w3 hq3;obtain ⟨a3,m3,k3,a4,m4,k4,rfl,hv3,hf3,hv4,hf4,hb3⟩:=quo_form hq3;have hB3:=hB2.next hb3 (Nat.le_refl _);have hw3:=hw2.trans (hb3.mono (Nat.le_trans (Nat.le_add_right _ 4) hz2));have hz3:=Nat.le_trans hz2 hb3.size;clear e0 e1 e2 e3 e4 e5 e6 e7 e8 e9 e10 e11;obtain ⟨f0,f1,f2,f3,f4,f5,f6,f7,f8,f9,f10,f11⟩:=hB3.six4))
  have HX3:=Lib.hid (show IsNat w3 (.slice a3 m3 k3) (a.natAbs/b.natAbs)∧In (Bar 4 P w) (.slice a3 m3 k3)∧IsNat w3 (.slice a4 m4 k4) (a.natAbs%b.natAbs)∧In (Bar 4 P w) (.slice a4 m4 k4) from ⟨hv3,In.fresh hf3 (fun k hk=>Bar.new HP.out k (Nat.le_trans hz2 hk)),hv4,In.fresh hf4 (fun k hk=>Bar.new HP.out k (Nat.le_trans hz2 hk))⟩)
  clear hq3 hv1 hv2 hv3 hv4 hi1 hi2 hf3 hf4 hb1 hb2 hb3 hB1 hB2 hw1 hw2 hz0 hz1 hz2 HAQ
  clear f0 f1 f2 f3 f4 f5 f6 f7 f8 f9 f10 f11
  obtain ⟨c0,c1,c2,c3,c4,c5,c6,c7,c8,c9,c10,c11⟩:=hB3.drew.six4
  go_wp2_with fail
  go_region_held3 (fun w'=>w'.cell? ⟨w.heap.size,0,none⟩=some (.int .i64 s1)∧w'.cell? ⟨w.heap.size,1,none⟩=some (.pointer p1)∧w'.cell? ⟨w.heap.size+1,0,none⟩=some (.int .i64 s2)∧w'.cell? ⟨w.heap.size+1,1,none⟩=some (.pointer p2)) (first | ((try dsimp only);(repeat' apply And.intro);all_goals (first | (rw [cell_set2 _ _ _ _ _ _ (by omega),cell_set2 _ _ _ _ _ _ (by omega)];with_reducible assumption) | (rw [cell_set2 _ _ _ _ _ _ (by omega)];with_reducible assumption) | with_reducible assumption)) | go_keep) (first | (go_at_call 130;have hgd:=hw7;clear hgd;refine (signed_any (Bar 4 P w) na _ _ _ (by intro k hk;exact Bar.new HP.out k (Nat.le_trans hz7 hk)) (by exact ((((HX3.out.2.2.1.kept HX3.out.2.2.2 (.drew _ _)).kept HX3.out.2.2.2 (.all hb4)).kept HX3.out.2.2.2 (.all hb5)).kept HX3.out.2.2.2 (.all hb6)).kept HX3.out.2.2.2 (.all hb7)) HX3.out.2.2.2).mono ?_;rintro e w8 ⟨v8,rfl,hv8,hb8⟩;have hB8:=hB7.next hb8 (Nat.le_refl _);have hw8:=hw7.trans (hb8.mono (Nat.le_trans (Nat.le_add_right _ 4) hz7));clear g0 g1 g2 g3 g4 g5 g6 g7 g8 g9 g10 g11;obtain ⟨l0,l1,l2,l3,l4,l5,l6,l7,l8,l9,l10,l11⟩:=hB8.six4;obtain ⟨s8,p8,rfl⟩:=hv8.form) | (go_at_call 131;have hgd:=hw6;clear hgd;refine (isNegative_any (Bar 4 P w) _ a _ (by exact HA.out.bar hw6)).mono ?_;rintro e w7 ⟨rfl,hb7⟩;rw [HNA.out];have hB7:=hB6.next hb7 (Nat.le_refl _);have hw7:=hw6.trans (hb7.mono (Nat.le_trans (Nat.le_add_right _ 4) hz6));have hz7:=Nat.le_trans hz6 hb7.size;clear f0 f1 f2 f3 f4 f5 f6 f7 f8 f9 f10 f11;obtain ⟨g0,g1,g2,g3,g4,g5,g6,g7,g8,g9,g10,g11⟩:=hB7.six4) | (go_at_call 130;refine (signed_any (Bar 4 P w) (na != nb) _ _ _ (by intro k hk;exact Bar.new HP.out k (Nat.le_trans hz5 hk)) (by exact ((HX3.out.1.kept HX3.out.2.1 (.drew _ _)).kept HX3.out.2.1 (.all hb4)).kept HX3.out.2.1 (.all hb5)) HX3.out.2.1).mono ?_;rintro e w6 ⟨v6,rfl,hv6,hb6⟩;have hB6:=hB5.next hb6 (Nat.le_refl _);have hw6:=hw5.trans (hb6.mono (Nat.le_trans (Nat.le_add_right _ 4) hz5));have hz6:=Nat.le_trans hz5 hb6.size;clear e0 e1 e2 e3 e4 e5 e6 e7 e8 e9 e10 e11;obtain ⟨f0,f1,f2,f3,f4,f5,f6,f7,f8,f9,f10,f11⟩:=hB6.six4;obtain ⟨s6,p6,rfl⟩:=hv6.form) | (go_at_call 131;have hgd:=hw4;clear hgd;refine (isNegative_any (Bar 4 P w) _ b _ (by exact HB.out.bar hw4)).mono ?_;rintro e w5 ⟨rfl,hb5⟩;rw [HNB.out];have hB5:=hB4.next hb5 (Nat.le_refl _);have hw5:=hw4.trans (hb5.mono (Nat.le_trans (Nat.le_add_right _ 4) hz4));have hz5:=Nat.le_trans hz4 hb5.size;clear d0 d1 d2 d3 d4 d5 d6 d7 d8 d9 d10 d11;obtain ⟨e0,e1,e2,e3,e4,e5,e6,e7,e8,e9,e10,e11⟩:=hB5.six4) | (go_at_call 131;refine (isNegative_any (Bar 4 P w) _ a _ (by exact HA.out.bar hw3.drew)).mono ?_;rintro e w4 ⟨rfl,hb4⟩;rw [HNA.out];have hB4:=hB3.drew.next hb4 (Nat.le_refl _);have hw4:=hw3.drew.trans (hb4.mono (Nat.le_trans (Nat.le_add_right _ 4) hz3));have hz4:=Nat.le_trans hz3 hb4.size;clear c0 c1 c2 c3 c4 c5 c6 c7 c8 c9 c10 c11;obtain ⟨d0,d1,d2,d3,d4,d5,d6,d7,d8,d9,d10,d11⟩:=hB4.six4))
  rw [HV1.out] at hv6
  rw [HV2.out] at hv8
  have HQ:=Lib.hid ((hv6.kept (.all hb7)).kept (.all hb8))
  have HR:=Lib.hid hv8
  have HW:=Lib.hid hw8
  clear hv6 hv8 hb4 hb5 hb6 hb7 hb8 hB3 hB4 hB5 hB6 hB7 hB8 hw3 hw4 hw5 hw6 hw7 hw8 l0 l1 l2 l3
  go_wp2
  refine bodyPost_ret (v := .tuple #[.agg #[.int .i64 s6,.pointer p6],.agg #[.int .i64 s8,.pointer p8]]) (by simp [results,Tryz.results201,go_sem,l4,l5,l6,l7]) rfl ?_
  obtain ⟨e1,e2,e3⟩:=four_in (x0 := .int .i64 s6) (x1 := .pointer p6) (y0 := .int .i64 s8) (y1 := .pointer p8) HQ.out HR.out HW.out
  exact ⟨s6,p6,s8,p8,rfl,e1,e2,e3⟩
theorem divIs (a b:Int) (hb0:b≠0) (la:(ds 1000000000 a.natAbs).length≤900):DivIs a b:=by
 intro P x y w hP hx hy
 obtain ⟨s1,p1,rfl⟩:=hx.form
 obtain ⟨s2,p2,rfl⟩:=hy.form
 cases hp:(p1.isNone&&p2.isNone)
 · exact divide_long P s1 s2 p1 p2 a b w hP hx hy hp hb0 la
 · obtain ⟨h1,h2⟩:=Bool.and_eq_true_iff.1 hp
   rcases hx.ptr with ⟨k1,k2,k3⟩ | ⟨k1,g,k2⟩
   · rcases hy.ptr with ⟨k4,k5,k6⟩ | ⟨k4,g,k5⟩
     · subst k2 k3 k5 k6
       exact divide_short P _ _ k1 k4 hb0 w
     · rw [k5] at h2;cases h2
   · rw [k2] at h1;cases h1
end Go.Proofs.YtkhdocdddicgpaaGreatDoor
namespace Go.Proofs.YtkhdocdddicgpaaGreatDoor.Nm
theorem lead_pos (y T u v c al be:Int) (hT:0≤T) (hu:0≤u) (hv:0≤v) (hvc:v≤c) (hcy:c≤y) (hbe:0≤be) (hal:al≤T):0≤y*T+u*be-v*al:=by
 have h1:0≤u*be:=Int.mul_nonneg hu hbe
 have h2:v*al≤v*T:=Int.mul_le_mul_of_nonneg_left hal hv
 have h3:v*T≤y*T:=Int.mul_le_mul_of_nonneg_right (Int.le_trans hvc hcy) hT
 omega
structure Cof (X Y x y s p q p' q':Int):Prop where
 sign:s=1∨s = -1
 det:p*q'-q*p'=s
 hx:x=s*(p*X-q*Y)
 hy:y=s*(q'*Y-p'*X)
 p0:0≤p
 q0:0≤q
 p0':0≤p'
 q1':1≤q'
 pq':p'≤q'
 qq:q≤q'
 pq:p≤q'
 pp:p+p'≤q+q'
 one:1≤p+p'
 later:q=0∨(1≤p'∧p≤q)
 whole:q'*x+q*y=X
 y0:0≤y
 xy:y≤x
theorem Cof.start (X Y:Int) (h0:0≤Y) (h:Y≤X):Cof X Y X Y 1 1 0 0 1 :=
 ⟨.inl rfl,by omega,by omega,by omega,by omega,by omega,by omega,by omega,by omega,by omega,by omega,by omega,by omega,.inl rfl,by omega,h0,h⟩
theorem Cof.step {X Y x y s p q p' q':Int} (h:Cof X Y x y s p q p' q') (hy:0<y) :
 Cof X Y y (x%y) (-s) p' q' (p+(x/y)*p') (q+(x/y)*q')∧0≤(x/y)*q'∧(x/y)*q'≤X∧0≤(x/y)*p'∧(x/y)*p'≤X∧q+(x/y)*q'≤X∧p+(x/y)*p'≤X∧1≤x/y:=by
 have hQ:1≤x/y:=(Int.le_ediv_iff_mul_le hy).2 (by have:=h.xy;omega)
 have hm:x%y=x-y*(x/y):=by have:=Int.mul_ediv_add_emod x y;omega
 have hm0:=Int.emod_nonneg x (b:=y) (by omega)
 have hm1:=Int.emod_lt_of_pos x hy
 generalize x/y=Q at *
 generalize x%y=r at *
 obtain ⟨h1,h2,h3,h4,h5,h6,h7,h8,h9,h10,h11,h12,h13,h14,h15,h16,h17⟩:=h
 have a1:1*q'≤Q*q':=Int.mul_le_mul_of_nonneg_right hQ (by omega)
 have a2:1*p'≤Q*p':=Int.mul_le_mul_of_nonneg_right hQ (by omega)
 have a3:(Q-1)*p'≤(Q-1)*q':=Int.mul_le_mul_of_nonneg_left h9 (by omega)
 have e1:(Q-1)*p'=Q*p'-p':=by grind
 have e2:(Q-1)*q'=Q*q'-q':=by grind
 have w:(q+Q*q')*y+q'*r=X:=by grind
 have b1:(q+Q*q')*1≤(q+Q*q')*y:=Int.mul_le_mul_of_nonneg_left (by omega) (by omega)
 have b2:0≤q'*r:=Int.mul_nonneg (by omega) hm0
 refine ⟨⟨by omega,by grind,by grind,?_,h7,by omega,by omega,by omega,by omega,by omega,by omega,by omega,by omega,.inr ⟨by omega,h9⟩,w,hm0,by omega⟩,by omega,by omega,by omega,by omega,by omega,by omega,hQ⟩
 subst h4 h3
 rcases h1 with rfl | rfl <;> grind
theorem Cof.short {X Y x y s p q p' q':Int} (h:Cof X Y x y s p q p' q') (c1:q'≤y) (c2:q+q'≤x-y) (hX:X<1000000000000000000):q'<1000000000∧p'<1000000000∧q<1000000000∧p<1000000000:=by
 obtain ⟨h1,h2,h3,h4,h5,h6,h7,h8,h9,h10,h11,h12,h13,h14,h15,h16,h17⟩:=h
 have a1:q'*(2*q')≤q'*x:=Int.mul_le_mul_of_nonneg_left (by omega) (by omega)
 have a2:0≤q*y:=Int.mul_nonneg h6 h16
 have a3:q'<1000000000:=by
  rcases Int.lt_or_le q' 1000000000 with h | h
  · exact h
  · have:1000000000*(2*1000000000)≤q'*(2*q'):=Int.mul_le_mul h (by omega) (by omega) (by omega)
    omega
 omega
theorem Cof.lehmer {X Y x y s p q p' q':Int} (h:Cof X Y x y s p q p' q') (c1:q'≤y) (c2:q+q'≤x-y) (hq:q≠0) (T al be a b:Int) (hT:0<T) (ha0:0≤al) (ha1:al<T) (hb0:0≤be) (hb1:be<T)
 (ha:a=X*T+al) (hb:b=Y*T+be) (hb2:0<b) :
 ∃ R R':Int,R=s*p*a + -(s*q)*b∧R' = -(s*p')*a+s*q'*b∧0≤R'∧R'≤R∧R≤a∧R+R'<a+b∧a=q'*R+q*R'∧b=p'*R+p*R':=by
 obtain ⟨h1,h2,h3,h4,h5,h6,h7,h8,h9,h10,h11,h12,h13,h14,h15,h16,h17⟩:=h
 have hq1:1≤p':=by omega
 refine ⟨_,_,rfl,rfl,?_⟩
 have k1:0 ≤ -(s*p')*a+s*q'*b:=by
  rcases h1 with rfl | rfl
  · have:=lead_pos y T q' p' q' al be (by omega) (by omega) h7 h9 c1 hb0 (by omega)
    have e : -(1*p')*a+1*q'*b=y*T+q'*be-p'*al:=by grind
    omega
  · have:=lead_pos y T p' q' q' be al (by omega) h7 (by omega) (by omega) c1 ha0 (by omega)
    have e : -(-1*p')*a + -1*q'*b=y*T+p'*al-q'*be:=by grind
    omega
 have k2 : -(s*p')*a+s*q'*b≤s*p*a + -(s*q)*b:=by
  rcases h1 with rfl | rfl
  · have:=lead_pos (x-y) T (p+p') (q+q') (q+q') be al (by omega) (by omega) (by omega) (by omega) c2 ha0 (by omega)
    have e:1*p*a + -(1*q)*b-(-(1*p')*a+1*q'*b)=(x-y)*T+(p+p')*al-(q+q')*be:=by grind
    omega
  · have:=lead_pos (x-y) T (q+q') (p+p') (q+q') al be (by omega) (by omega) (by omega) (by omega) c2 hb0 (by omega)
    have e : -1*p*a + -(-1*q)*b-(-(-1*p')*a + -1*q'*b)=(x-y)*T+(q+q')*be-(p+p')*al:=by grind
    omega
 have k3:a=q'*(s*p*a + -(s*q)*b)+q*(-(s*p')*a+s*q'*b):=by rcases h1 with rfl | rfl <;> grind
 have k4:b=p'*(s*p*a + -(s*q)*b)+p*(-(s*p')*a+s*q'*b):=by rcases h1 with rfl | rfl <;> grind
 generalize s*p*a + -(s*q)*b=R at *
 generalize -(s*p')*a+s*q'*b=R' at *
 have m1:1*R≤q'*R:=Int.mul_le_mul_of_nonneg_right h8 (by omega)
 have m2:1*R'≤q*R':=Int.mul_le_mul_of_nonneg_right (by omega) k1
 have m3:1*R≤p'*R:=Int.mul_le_mul_of_nonneg_right hq1 (by omega)
 have m4:0≤p*R':=Int.mul_nonneg h5 k1
 refine ⟨k1,k2,by omega,?_,k3,k4⟩
 by_cases hR:R=0
 · subst hR
   have:R'=0:=by omega
   subst this
   simp at k4
   omega
 · omega
theorem gcd_of (a b R R' u v u' v' c d c' d':Int) (h1:R=u*a+v*b) (h2:R'=u'*a+v'*b) (h3:a=c*R+d*R') (h4:b=c'*R+d'*R'):Int.gcd R R'=Int.gcd a b:=by
 apply Nat.dvd_antisymm
 · refine Int.dvd_gcd ?_ ?_
   · rw [h3];exact Int.dvd_add (Int.dvd_mul_of_dvd_right (Int.gcd_dvd_left R R')) (Int.dvd_mul_of_dvd_right (Int.gcd_dvd_right R R'))
   · rw [h4];exact Int.dvd_add (Int.dvd_mul_of_dvd_right (Int.gcd_dvd_left R R')) (Int.dvd_mul_of_dvd_right (Int.gcd_dvd_right R R'))
 · refine Int.dvd_gcd ?_ ?_
   · rw [h1];exact Int.dvd_add (Int.dvd_mul_of_dvd_right (Int.gcd_dvd_left a b)) (Int.dvd_mul_of_dvd_right (Int.gcd_dvd_right a b))
   · rw [h2];exact Int.dvd_add (Int.dvd_mul_of_dvd_right (Int.gcd_dvd_left a b)) (Int.dvd_mul_of_dvd_right (Int.gcd_dvd_right a b))
end Go.Proofs.YtkhdocdddicgpaaGreatDoor.Nm
