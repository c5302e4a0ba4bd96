/- Part 29: what the law's walk leans on. -/
import Derived.Test.YtkhdocdddicgpaaGreatDoorYa27
import Derived.Test.YtkhdocdddicgpaaGreatDoorYa28
set_option linter.unusedVariables false
set_option linter.unusedSimpArgs false
namespace Go.Proofs.YtkhdocdddicgpaaGreatDoor
open Go.RowKit Go.Maps _root_.Go.Proofs.YtkhdocdddicgpaaGreatDoor.Nm
set_option maxRecDepth 100000 in
set_option maxHeartbeats 6400000 in
theorem adds_out1 (x0:Option Addr) (n0 c0:Nat) (s0:ByteArray) (l0:List Tm) (x1:Option Addr) (n1 c1:Nat) (s1:ByteArray) (l1:List Tm) (yb:ByteArray) (w:World) (htab:Tab w) (he:Ers w)
 (ha0:TsAt w (.slice x0 n0 c0) l0) (hn0:x0=none→c0=0) (hm0:n0≤9223372036854775807) (ha1:TsAt w (.slice x1 n1 c1) l1) (hn1:x1=none→c1=0) (hm1:n1≤9223372036854775807) (hA:lightB s0 l0=false) :
 Calls Tryz.prog 3 #[.agg #[.slice x0 n0 c0,.string s0],.agg #[.slice x1 n1 c1,.string s1],.string yb] w fun e w'=>e = .returned (.bool true)∧Below w.heap.size w w':=by
 have hnil:SsAt w (.slice none 0 0) []:=⟨_,_,_,rfl,rfl,.inl rfl⟩
 have HL0:=Lib.hid (LV.start (s0:=s0) (s1:=s1) w ha0 ha1 hnil htab he)
 clear ha0 ha1 hnil htab he
 obtain ⟨a0,a1,a2,a3⟩:=HL0.out.a.cell
 obtain ⟨b0,b1,b2,b3⟩:=HL0.out.b.cell
 go_enter Tryz.func3,Tryz.ntmps3
 go_wp2_with fail
 refine (Light_any s0 x0 n0 c0 l0 false _ HL0.out.fa hm0 (Lib.hid hA)).mono ?_
 rintro e w1 ⟨rfl,hb⟩
 have HL1:=Lib.hid (HL0.out.keep hb)
 clear hb a0 a1 a2 a3 b0 b1 b2 b3
 obtain ⟨a0,a1,a2,a3⟩:=HL1.out.a.cell
 obtain ⟨b0,b1,b2,b3⟩:=HL1.out.b.cell
 go_wp2_with fail
 refine (lawake_any _ HL1.out.tab HL1.out.ers).mono ?_
 rintro e wz ⟨rfl,hb⟩
 have HZ:=Lib.hid (HL1.out.below.trans (hb.mono HL1.out.below.size))
 clear hb
 go_wp2
 go_ret
 exact ⟨rfl,HZ.out⟩
set_option maxRecDepth 100000 in
set_option maxHeartbeats 6400000 in
theorem adds_out2 (x0:Option Addr) (n0 c0:Nat) (s0:ByteArray) (l0:List Tm) (x1:Option Addr) (n1 c1:Nat) (s1:ByteArray) (l1:List Tm) (yb:ByteArray) (w:World) (htab:Tab w) (he:Ers w)
 (ha0:TsAt w (.slice x0 n0 c0) l0) (hn0:x0=none→c0=0) (hm0:n0≤9223372036854775807) (ha1:TsAt w (.slice x1 n1 c1) l1) (hn1:x1=none→c1=0) (hm1:n1≤9223372036854775807) (hA:lightB s0 l0=true) (hB:lightB s1 l1=false) :
 Calls Tryz.prog 3 #[.agg #[.slice x0 n0 c0,.string s0],.agg #[.slice x1 n1 c1,.string s1],.string yb] w fun e w'=>e = .returned (.bool true)∧Below w.heap.size w w':=by
 have hnil:SsAt w (.slice none 0 0) []:=⟨_,_,_,rfl,rfl,.inl rfl⟩
 have HL0:=Lib.hid (LV.start (s0:=s0) (s1:=s1) w ha0 ha1 hnil htab he)
 clear ha0 ha1 hnil htab he
 obtain ⟨a0,a1,a2,a3⟩:=HL0.out.a.cell
 obtain ⟨b0,b1,b2,b3⟩:=HL0.out.b.cell
 go_enter Tryz.func3,Tryz.ntmps3
 go_wp2_with fail
 refine (Light_any s0 x0 n0 c0 l0 true _ HL0.out.fa hm0 (Lib.hid hA)).mono ?_
 rintro e w1 ⟨rfl,hb⟩
 have HL1:=Lib.hid (HL0.out.keep hb)
 clear hb a0 a1 a2 a3 b0 b1 b2 b3
 obtain ⟨a0,a1,a2,a3⟩:=HL1.out.a.cell
 obtain ⟨b0,b1,b2,b3⟩:=HL1.out.b.cell
 go_wp2_with fail
 refine (Light_any s1 x1 n1 c1 l1 false _ HL1.out.fb hm1 (Lib.hid hB)).mono ?_
 rintro e w2 ⟨rfl,hb⟩
 have HL2:=Lib.hid (HL1.out.keep hb)
 clear hb a0 a1 a2 a3 b0 b1 b2 b3
 obtain ⟨a0,a1,a2,a3⟩:=HL2.out.a.cell
 obtain ⟨b0,b1,b2,b3⟩:=HL2.out.b.cell
 go_wp2_with fail
 refine (lawake_any _ HL2.out.tab HL2.out.ers).mono ?_
 rintro e wz ⟨rfl,hb⟩
 have HZ:=Lib.hid (HL2.out.below.trans (hb.mono HL2.out.below.size))
 clear hb
 go_wp2
 go_ret
 exact ⟨rfl,HZ.out⟩
set_option maxRecDepth 100000 in
set_option maxHeartbeats 6400000 in
theorem adds_out3 (x0:Option Addr) (n0 c0:Nat) (s0:ByteArray) (l0:List Tm) (x1:Option Addr) (n1 c1:Nat) (s1:ByteArray) (l1:List Tm) (yb:ByteArray) (w:World) (htab:Tab w) (he:Ers w)
 (ha0:TsAt w (.slice x0 n0 c0) l0) (hn0:x0=none→c0=0) (hm0:n0≤9223372036854775807) (ha1:TsAt w (.slice x1 n1 c1) l1) (hn1:x1=none→c1=0) (hm1:n1≤9223372036854775807) (hA:lightB s0 l0=true) (hB:lightB s1 l1=true) (hS:shortC [yb]=false) :
 Calls Tryz.prog 3 #[.agg #[.slice x0 n0 c0,.string s0],.agg #[.slice x1 n1 c1,.string s1],.string yb] w fun e w'=>e = .returned (.bool true)∧Below w.heap.size w w':=by
 have hnil:SsAt w (.slice none 0 0) []:=⟨_,_,_,rfl,rfl,.inl rfl⟩
 have HL0:=Lib.hid (LV.start (s0:=s0) (s1:=s1) w ha0 ha1 hnil htab he)
 clear ha0 ha1 hnil htab he
 obtain ⟨a0,a1,a2,a3⟩:=HL0.out.a.cell
 obtain ⟨b0,b1,b2,b3⟩:=HL0.out.b.cell
 go_enter Tryz.func3,Tryz.ntmps3
 go_wp2_with fail
 refine (Light_any s0 x0 n0 c0 l0 true _ HL0.out.fa hm0 (Lib.hid hA)).mono ?_
 rintro e w1 ⟨rfl,hb⟩
 have HL1:=Lib.hid (HL0.out.keep hb)
 clear hb a0 a1 a2 a3 b0 b1 b2 b3
 obtain ⟨a0,a1,a2,a3⟩:=HL1.out.a.cell
 obtain ⟨b0,b1,b2,b3⟩:=HL1.out.b.cell
 go_wp2_with fail
 refine (Light_any s1 x1 n1 c1 l1 true _ HL1.out.fb hm1 (Lib.hid hB)).mono ?_
 rintro e w2 ⟨rfl,hb⟩
 have HL2:=Lib.hid (HL1.out.keep hb)
 clear hb a0 a1 a2 a3 b0 b1 b2 b3
 obtain ⟨a0,a1,a2,a3⟩:=HL2.out.a.cell
 obtain ⟨b0,b1,b2,b3⟩:=HL2.out.b.cell
 go_wp2_with fail
 have hA3:=(Below.refl w2.heap.size w2).alloc (Nat.le_refl _) (.cells #[.string yb] 9)
 have HL3:=Lib.hid (HL2.out.keep hA3)
 have hsy:=SsAt.one w2 yb 9
 refine (lshort_any _ 1 1 [yb] false _ hsy (by omega) (Lib.hid hS)).mono ?_
 rintro e w3 ⟨rfl,hww⟩
 rw [← hww]
 clear hww w3 hA3 hsy a0 a1 a2 a3 b0 b1 b2 b3
 obtain ⟨a0,a1,a2,a3⟩:=HL3.out.a.cell
 obtain ⟨b0,b1,b2,b3⟩:=HL3.out.b.cell
 go_wp2_with fail
 refine (lawake_any _ HL3.out.tab HL3.out.ers).mono ?_
 rintro e wz ⟨rfl,hb⟩
 have HZ:=Lib.hid (HL3.out.below.trans (hb.mono HL3.out.below.size))
 clear hb
 go_wp2
 go_ret
 exact ⟨rfl,HZ.out⟩
set_option maxRecDepth 100000 in
set_option maxHeartbeats 6400000 in
theorem adds_gg (x0:Option Addr) (n0 c0:Nat) (s0:ByteArray) (l0:List Tm) (x1:Option Addr) (n1 c1:Nat) (s1:ByteArray) (l1:List Tm) (yb:ByteArray) (w:World) (htab:Tab w) (he:Ers w)
 (ha0:TsAt w (.slice x0 n0 c0) l0) (hn0:x0=none→c0=0) (hm0:n0≤9223372036854775807) (ha1:TsAt w (.slice x1 n1 c1) l1) (hn1:x1=none→c1=0) (hm1:n1≤9223372036854775807) (hA:lightB s0 l0=true) (hB:lightB s1 l1=true) (hS:shortC [yb]=true) (hX:checkErr s0 l0=0) (hY:checkErr s1 l1=0) :
 Calls Tryz.prog 3 #[.agg #[.slice x0 n0 c0,.string s0],.agg #[.slice x1 n1 c1,.string s1],.string yb] w fun e w'=>e = .returned (.bool true)∧Below w.heap.size w w':=by
 have hF:∀ W,TsAt W (.slice x0 n0 c0) l0→InF W x0 n0 c0 s0 l0:=fun W h=>(inF_light h hn0 hA).1
 have hG:∀ W,TsAt W (.slice x1 n1 c1) l1→InF W x1 n1 c1 s1 l1:=fun W h=>(inF_light h hn1 hB).1
 have HF:=Lib.hid hF
 have HG:=Lib.hid hG
 clear hF hG
 have hls0:=light_sizes hA
 have hls1:=light_sizes hB
 have hys:yb.size≤120:=by
  unfold shortC at hS
  rw [List.all_eq_true] at hS
  exact of_decide_eq_true (hS yb (by simp))
 obtain ⟨oy,hoy⟩:∃ oy,rval yb.data.toList=oy:=⟨_,rfl⟩
 have HOY:=Lib.hid hoy
 have HYS:=Lib.hid (And.intro trivial hys)
 clear hoy hys
 obtain ⟨p1,q1,hlq,hin⟩:=(HF.out _ ha0).valid hX
 subst hlq
 have hx:=hin.is_
 have hsq:=hin.short
 have hfo:=hin.fo
 have hV:∀ W,TsAt W (.slice x0 n0 c0) (tms q1)→InV W x0 n0 c0 p1 s0 q1:=fun W h=>⟨HF.out W h,hx,hsq,hfo⟩
 have HV1:=Lib.hid hV
 obtain ⟨M1,hM1⟩:∃ m,colsOf q1=m:=⟨_,rfl⟩
 have HM1:=Lib.hid (And.intro trivial hM1)
 have hm21:M1≤2048:=by rw [← hM1];exact fo_cols hfo
 have HFO1:=Lib.hid (And.intro hsq (And.intro hfo hx))
 have hpast1:=co_past hfo
 rw [hM1] at hpast1
 have HTC1:Hid ((∀ c,RT 120 (co q1 c))∧RT 120 p1):=Lib.hid ⟨co_ten hls0.1 hfo,(txt_is hsq).ten (by rw [hx];exact hls0.2.2)⟩
 have HLQ1:Hid (q1.length≤8):=Lib.hid (by have:=hls0.2.1;simpa [tms] using this)
 have HPA1:=Lib.hid hpast1
 clear hV hin hx hsq hfo hM1 hpast1 hX
 obtain ⟨p2,q2,hlq,hin⟩:=(HG.out _ ha1).valid hY
 subst hlq
 have hx:=hin.is_
 have hsq:=hin.short
 have hfo:=hin.fo
 have hV:∀ W,TsAt W (.slice x1 n1 c1) (tms q2)→InV W x1 n1 c1 p2 s1 q2:=fun W h=>⟨HG.out W h,hx,hsq,hfo⟩
 have HV2:=Lib.hid hV
 obtain ⟨M2,hM2⟩:∃ m,colsOf q2=m:=⟨_,rfl⟩
 have HM2:=Lib.hid (And.intro trivial hM2)
 have hm22:M2≤2048:=by rw [← hM2];exact fo_cols hfo
 have HFO2:=Lib.hid (And.intro hsq (And.intro hfo hx))
 have hpast2:=co_past hfo
 rw [hM2] at hpast2
 have HTC2:Hid ((∀ c,RT 120 (co q2 c))∧RT 120 p2):=Lib.hid ⟨co_ten hls1.1 hfo,(txt_is hsq).ten (by rw [hx];exact hls1.2.2)⟩
 have HLQ2:Hid (q2.length≤8):=Lib.hid (by have:=hls1.2.1;simpa [tms] using this)
 have HPA2:=Lib.hid hpast2
 clear hV hin hx hsq hfo hM2 hpast2 hY
 clear hls0 hls1
 have hnil:SsAt w (.slice none 0 0) []:=⟨_,_,_,rfl,rfl,.inl rfl⟩
 have HL0:=Lib.hid (LV.start (s0:=s0) (s1:=s1) w ha0 ha1 hnil htab he)
 clear ha0 ha1 hnil htab he
 obtain ⟨a0,a1,a2,a3⟩:=HL0.out.a.cell
 obtain ⟨b0,b1,b2,b3⟩:=HL0.out.b.cell
 go_enter Tryz.func3,Tryz.ntmps3
 go_wp2_with fail
 refine (Light_any s0 x0 n0 c0 (tms q1) true _ HL0.out.fa hm0 (Lib.hid hA)).mono ?_
 rintro e w1 ⟨rfl,hb⟩
 have HL1:=Lib.hid (HL0.out.keep hb)
 clear hb a0 a1 a2 a3 b0 b1 b2 b3
 obtain ⟨a0,a1,a2,a3⟩:=HL1.out.a.cell
 obtain ⟨b0,b1,b2,b3⟩:=HL1.out.b.cell
 go_wp2_with fail
 refine (Light_any s1 x1 n1 c1 (tms q2) true _ HL1.out.fb hm1 (Lib.hid hB)).mono ?_
 rintro e w2 ⟨rfl,hb⟩
 have HL2:=Lib.hid (HL1.out.keep hb)
 clear hb a0 a1 a2 a3 b0 b1 b2 b3
 obtain ⟨a0,a1,a2,a3⟩:=HL2.out.a.cell
 obtain ⟨b0,b1,b2,b3⟩:=HL2.out.b.cell
 go_wp2_with fail
 have hA3:=(Below.refl w2.heap.size w2).alloc (Nat.le_refl _) (.cells #[.string yb] 9)
 have HL3:=Lib.hid (HL2.out.keep hA3)
 have hsy:=SsAt.one w2 yb 9
 refine (lshort_any _ 1 1 [yb] true _ hsy (by omega) (Lib.hid hS)).mono ?_
 rintro e w3 ⟨rfl,hww⟩
 rw [← hww]
 clear hww w3 hA3 hsy a0 a1 a2 a3 b0 b1 b2 b3
 obtain ⟨a0,a1,a2,a3⟩:=HL3.out.a.cell
 obtain ⟨b0,b1,b2,b3⟩:=HL3.out.b.cell
 go_wp2_with fail
 refine (lread_good p1 s0 x0 n0 c0 q1 _ (HV1.out _ HL3.out.fa)).mono ?_
 rintro e w4 ⟨⟨v,rfl,sv,cs1,c4,rfl,hrow,hnum⟩,hb⟩
 obtain ⟨i1,j1,k1,u1,i2,j2,k2,u2,rfl⟩:=hnum.expl
 obtain ⟨as1,ca1,hsv⟩:=hrow.slice
 rw [rowOf_length,HM1.out.2] at hsv
 subst hsv
 rw [HM1.out.2] at hrow
 have hC:Below w4.heap.size w4 (w4.alloc (.cells #[.slice as1 M1 ca1,.bool i1,.slice j1 k1 u1,.bool i2,.slice j2 k2 u2] 35)):=(Below.refl _ w4).alloc (Nat.le_refl _) _
 have hbC:=hb.trans (hC.mono hb.size)
 have HL4:=Lib.hid (HL3.out.keep hbC)
 have HAF4:=Lib.hid (B5.new w4 (.slice as1 M1 ca1) (.bool i1) (.slice j1 k1 u1) (.bool i2) (.slice j2 k2 u2) 35)
 have HAR4:=Lib.hid (hrow.keep hC)
 have HAN4:=Lib.hid (hnum.keep hC (Nat.le_refl _))
 clear hb hC hbC a0 a1 a2 a3 b0 b1 b2 b3
 clear hrow hnum
 obtain ⟨a0,a1,a2,a3⟩:=HL4.out.a.cell
 obtain ⟨b0,b1,b2,b3⟩:=HL4.out.b.cell
 go_wp2_with fail
 refine (lread_good p2 s1 x1 n1 c1 q2 _ (HV2.out _ HL4.out.fb)).mono ?_
 rintro e w5 ⟨⟨v,rfl,sv,cs2,c4,rfl,hrow,hnum⟩,hb⟩
 obtain ⟨i3,j3,k3,u3,i4,j4,k4,u4,rfl⟩:=hnum.expl
 obtain ⟨as2,ca2,hsv⟩:=hrow.slice
 rw [rowOf_length,HM2.out.2] at hsv
 subst hsv
 rw [HM2.out.2] at hrow
 have hC:Below w5.heap.size w5 (w5.alloc (.cells #[.slice as2 M2 ca2,.bool i3,.slice j3 k3 u3,.bool i4,.slice j4 k4 u4] 35)):=(Below.refl _ w5).alloc (Nat.le_refl _) _
 have hbC:=hb.trans (hC.mono hb.size)
 have HL5:=Lib.hid (HL4.out.keep hbC)
 have HBF5:=Lib.hid (B5.new w5 (.slice as2 M2 ca2) (.bool i3) (.slice j3 k3 u3) (.bool i4) (.slice j4 k4 u4) 35)
 have HBR5:=Lib.hid (hrow.keep hC)
 have HBN5:=Lib.hid (hnum.keep hC (Nat.le_refl _))
 have HAF5:=Lib.hid (HAF4.out.keep hbC)
 have HAR5:=Lib.hid (HAR4.out.keep hbC)
 have HAN5:=Lib.hid (HAN4.out.keep hbC (Nat.le_refl _))
 clear hb hC hbC a0 a1 a2 a3 b0 b1 b2 b3
 clear hrow hnum
 obtain ⟨a0,a1,a2,a3⟩:=HL5.out.a.cell
 obtain ⟨b0,b1,b2,b3⟩:=HL5.out.b.cell
 have hsum:=sum_all (K:=120) (L:=120) (by omega) HTC1.out.2 HTC2.out.2 HTC1.out.1 HTC2.out.1 HFO1.out.2.1 HFO2.out.2.1
 have hsr:=(sumRes_some HFO1.out.2.1 HFO2.out.2.1 hsum).1
 have hsg:=(sumRes_some HFO1.out.2.1 HFO2.out.2.1 hsum).2.2
 have hsl:=sumRes_len hsum
 obtain ⟨xs,hxs⟩:∃ xs,txt (p1+p2)=xs:=⟨_,rfl⟩
 have HSUM:=Lib.hid (And.intro hsum (And.intro hsr (And.intro hsg (And.intro hsl hxs))))
 clear hsum hsr hsg hsl hxs
 go_wp2_with fail
 refine (Add_good p1 p2 s0 s1 x0 x1 n0 c0 n1 c1 q1 q2 _ (HV1.out _ HL5.out.fa) (HV2.out _ HL5.out.fb) HL5.out.tab).mono ?_
 rintro e w6 h
 rw [HSUM.out.1,HSUM.out.2.2.2.2] at h
 obtain ⟨ad,n,cap,rfl,hinv,hb⟩:=h.inv HSUM.out.2.2.2.2 HSUM.out.2.1 HSUM.out.2.2.1 (by have h1:=HSUM.out.2.2.2.1;have h2:=HLQ1.out;have h3:=HLQ2.out;omega)
 have hts:=hinv.in_.at_
 have hC:Below w6.heap.size w6 (w6.alloc (.cells #[.slice ad n cap,.string xs] 24)):=(Below.refl _ w6).alloc (Nat.le_refl _) _
 have hbC:=hb.trans (hC.mono hb.size)
 have hL6:=HL5.out.keep hbC
 have HL6:=Lib.hid hL6
 have HGX:=Lib.hid (Bx.new w6 (.slice ad n cap) (.string xs) 24)
 have HAF6:=Lib.hid (HAF5.out.keep hbC)
 have HAR6:=Lib.hid (HAR5.out.keep hbC)
 have HAN6:=Lib.hid (HAN5.out.keep hbC (Nat.le_refl _))
 have HBF6:=Lib.hid (HBF5.out.keep hbC)
 have HBR6:=Lib.hid (HBR5.out.keep hbC)
 have HBN6:=Lib.hid (HBN5.out.keep hbC (Nat.le_refl _))
 have HTS:=Lib.hid (hts.keep hC (Nat.le_refl _))
 clear hb hC hbC hL6 a0 a1 a2 a3 b0 b1 b2 b3
 clear hts h hinv
 generalize hW6:w6.alloc (.cells #[.slice ad n cap,.string xs] 24)=W6 at HL6 HAF6 HBF6 HGX HAR6 HAN6 HBR6 HBN6 HTS ⊢
 obtain ⟨g0,g1',_,_⟩:=HGX.out.cell
 obtain ⟨c0',c1',c2',c3',c4'⟩:=HAF6.out.cell
 obtain ⟨d0',d1',d2',d3',d4'⟩:=HBF6.out.cell
 have hga:=HGX.out.lt
 have hgb:=HAF6.out.lt
 have hgc:=HBF6.out.lt
 have hmx:max (0:Int) 0=0:=by decide
 have HAD:Hid (∀ W,Below W6.heap.size W6 W→Calls Tryz.prog 40 #[.agg #[.bool i1,.slice j1 k1 u1,.bool i2,.slice j2 k2 u2],.agg #[.bool i3,.slice j3 k3 u3,.bool i4,.slice j4 k4 u4]] W (RRPost (p1+p2) W)):=Lib.hid (fun W hb=>rrAdd_any _ _ p1 p2 400 (p1+p2) W (HAN6.out.keep hb (Nat.le_refl _)) (HBN6.out.keep hb (Nat.le_refl _)) (HTC1.out.2.mono (by omega)) (HTC2.out.2.mono (by omega)) (Nat.le_refl _) (Lib.hid rfl))
 have HRA:Hid (RowQ _ W6 (.slice as1 M1 ca1) (rowOf (co q1) M1) cs1):=Lib.hid (HAR6.out)
 have HRB:Hid (RowQ _ W6 (.slice as2 M2 ca2) (rowOf (co q2) M2) cs2):=Lib.hid (HBR6.out)
 have HPP:=Lib.hid (And.intro (show ∀ c,(M1:Int)≤c→(co q1) c=0 from HPA1.out) (show ∀ c,(M2:Int)≤c→(co q2) c=0 from HPA2.out))
 have HTT:=Lib.hid (And.intro (show ∀ c,RT 400 ((co q1) c) from (fun c=>(HTC1.out.1 c).mono (by omega))) (show ∀ c,RT 400 ((co q2) c) from (fun c=>(HTC2.out.1 c).mono (by omega))))
 have HSH:Hid ((∀ c,rshort (co q1 c+co q2 c)=true)∧True):=Lib.hid ⟨fun c=>((HTC1.out.1 c).add (HTC2.out.1 c)).short (by omega),trivial⟩
 have HSX:Hid (txt (p1+p2)=xs):=Lib.hid HSUM.out.2.2.2.2
 have hmm:max M1 M2≤2048:=by omega
 have HTS2:Hid (TsAt W6 (.slice ad n cap) (tms (formUp (fun c=>co q1 c+co q2 c) (max M1 M2)))):=Lib.hid (by
  rw [← formOf_cut (fun c hc=>by rw [HPA1.out c (by omega),HPA2.out c (by omega),Rat.add_zero]) hmm]
  exact HTS.out)
 go_wp2_with fail
 go_region_held3 (fun w'=>w'.cell? ⟨w6.heap.size,0,none⟩=some (.slice ad n cap)∧w'.cell? ⟨w6.heap.size,1,none⟩=some (.string xs)∧w'.cell? ⟨w4.heap.size,0,none⟩=some (.slice as1 M1 ca1)∧w'.cell? ⟨w4.heap.size,1,none⟩=some (.bool i1)∧w'.cell? ⟨w4.heap.size,2,none⟩=some (.slice j1 k1 u1)∧w'.cell? ⟨w4.heap.size,3,none⟩=some (.bool i2)∧w'.cell? ⟨w4.heap.size,4,none⟩=some (.slice j2 k2 u2)∧w'.cell? ⟨w5.heap.size,0,none⟩=some (.slice as2 M2 ca2)∧w'.cell? ⟨w5.heap.size,1,none⟩=some (.bool i3)∧w'.cell? ⟨w5.heap.size,2,none⟩=some (.slice j3 k3 u3)∧w'.cell? ⟨w5.heap.size,3,none⟩=some (.bool i4)∧w'.cell? ⟨w5.heap.size,4,none⟩=some (.slice j4 k4 u4)) (first | ((try dsimp only);(repeat' apply And.intro);all_goals with_reducible assumption) | go_keep) (first | (go_at_call 14;have hgd:=HR7;clear hgd;refine (is_good ad n cap xs _ _ _ _ _ _ _ _ _ _ (max M1 M2) (fun c=>co q1 c+co q2 c) cs7 (p1+p2) _ HR7.out HN7.out HSH.out.1 HSUM.out.2.1 hmm HSX (by exact HTS2.out.keep HB8.out (Nat.le_refl _))).mono ?_;rintro e w8 ⟨rfl,hb9⟩;have hb10:Below W6.heap.size W6 w8:=HB8.out.trans (hb9.mono HB8.out.size);have Vg0:=(hb9.cell (p:=⟨w6.heap.size,0,none⟩) (Nat.lt_of_lt_of_le hga HB8.out.size)).trans Ug0;have Vg1:=(hb9.cell (p:=⟨w6.heap.size,1,none⟩) (Nat.lt_of_lt_of_le hga HB8.out.size)).trans Ug1;have Vc0:=(hb9.cell (p:=⟨w4.heap.size,0,none⟩) (Nat.lt_of_lt_of_le hgb HB8.out.size)).trans Uc0;have Vc1:=(hb9.cell (p:=⟨w4.heap.size,1,none⟩) (Nat.lt_of_lt_of_le hgb HB8.out.size)).trans Uc1;have Vc2:=(hb9.cell (p:=⟨w4.heap.size,2,none⟩) (Nat.lt_of_lt_of_le hgb HB8.out.size)).trans Uc2;have Vc3:=(hb9.cell (p:=⟨w4.heap.size,3,none⟩) (Nat.lt_of_lt_of_le hgb HB8.out.size)).trans Uc3;have Vc4:=(hb9.cell (p:=⟨w4.heap.size,4,none⟩) (Nat.lt_of_lt_of_le hgb HB8.out.size)).trans Uc4;have Vd0:=(hb9.cell (p:=⟨w5.heap.size,0,none⟩) (Nat.lt_of_lt_of_le hgc HB8.out.size)).trans Ud0;have Vd1:=(hb9.cell (p:=⟨w5.heap.size,1,none⟩) (Nat.lt_of_lt_of_le hgc HB8.out.size)).trans Ud1;have Vd2:=(hb9.cell (p:=⟨w5.heap.size,2,none⟩) (Nat.lt_of_lt_of_le hgc HB8.out.size)).trans Ud2;have Vd3:=(hb9.cell (p:=⟨w5.heap.size,3,none⟩) (Nat.lt_of_lt_of_le hgc HB8.out.size)).trans Ud3;have Vd4:=(hb9.cell (p:=⟨w5.heap.size,4,none⟩) (Nat.lt_of_lt_of_le hgc HB8.out.size)).trans Ud4;have HB10:=Lib.hid hb10;clear hb9 hb10 Ug0 Ug1 Uc0 Uc1 Uc2 Uc3 Uc4 Ud0 Ud1 Ud2 Ud3 Ud4) | (go_at_call 15;have hdr:Below W6.heap.size W6 W6.drew:=(Below.refl _ W6).drew;refine (rfAdd_any _ _ _ _ _ _ _ _ _ _ _ _ _ _ _ _ _ _ _ _ M1 M2 (co q1) (co q2) cs1 cs2 (p1+p2) _ (by exact HRA.out.keep hdr) (by exact HRB.out.keep hdr) HPP.out.1 HPP.out.2 HTT.out.1 HTT.out.2 hm21 hm22 (fun W hb=>HAD.out W (hdr.trans (hb.mono hdr.size)))).mono ?_;rintro e w7 ⟨⟨v7,rfl,s7,cs7,c7,rfl,hrow7,hnum7⟩,hb7⟩;obtain ⟨o1,e1,f1,g1,o2,e2,f2,g2,rfl⟩:=hnum7.expl;obtain ⟨as3,ca3,hsv7⟩:=hrow7.slice;subst hsv7;have hb8:Below W6.heap.size W6 w7:=hdr.trans hb7;have Ug0:=(hb8.cell (p:=⟨w6.heap.size,0,none⟩) hga).trans g0;have Ug1:=(hb8.cell (p:=⟨w6.heap.size,1,none⟩) hga).trans g1';have Uc0:=(hb8.cell (p:=⟨w4.heap.size,0,none⟩) hgb).trans c0';have Uc1:=(hb8.cell (p:=⟨w4.heap.size,1,none⟩) hgb).trans c1';have Uc2:=(hb8.cell (p:=⟨w4.heap.size,2,none⟩) hgb).trans c2';have Uc3:=(hb8.cell (p:=⟨w4.heap.size,3,none⟩) hgb).trans c3';have Uc4:=(hb8.cell (p:=⟨w4.heap.size,4,none⟩) hgb).trans c4';have Ud0:=(hb8.cell (p:=⟨w5.heap.size,0,none⟩) hgc).trans d0';have Ud1:=(hb8.cell (p:=⟨w5.heap.size,1,none⟩) hgc).trans d1';have Ud2:=(hb8.cell (p:=⟨w5.heap.size,2,none⟩) hgc).trans d2';have Ud3:=(hb8.cell (p:=⟨w5.heap.size,3,none⟩) hgc).trans d3';have Ud4:=(hb8.cell (p:=⟨w5.heap.size,4,none⟩) hgc).trans d4';have HB8:=Lib.hid hb8;have HR7:=Lib.hid hrow7;have HN7:=Lib.hid hnum7;clear hb7 hb8 hrow7 hnum7 hdr g0 g1' c0' c1' c2' c3' c4' d0' d1' d2' d3' d4'))
 all_goals
  clear Vg0 Vg1 Vc0 Vc1 Vc2 Vc3 Vc4 Vd0 Vd1 Vd2 Vd3 Vd4 hga hgb hgc hmx
  have HL8:=Lib.hid (HL6.out.keep HB10.out)
  have HAF8:=Lib.hid (HAF6.out.keep HB10.out)
  have HAR8:=Lib.hid (HAR6.out.keep HB10.out)
  have HAN8:=Lib.hid (HAN6.out.keep HB10.out (Nat.le_refl _))
  obtain ⟨a0,a1,a2,a3⟩:=HL8.out.a.cell
  obtain ⟨b0,b1,b2,b3⟩:=HL8.out.b.cell
  go_wp2_with fail
  refine (rrRead_any yb oy _ HOY (by have:=HYS.out.2;omega)).mono ?_
  rintro e w9 ⟨y1,y2,y3,y4,y5,y6,y7,y8,rfl,hq,hb⟩
  have hC:Below w9.heap.size w9 (w9.alloc (.cells #[.bool y1,.slice y2 y3 y4,.bool y5,.slice y6 y7 y8] 33)):=(Below.refl _ w9).alloc (Nat.le_refl _) _
  have hbC:=hb.trans (hC.mono hb.size)
  have HL9:=Lib.hid (HL8.out.keep hbC)
  have HY9:=Lib.hid (B4.new w9 (.bool y1) (.slice y2 y3 y4) (.bool y5) (.slice y6 y7 y8) 33)
  have HQ9:=Lib.hid (fun q h=>(hq q h).keep hC (Nat.le_refl _))
  have HAF9:=Lib.hid (HAF8.out.keep hbC)
  have HAR9:=Lib.hid (HAR8.out.keep hbC)
  have HAN9:=Lib.hid (HAN8.out.keep hbC (Nat.le_refl _))
  clear hb hC hbC hq a0 a1 a2 a3 b0 b1 b2 b3
  obtain ⟨a0,a1,a2,a3⟩:=HL9.out.a.cell
  obtain ⟨b0,b1,b2,b3⟩:=HL9.out.b.cell
  rcases oy with _ | y
  · rw [show (none:Option Rat).isSome=false from rfl]
    go_wp2_with fail
    refine (Scale_bad s0 yb x0 n0 c0 (tms q1) _ (HF.out _ HL9.out.fa) (by have:=HYS.out.2;omega) (.inr (by rw [HOY.out];rfl))).mono ?_
    rintro e w10 ⟨hb,rfl⟩
    have HL10:=Lib.hid ((HL9.out.keep hb).keep ((Below.refl _ w10).alloc (Nat.le_refl _) (.cells #[.slice none 0 0,.string ⟨#[]⟩] 24)))
    have HG10:=Lib.hid (Bx.new w10 (.slice none 0 0) (.string ⟨#[]⟩) 24)
    obtain ⟨g0,g1',_,_⟩:=HG10.out.cell
    clear hb a0 a1 a2 a3 b0 b1 b2 b3
    go_wp2_with fail
    refine (lawake_any _ HL10.out.tab HL10.out.ers).mono ?_
    rintro e wz ⟨rfl,hb⟩
    have HZ:=Lib.hid (HL10.out.below.trans (hb.mono HL10.out.below.size))
    clear hb
    go_wp2
    go_ret
    exact ⟨rfl,HZ.out⟩
  · rw [show (some y:Option Rat).isSome=true from rfl]
    have hys2:rshort y=true:=(RIs.of HOY.out).2
    have hyt:txt y=yb:=(RIs.of HOY.out).1.symm
    have hy120:RT 120 y:=(RIs.of HOY.out).ten HYS.out.2
    have HYY:=Lib.hid (And.intro hys2 (And.intro hyt hy120))
    have HYR:=Lib.hid (HQ9.out y rfl)
    clear hys2 hyt hy120
    have hscl:=scl_all (K:=120) (L:=120) (by omega) HTC1.out.2 HYY.out.2.2 HTC1.out.1 HFO1.out.2.1
    have hsr:=(sclRes_some HFO1.out.2.1 hscl).1
    have hsg:=(sclRes_some HFO1.out.2.1 hscl).2.2
    have hsl:=sclRes_len hscl
    obtain ⟨xt,hxt⟩:∃ xt,txt (p1*y)=xt:=⟨_,rfl⟩
    have HSCL:=Lib.hid (And.intro hscl (And.intro hsr (And.intro hsg (And.intro hsl hxt))))
    clear hscl hsr hsg hsl hxt
    go_wp2_with fail
    refine (Scale_good p1 y s0 yb x0 n0 c0 q1 _ (HV1.out _ HL9.out.fa) HYY.out.1 HYY.out.2.1 HL9.out.tab).mono ?_
    rintro e w10 h
    rw [HSCL.out.1,HSCL.out.2.2.2.2] at h
    obtain ⟨ad2,n2,cap2,rfl,hinv,hb⟩:=h.inv HSCL.out.2.2.2.2 HSCL.out.2.1 HSCL.out.2.2.1 (by have h1:=HSCL.out.2.2.2.1;have h2:=HLQ1.out;omega)
    have hts:=hinv.in_.at_
    have hC:Below w10.heap.size w10 (w10.alloc (.cells #[.slice ad2 n2 cap2,.string xt] 24)):=(Below.refl _ w10).alloc (Nat.le_refl _) _
    have hbC:=hb.trans (hC.mono hb.size)
    have HL10:=Lib.hid (HL9.out.keep hbC)
    have HGY:=Lib.hid (Bx.new w10 (.slice ad2 n2 cap2) (.string xt) 24)
    have HY10:=Lib.hid (HY9.out.below hbC HY9.out.lt)
    have HYR10:=Lib.hid (HYR.out.keep hbC (Nat.le_refl _))
    have HAF10:=Lib.hid (HAF9.out.keep hbC)
    have HAR10:=Lib.hid (HAR9.out.keep hbC)
    have HAN10:=Lib.hid (HAN9.out.keep hbC (Nat.le_refl _))
    have HTS3:=Lib.hid (hts.keep hC (Nat.le_refl _))
    clear hb hC hbC a0 a1 a2 a3 b0 b1 b2 b3
    clear hts h hinv
    generalize hW10:w10.alloc (.cells #[.slice ad2 n2 cap2,.string xt] 24)=W10 at HL10 HAF10 HGY HY10 HYR10 HAR10 HAN10 HTS3 ⊢
    obtain ⟨g0,g1',_,_⟩:=HGY.out.cell
    obtain ⟨c0',c1',c2',c3',c4'⟩:=HAF10.out.cell
    obtain ⟨d0',d1',d2',d3'⟩:=HY10.out.cell
    have hga:=HGY.out.lt
    have hgb:=HAF10.out.lt
    have hgc:=HY10.out.lt
    have HMU:Hid (∀ W,Below W10.heap.size W10 W→Calls Tryz.prog 47 #[.agg #[.bool i1,.slice j1 k1 u1,.bool i2,.slice j2 k2 u2],.agg #[.bool y1,.slice y2 y3 y4,.bool y5,.slice y6 y7 y8]] W (RRPost (p1*y) W)):=Lib.hid (fun W hb=>rrMul_any _ _ p1 y 120 (p1*y) W (HAN10.out.keep hb (Nat.le_refl _)) (HYR10.out.keep hb (Nat.le_refl _)) HTC1.out.2 HYY.out.2.2 (by omega) (Lib.hid rfl))
    have HRS:Hid (RowQ _ W10 (.slice as1 M1 ca1) (rowOf (co q1) M1) cs1):=Lib.hid HAR10.out
    have HSH2:Hid ((∀ c,rshort (co q1 c*y)=true)∧True):=Lib.hid ⟨fun c=>((HTC1.out.1 c).mul HYY.out.2.2).short (by omega),trivial⟩
    have HSX2:Hid (txt (p1*y)=xt):=Lib.hid HSCL.out.2.2.2.2
    have HTS4:Hid (TsAt W10 (.slice ad2 n2 cap2) (tms (formUp (fun c=>co q1 c*y) M1))):=Lib.hid (by
     rw [← formOf_cut (fun c hc=>by rw [HPA1.out c (by omega),Rat.zero_mul]) hm21]
     exact HTS3.out)
    go_wp2_with fail
    go_region_held3 (fun w'=>w'.cell? ⟨w10.heap.size,0,none⟩=some (.slice ad2 n2 cap2)∧w'.cell? ⟨w10.heap.size,1,none⟩=some (.string xt)∧w'.cell? ⟨w4.heap.size,0,none⟩=some (.slice as1 M1 ca1)∧w'.cell? ⟨w4.heap.size,1,none⟩=some (.bool i1)∧w'.cell? ⟨w4.heap.size,2,none⟩=some (.slice j1 k1 u1)∧w'.cell? ⟨w4.heap.size,3,none⟩=some (.bool i2)∧w'.cell? ⟨w4.heap.size,4,none⟩=some (.slice j2 k2 u2)∧w'.cell? ⟨w9.heap.size,0,none⟩=some (.bool y1)∧w'.cell? ⟨w9.heap.size,1,none⟩=some (.slice y2 y3 y4)∧w'.cell? ⟨w9.heap.size,2,none⟩=some (.bool y5)∧w'.cell? ⟨w9.heap.size,3,none⟩=some (.slice y6 y7 y8)) (first | ((try dsimp only);(repeat' apply And.intro);all_goals with_reducible assumption) | go_keep) (first | (go_at_call 11;have hgd:=HB10b;clear hgd;have hl12:=HL10.out.keep HB10b.out;refine (lawake_any _ hl12.tab hl12.ers).mono ?_;rintro e w13 ⟨rfl,hb11⟩;have hb12:Below W10.heap.size W10 w13:=HB10b.out.trans (hb11.mono HB10b.out.size);have Xg0:=(hb11.cell (p:=⟨w10.heap.size,0,none⟩) (Nat.lt_of_lt_of_le hga HB10b.out.size)).trans Vg0;have Xg1:=(hb11.cell (p:=⟨w10.heap.size,1,none⟩) (Nat.lt_of_lt_of_le hga HB10b.out.size)).trans Vg1;have Xc0:=(hb11.cell (p:=⟨w4.heap.size,0,none⟩) (Nat.lt_of_lt_of_le hgb HB10b.out.size)).trans Vc0;have Xc1:=(hb11.cell (p:=⟨w4.heap.size,1,none⟩) (Nat.lt_of_lt_of_le hgb HB10b.out.size)).trans Vc1;have Xc2:=(hb11.cell (p:=⟨w4.heap.size,2,none⟩) (Nat.lt_of_lt_of_le hgb HB10b.out.size)).trans Vc2;have Xc3:=(hb11.cell (p:=⟨w4.heap.size,3,none⟩) (Nat.lt_of_lt_of_le hgb HB10b.out.size)).trans Vc3;have Xc4:=(hb11.cell (p:=⟨w4.heap.size,4,none⟩) (Nat.lt_of_lt_of_le hgb HB10b.out.size)).trans Vc4;have Xd0:=(hb11.cell (p:=⟨w9.heap.size,0,none⟩) (Nat.lt_of_lt_of_le hgc HB10b.out.size)).trans Vd0;have Xd1:=(hb11.cell (p:=⟨w9.heap.size,1,none⟩) (Nat.lt_of_lt_of_le hgc HB10b.out.size)).trans Vd1;have Xd2:=(hb11.cell (p:=⟨w9.heap.size,2,none⟩) (Nat.lt_of_lt_of_le hgc HB10b.out.size)).trans Vd2;have Xd3:=(hb11.cell (p:=⟨w9.heap.size,3,none⟩) (Nat.lt_of_lt_of_le hgc HB10b.out.size)).trans Vd3;have HB12:=Lib.hid hb12;clear hl12 hb11 hb12 Vg0 Vg1 Vc0 Vc1 Vc2 Vc3 Vc4 Vd0 Vd1 Vd2 Vd3) | (go_at_call 14;have hgd:=HR7;clear hgd;refine (is_good ad2 n2 cap2 xt _ _ _ _ _ _ _ _ _ _ M1 (fun c=>co q1 c*y) cs7 (p1*y) _ HR7.out HN7.out HSH2.out.1 HSCL.out.2.1 hm21 HSX2 (by exact HTS4.out.keep HB8.out (Nat.le_refl _))).mono ?_;rintro e w12 ⟨rfl,hb9⟩;have hb10:Below W10.heap.size W10 w12:=HB8.out.trans (hb9.mono HB8.out.size);have Vg0:=(hb9.cell (p:=⟨w10.heap.size,0,none⟩) (Nat.lt_of_lt_of_le hga HB8.out.size)).trans Ug0;have Vg1:=(hb9.cell (p:=⟨w10.heap.size,1,none⟩) (Nat.lt_of_lt_of_le hga HB8.out.size)).trans Ug1;have Vc0:=(hb9.cell (p:=⟨w4.heap.size,0,none⟩) (Nat.lt_of_lt_of_le hgb HB8.out.size)).trans Uc0;have Vc1:=(hb9.cell (p:=⟨w4.heap.size,1,none⟩) (Nat.lt_of_lt_of_le hgb HB8.out.size)).trans Uc1;have Vc2:=(hb9.cell (p:=⟨w4.heap.size,2,none⟩) (Nat.lt_of_lt_of_le hgb HB8.out.size)).trans Uc2;have Vc3:=(hb9.cell (p:=⟨w4.heap.size,3,none⟩) (Nat.lt_of_lt_of_le hgb HB8.out.size)).trans Uc3;have Vc4:=(hb9.cell (p:=⟨w4.heap.size,4,none⟩) (Nat.lt_of_lt_of_le hgb HB8.out.size)).trans Uc4;have Vd0:=(hb9.cell (p:=⟨w9.heap.size,0,none⟩) (Nat.lt_of_lt_of_le hgc HB8.out.size)).trans Ud0;have Vd1:=(hb9.cell (p:=⟨w9.heap.size,1,none⟩) (Nat.lt_of_lt_of_le hgc HB8.out.size)).trans Ud1;have Vd2:=(hb9.cell (p:=⟨w9.heap.size,2,none⟩) (Nat.lt_of_lt_of_le hgc HB8.out.size)).trans Ud2;have Vd3:=(hb9.cell (p:=⟨w9.heap.size,3,none⟩) (Nat.lt_of_lt_of_le hgc HB8.out.size)).trans Ud3;have HB10b:=Lib.hid hb10;clear hb9 hb10 Ug0 Ug1 Uc0 Uc1 Uc2 Uc3 Uc4 Ud0 Ud1 Ud2 Ud3) | (go_at_call 18;have hdr:Below W10.heap.size W10 W10.drew:=(Below.refl _ W10).drew;refine (rfScale_any _ _ _ _ _ _ _ _ _ _ _ _ _ _ _ _ _ _ M1 (co q1) cs1 y (p1*y) _ (by exact HRS.out.keep hdr) (by exact HYR10.out.keep hdr (Nat.le_refl _)) (fun c=>(HTC1.out.1 c).mono (by omega)) (HYY.out.2.2.mono (by omega)) hm21 (fun W hb=>HMU.out W (hdr.trans (hb.mono hdr.size)))).mono ?_;rintro e w11 ⟨⟨v7,rfl,s7,cs7,c7,rfl,hrow7,hnum7⟩,hb7⟩;obtain ⟨o1,e1,f1,g1,o2,e2,f2,g2,rfl⟩:=hnum7.expl;obtain ⟨as3,ca3,hsv7⟩:=hrow7.slice;subst hsv7;have hb8:Below W10.heap.size W10 w11:=hdr.trans hb7;have Ug0:=(hb8.cell (p:=⟨w10.heap.size,0,none⟩) hga).trans g0;have Ug1:=(hb8.cell (p:=⟨w10.heap.size,1,none⟩) hga).trans g1';have Uc0:=(hb8.cell (p:=⟨w4.heap.size,0,none⟩) hgb).trans c0';have Uc1:=(hb8.cell (p:=⟨w4.heap.size,1,none⟩) hgb).trans c1';have Uc2:=(hb8.cell (p:=⟨w4.heap.size,2,none⟩) hgb).trans c2';have Uc3:=(hb8.cell (p:=⟨w4.heap.size,3,none⟩) hgb).trans c3';have Uc4:=(hb8.cell (p:=⟨w4.heap.size,4,none⟩) hgb).trans c4';have Ud0:=(hb8.cell (p:=⟨w9.heap.size,0,none⟩) hgc).trans d0';have Ud1:=(hb8.cell (p:=⟨w9.heap.size,1,none⟩) hgc).trans d1';have Ud2:=(hb8.cell (p:=⟨w9.heap.size,2,none⟩) hgc).trans d2';have Ud3:=(hb8.cell (p:=⟨w9.heap.size,3,none⟩) hgc).trans d3';have HB8:=Lib.hid hb8;have HR7:=Lib.hid hrow7;have HN7:=Lib.hid hnum7;clear hb7 hb8 hrow7 hnum7 hdr g0 g1' c0' c1' c2' c3' c4' d0' d1' d2' d3'))
    all_goals
     have HZ:=Lib.hid (HL10.out.below.trans (HB12.out.mono HL10.out.below.size))
     clear Xg0 Xg1 Xc0 Xc1 Xc2 Xc3 Xc4 Xd0 Xd1 Xd2 Xd3 hga hgb hgc
     go_wp2
     go_ret
     exact ⟨rfl,HZ.out⟩
set_option maxRecDepth 100000 in
set_option maxHeartbeats 6400000 in
theorem adds_gb (x0:Option Addr) (n0 c0:Nat) (s0:ByteArray) (l0:List Tm) (x1:Option Addr) (n1 c1:Nat) (s1:ByteArray) (l1:List Tm) (yb:ByteArray) (w:World) (htab:Tab w) (he:Ers w)
 (ha0:TsAt w (.slice x0 n0 c0) l0) (hn0:x0=none→c0=0) (hm0:n0≤9223372036854775807) (ha1:TsAt w (.slice x1 n1 c1) l1) (hn1:x1=none→c1=0) (hm1:n1≤9223372036854775807) (hA:lightB s0 l0=true) (hB:lightB s1 l1=true) (hS:shortC [yb]=true) (hX:checkErr s0 l0=0) (hY:checkErr s1 l1≠0) :
 Calls Tryz.prog 3 #[.agg #[.slice x0 n0 c0,.string s0],.agg #[.slice x1 n1 c1,.string s1],.string yb] w fun e w'=>e = .returned (.bool true)∧Below w.heap.size w w':=by
 have hF:∀ W,TsAt W (.slice x0 n0 c0) l0→InF W x0 n0 c0 s0 l0:=fun W h=>(inF_light h hn0 hA).1
 have hG:∀ W,TsAt W (.slice x1 n1 c1) l1→InF W x1 n1 c1 s1 l1:=fun W h=>(inF_light h hn1 hB).1
 have HF:=Lib.hid hF
 have HG:=Lib.hid hG
 clear hF hG
 have hls0:=light_sizes hA
 have hls1:=light_sizes hB
 have hys:yb.size≤120:=by
  unfold shortC at hS
  rw [List.all_eq_true] at hS
  exact of_decide_eq_true (hS yb (by simp))
 obtain ⟨oy,hoy⟩:∃ oy,rval yb.data.toList=oy:=⟨_,rfl⟩
 have HOY:=Lib.hid hoy
 have HYS:=Lib.hid (And.intro trivial hys)
 clear hoy hys
 obtain ⟨p1,q1,hlq,hin⟩:=(HF.out _ ha0).valid hX
 subst hlq
 have hx:=hin.is_
 have hsq:=hin.short
 have hfo:=hin.fo
 have hV:∀ W,TsAt W (.slice x0 n0 c0) (tms q1)→InV W x0 n0 c0 p1 s0 q1:=fun W h=>⟨HF.out W h,hx,hsq,hfo⟩
 have HV1:=Lib.hid hV
 obtain ⟨M1,hM1⟩:∃ m,colsOf q1=m:=⟨_,rfl⟩
 have HM1:=Lib.hid (And.intro trivial hM1)
 have hm21:M1≤2048:=by rw [← hM1];exact fo_cols hfo
 have HFO1:=Lib.hid (And.intro hsq (And.intro hfo hx))
 have hpast1:=co_past hfo
 rw [hM1] at hpast1
 have HTC1:Hid ((∀ c,RT 120 (co q1 c))∧RT 120 p1):=Lib.hid ⟨co_ten hls0.1 hfo,(txt_is hsq).ten (by rw [hx];exact hls0.2.2)⟩
 have HLQ1:Hid (q1.length≤8):=Lib.hid (by have:=hls0.2.1;simpa [tms] using this)
 have HPA1:=Lib.hid hpast1
 clear hV hin hx hsq hfo hM1 hpast1 hX
 have HY:=Lib.hid hY
 clear hY
 clear hls0 hls1
 have hnil:SsAt w (.slice none 0 0) []:=⟨_,_,_,rfl,rfl,.inl rfl⟩
 have HL0:=Lib.hid (LV.start (s0:=s0) (s1:=s1) w ha0 ha1 hnil htab he)
 clear ha0 ha1 hnil htab he
 obtain ⟨a0,a1,a2,a3⟩:=HL0.out.a.cell
 obtain ⟨b0,b1,b2,b3⟩:=HL0.out.b.cell
 go_enter Tryz.func3,Tryz.ntmps3
 go_wp2_with fail
 refine (Light_any s0 x0 n0 c0 (tms q1) true _ HL0.out.fa hm0 (Lib.hid hA)).mono ?_
 rintro e w1 ⟨rfl,hb⟩
 have HL1:=Lib.hid (HL0.out.keep hb)
 clear hb a0 a1 a2 a3 b0 b1 b2 b3
 obtain ⟨a0,a1,a2,a3⟩:=HL1.out.a.cell
 obtain ⟨b0,b1,b2,b3⟩:=HL1.out.b.cell
 go_wp2_with fail
 refine (Light_any s1 x1 n1 c1 l1 true _ HL1.out.fb hm1 (Lib.hid hB)).mono ?_
 rintro e w2 ⟨rfl,hb⟩
 have HL2:=Lib.hid (HL1.out.keep hb)
 clear hb a0 a1 a2 a3 b0 b1 b2 b3
 obtain ⟨a0,a1,a2,a3⟩:=HL2.out.a.cell
 obtain ⟨b0,b1,b2,b3⟩:=HL2.out.b.cell
 go_wp2_with fail
 have hA3:=(Below.refl w2.heap.size w2).alloc (Nat.le_refl _) (.cells #[.string yb] 9)
 have HL3:=Lib.hid (HL2.out.keep hA3)
 have hsy:=SsAt.one w2 yb 9
 refine (lshort_any _ 1 1 [yb] true _ hsy (by omega) (Lib.hid hS)).mono ?_
 rintro e w3 ⟨rfl,hww⟩
 rw [← hww]
 clear hww w3 hA3 hsy a0 a1 a2 a3 b0 b1 b2 b3
 obtain ⟨a0,a1,a2,a3⟩:=HL3.out.a.cell
 obtain ⟨b0,b1,b2,b3⟩:=HL3.out.b.cell
 go_wp2_with fail
 refine (lread_good p1 s0 x0 n0 c0 q1 _ (HV1.out _ HL3.out.fa)).mono ?_
 rintro e w4 ⟨⟨v,rfl,sv,cs1,c4,rfl,hrow,hnum⟩,hb⟩
 obtain ⟨i1,j1,k1,u1,i2,j2,k2,u2,rfl⟩:=hnum.expl
 obtain ⟨as1,ca1,hsv⟩:=hrow.slice
 rw [rowOf_length,HM1.out.2] at hsv
 subst hsv
 rw [HM1.out.2] at hrow
 have hC:Below w4.heap.size w4 (w4.alloc (.cells #[.slice as1 M1 ca1,.bool i1,.slice j1 k1 u1,.bool i2,.slice j2 k2 u2] 35)):=(Below.refl _ w4).alloc (Nat.le_refl _) _
 have hbC:=hb.trans (hC.mono hb.size)
 have HL4:=Lib.hid (HL3.out.keep hbC)
 have HAF4:=Lib.hid (B5.new w4 (.slice as1 M1 ca1) (.bool i1) (.slice j1 k1 u1) (.bool i2) (.slice j2 k2 u2) 35)
 have HAR4:=Lib.hid (hrow.keep hC)
 have HAN4:=Lib.hid (hnum.keep hC (Nat.le_refl _))
 clear hb hC hbC a0 a1 a2 a3 b0 b1 b2 b3
 clear hrow hnum
 obtain ⟨a0,a1,a2,a3⟩:=HL4.out.a.cell
 obtain ⟨b0,b1,b2,b3⟩:=HL4.out.b.cell
 go_wp2_with fail
 refine (lread_bad s1 x1 n1 c1 l1 _ (HG.out _ HL4.out.fb) HY.out).mono ?_
 rintro e w5 ⟨rfl,hb⟩
 have hC:Below w5.heap.size w5 (w5.alloc (.cells #[.slice none 0 0,.bool false,.slice none 0 0,.bool false,.slice none 0 0] 35)):=(Below.refl _ w5).alloc (Nat.le_refl _) _
 have hbC:=hb.trans (hC.mono hb.size)
 have HL5:=Lib.hid (HL4.out.keep hbC)
 have HBF5:=Lib.hid (B5.new w5 (.slice none 0 0) (.bool false) (.slice none 0 0) (.bool false) (.slice none 0 0) 35)
 have HAF5:=Lib.hid (HAF4.out.keep hbC)
 have HAR5:=Lib.hid (HAR4.out.keep hbC)
 have HAN5:=Lib.hid (HAN4.out.keep hbC (Nat.le_refl _))
 clear hb hC hbC a0 a1 a2 a3 b0 b1 b2 b3
 obtain ⟨a0,a1,a2,a3⟩:=HL5.out.a.cell
 obtain ⟨b0,b1,b2,b3⟩:=HL5.out.b.cell
 go_wp2_with fail
 refine (Add_bad s0 s1 x0 x1 n0 c0 n1 c1 (tms q1) l1 _ (HF.out _ HL5.out.fa) (HG.out _ HL5.out.fb) (.inr HY.out)).mono ?_
 rintro e w6 ⟨hb,rfl⟩
 have hC:Below w6.heap.size w6 (w6.alloc (.cells #[.slice none 0 0,.string ⟨#[]⟩] 24)):=(Below.refl _ w6).alloc (Nat.le_refl _) _
 have hbC:=hb.trans (hC.mono hb.size)
 have hL6:=HL5.out.keep hbC
 have HL6:=Lib.hid hL6
 have HGX:=Lib.hid (Bx.new w6 (.slice none 0 0) (.string ⟨#[]⟩) 24)
 have HAF6:=Lib.hid (HAF5.out.keep hbC)
 have HAR6:=Lib.hid (HAR5.out.keep hbC)
 have HAN6:=Lib.hid (HAN5.out.keep hbC (Nat.le_refl _))
 have HBF6:=Lib.hid (HBF5.out.keep hbC)
 clear hb hC hbC hL6 a0 a1 a2 a3 b0 b1 b2 b3
 obtain ⟨g0,g1',_,_⟩:=HGX.out.cell
 obtain ⟨c0',c1',c2',c3',c4'⟩:=HAF6.out.cell
 obtain ⟨d0',d1',d2',d3',d4'⟩:=HBF6.out.cell
 have hga:=HGX.out.lt
 have hgb:=HAF6.out.lt
 have hgc:=HBF6.out.lt
 have hmx:max (0:Int) 3=3:=by decide
 have HAD:Hid (∀ W,Below (w6.alloc (.cells #[.slice none 0 0,.string ⟨#[]⟩] 24)).heap.size (w6.alloc (.cells #[.slice none 0 0,.string ⟨#[]⟩] 24)) W→Calls Tryz.prog 40 #[.agg #[.bool i1,.slice j1 k1 u1,.bool i2,.slice j2 k2 u2],.agg #[.bool false,.slice none 0 0,.bool false,.slice none 0 0]] W (RRPost 0 W)):=Lib.hid (add_nil (.inr ⟨rfl,p1,HAN6.out,HTC1.out.2.mono (by omega)⟩))
 have HRA:Hid (RowQ _ (w6.alloc (.cells #[.slice none 0 0,.string ⟨#[]⟩] 24)) (.slice as1 M1 ca1) (rowOf (co q1) M1) cs1):=Lib.hid (HAR6.out)
 have HRB:Hid (RowQ 0 (w6.alloc (.cells #[.slice none 0 0,.string ⟨#[]⟩] 24)) (.slice none 0 0) (rowOf zf 0) []):=Lib.hid (RowQ.nil _ _)
 have HPP:=Lib.hid (And.intro (show ∀ c,(M1:Int)≤c→(co q1) c=0 from HPA1.out) (show ∀ c,((0:Nat):Int)≤c→zf c=0 from (fun _ _=>rfl)))
 have HTT:=Lib.hid (And.intro (show ∀ c,RT 400 ((co q1) c) from (fun c=>(HTC1.out.1 c).mono (by omega))) (show ∀ c,RT 400 (zf c) from (fun _=>⟨ten0,Ten.one (by omega)⟩)))
 go_wp2_with fail
 go_region_held3 (fun w'=>w'.cell? ⟨w6.heap.size,0,none⟩=some (.slice none 0 0)∧w'.cell? ⟨w6.heap.size,1,none⟩=some (.string ⟨#[]⟩)∧w'.cell? ⟨w4.heap.size,0,none⟩=some (.slice as1 M1 ca1)∧w'.cell? ⟨w4.heap.size,1,none⟩=some (.bool i1)∧w'.cell? ⟨w4.heap.size,2,none⟩=some (.slice j1 k1 u1)∧w'.cell? ⟨w4.heap.size,3,none⟩=some (.bool i2)∧w'.cell? ⟨w4.heap.size,4,none⟩=some (.slice j2 k2 u2)∧w'.cell? ⟨w5.heap.size,0,none⟩=some (.slice none 0 0)∧w'.cell? ⟨w5.heap.size,1,none⟩=some (.bool false)∧w'.cell? ⟨w5.heap.size,2,none⟩=some (.slice none 0 0)∧w'.cell? ⟨w5.heap.size,3,none⟩=some (.bool false)∧w'.cell? ⟨w5.heap.size,4,none⟩=some (.slice none 0 0)) (first | ((try dsimp only);(repeat' apply And.intro);all_goals with_reducible assumption) | go_keep) (first | (go_at_call 14;have hgd:=HR7;clear hgd;refine (is_bad _ _ _ _ _ 3 _ (by decide)).mono ?_;rintro e w8 ⟨rfl,hb9⟩;have hb10:Below (w6.alloc (.cells #[.slice none 0 0,.string ⟨#[]⟩] 24)).heap.size (w6.alloc (.cells #[.slice none 0 0,.string ⟨#[]⟩] 24)) w8:=HB8.out.trans (hb9.mono HB8.out.size);have Vg0:=(hb9.cell (p:=⟨w6.heap.size,0,none⟩) (Nat.lt_of_lt_of_le hga HB8.out.size)).trans Ug0;have Vg1:=(hb9.cell (p:=⟨w6.heap.size,1,none⟩) (Nat.lt_of_lt_of_le hga HB8.out.size)).trans Ug1;have Vc0:=(hb9.cell (p:=⟨w4.heap.size,0,none⟩) (Nat.lt_of_lt_of_le hgb HB8.out.size)).trans Uc0;have Vc1:=(hb9.cell (p:=⟨w4.heap.size,1,none⟩) (Nat.lt_of_lt_of_le hgb HB8.out.size)).trans Uc1;have Vc2:=(hb9.cell (p:=⟨w4.heap.size,2,none⟩) (Nat.lt_of_lt_of_le hgb HB8.out.size)).trans Uc2;have Vc3:=(hb9.cell (p:=⟨w4.heap.size,3,none⟩) (Nat.lt_of_lt_of_le hgb HB8.out.size)).trans Uc3;have Vc4:=(hb9.cell (p:=⟨w4.heap.size,4,none⟩) (Nat.lt_of_lt_of_le hgb HB8.out.size)).trans Uc4;have Vd0:=(hb9.cell (p:=⟨w5.heap.size,0,none⟩) (Nat.lt_of_lt_of_le hgc HB8.out.size)).trans Ud0;have Vd1:=(hb9.cell (p:=⟨w5.heap.size,1,none⟩) (Nat.lt_of_lt_of_le hgc HB8.out.size)).trans Ud1;have Vd2:=(hb9.cell (p:=⟨w5.heap.size,2,none⟩) (Nat.lt_of_lt_of_le hgc HB8.out.size)).trans Ud2;have Vd3:=(hb9.cell (p:=⟨w5.heap.size,3,none⟩) (Nat.lt_of_lt_of_le hgc HB8.out.size)).trans Ud3;have Vd4:=(hb9.cell (p:=⟨w5.heap.size,4,none⟩) (Nat.lt_of_lt_of_le hgc HB8.out.size)).trans Ud4;have HB10:=Lib.hid hb10;clear hb9 hb10 Ug0 Ug1 Uc0 Uc1 Uc2 Uc3 Uc4 Ud0 Ud1 Ud2 Ud3 Ud4) | (go_at_call 15;have hdr:Below (w6.alloc (.cells #[.slice none 0 0,.string ⟨#[]⟩] 24)).heap.size (w6.alloc (.cells #[.slice none 0 0,.string ⟨#[]⟩] 24)) (w6.alloc (.cells #[.slice none 0 0,.string ⟨#[]⟩] 24)).drew:=(Below.refl _ (w6.alloc (.cells #[.slice none 0 0,.string ⟨#[]⟩] 24))).drew;refine (rfAdd_any _ _ _ _ _ _ _ _ _ _ _ _ _ _ _ _ _ _ _ _ M1 0 (co q1) zf cs1 [] 0 _ (by exact HRA.out.keep hdr) (by exact HRB.out.keep hdr) HPP.out.1 HPP.out.2 HTT.out.1 HTT.out.2 hm21 (by omega) (fun W hb=>HAD.out W (hdr.trans (hb.mono hdr.size)))).mono ?_;rintro e w7 ⟨⟨v7,rfl,s7,cs7,c7,rfl,hrow7,hnum7⟩,hb7⟩;obtain ⟨o1,e1,f1,g1,o2,e2,f2,g2,rfl⟩:=hnum7.expl;obtain ⟨as3,ca3,hsv7⟩:=hrow7.slice;subst hsv7;have hb8:Below (w6.alloc (.cells #[.slice none 0 0,.string ⟨#[]⟩] 24)).heap.size (w6.alloc (.cells #[.slice none 0 0,.string ⟨#[]⟩] 24)) w7:=hdr.trans hb7;have Ug0:=(hb8.cell (p:=⟨w6.heap.size,0,none⟩) hga).trans g0;have Ug1:=(hb8.cell (p:=⟨w6.heap.size,1,none⟩) hga).trans g1';have Uc0:=(hb8.cell (p:=⟨w4.heap.size,0,none⟩) hgb).trans c0';have Uc1:=(hb8.cell (p:=⟨w4.heap.size,1,none⟩) hgb).trans c1';have Uc2:=(hb8.cell (p:=⟨w4.heap.size,2,none⟩) hgb).trans c2';have Uc3:=(hb8.cell (p:=⟨w4.heap.size,3,none⟩) hgb).trans c3';have Uc4:=(hb8.cell (p:=⟨w4.heap.size,4,none⟩) hgb).trans c4';have Ud0:=(hb8.cell (p:=⟨w5.heap.size,0,none⟩) hgc).trans d0';have Ud1:=(hb8.cell (p:=⟨w5.heap.size,1,none⟩) hgc).trans d1';have Ud2:=(hb8.cell (p:=⟨w5.heap.size,2,none⟩) hgc).trans d2';have Ud3:=(hb8.cell (p:=⟨w5.heap.size,3,none⟩) hgc).trans d3';have Ud4:=(hb8.cell (p:=⟨w5.heap.size,4,none⟩) hgc).trans d4';have HB8:=Lib.hid hb8;have HR7:=Lib.hid hrow7;have HN7:=Lib.hid hnum7;clear hb7 hb8 hrow7 hnum7 hdr g0 g1' c0' c1' c2' c3' c4' d0' d1' d2' d3' d4'))
 all_goals
  clear Vg0 Vg1 Vc0 Vc1 Vc2 Vc3 Vc4 Vd0 Vd1 Vd2 Vd3 Vd4 hga hgb hgc hmx
  have HL8:=Lib.hid (HL6.out.keep HB10.out)
  have HAF8:=Lib.hid (HAF6.out.keep HB10.out)
  have HAR8:=Lib.hid (HAR6.out.keep HB10.out)
  have HAN8:=Lib.hid (HAN6.out.keep HB10.out (Nat.le_refl _))
  obtain ⟨a0,a1,a2,a3⟩:=HL8.out.a.cell
  obtain ⟨b0,b1,b2,b3⟩:=HL8.out.b.cell
  go_wp2_with fail
  refine (rrRead_any yb oy _ HOY (by have:=HYS.out.2;omega)).mono ?_
  rintro e w9 ⟨y1,y2,y3,y4,y5,y6,y7,y8,rfl,hq,hb⟩
  have hC:Below w9.heap.size w9 (w9.alloc (.cells #[.bool y1,.slice y2 y3 y4,.bool y5,.slice y6 y7 y8] 33)):=(Below.refl _ w9).alloc (Nat.le_refl _) _
  have hbC:=hb.trans (hC.mono hb.size)
  have HL9:=Lib.hid (HL8.out.keep hbC)
  have HY9:=Lib.hid (B4.new w9 (.bool y1) (.slice y2 y3 y4) (.bool y5) (.slice y6 y7 y8) 33)
  have HQ9:=Lib.hid (fun q h=>(hq q h).keep hC (Nat.le_refl _))
  have HAF9:=Lib.hid (HAF8.out.keep hbC)
  have HAR9:=Lib.hid (HAR8.out.keep hbC)
  have HAN9:=Lib.hid (HAN8.out.keep hbC (Nat.le_refl _))
  clear hb hC hbC hq a0 a1 a2 a3 b0 b1 b2 b3
  obtain ⟨a0,a1,a2,a3⟩:=HL9.out.a.cell
  obtain ⟨b0,b1,b2,b3⟩:=HL9.out.b.cell
  rcases oy with _ | y
  · rw [show (none:Option Rat).isSome=false from rfl]
    go_wp2_with fail
    refine (Scale_bad s0 yb x0 n0 c0 (tms q1) _ (HF.out _ HL9.out.fa) (by have:=HYS.out.2;omega) (.inr (by rw [HOY.out];rfl))).mono ?_
    rintro e w10 ⟨hb,rfl⟩
    have HL10:=Lib.hid ((HL9.out.keep hb).keep ((Below.refl _ w10).alloc (Nat.le_refl _) (.cells #[.slice none 0 0,.string ⟨#[]⟩] 24)))
    have HG10:=Lib.hid (Bx.new w10 (.slice none 0 0) (.string ⟨#[]⟩) 24)
    obtain ⟨g0,g1',_,_⟩:=HG10.out.cell
    clear hb a0 a1 a2 a3 b0 b1 b2 b3
    go_wp2_with fail
    refine (lawake_any _ HL10.out.tab HL10.out.ers).mono ?_
    rintro e wz ⟨rfl,hb⟩
    have HZ:=Lib.hid (HL10.out.below.trans (hb.mono HL10.out.below.size))
    clear hb
    go_wp2
    go_ret
    exact ⟨rfl,HZ.out⟩
  · rw [show (some y:Option Rat).isSome=true from rfl]
    have hys2:rshort y=true:=(RIs.of HOY.out).2
    have hyt:txt y=yb:=(RIs.of HOY.out).1.symm
    have hy120:RT 120 y:=(RIs.of HOY.out).ten HYS.out.2
    have HYY:=Lib.hid (And.intro hys2 (And.intro hyt hy120))
    have HYR:=Lib.hid (HQ9.out y rfl)
    clear hys2 hyt hy120
    have hscl:=scl_all (K:=120) (L:=120) (by omega) HTC1.out.2 HYY.out.2.2 HTC1.out.1 HFO1.out.2.1
    have hsr:=(sclRes_some HFO1.out.2.1 hscl).1
    have hsg:=(sclRes_some HFO1.out.2.1 hscl).2.2
    have hsl:=sclRes_len hscl
    obtain ⟨xt,hxt⟩:∃ xt,txt (p1*y)=xt:=⟨_,rfl⟩
    have HSCL:=Lib.hid (And.intro hscl (And.intro hsr (And.intro hsg (And.intro hsl hxt))))
    clear hscl hsr hsg hsl hxt
    go_wp2_with fail
    refine (Scale_good p1 y s0 yb x0 n0 c0 q1 _ (HV1.out _ HL9.out.fa) HYY.out.1 HYY.out.2.1 HL9.out.tab).mono ?_
    rintro e w10 h
    rw [HSCL.out.1,HSCL.out.2.2.2.2] at h
    obtain ⟨ad2,n2,cap2,rfl,hinv,hb⟩:=h.inv HSCL.out.2.2.2.2 HSCL.out.2.1 HSCL.out.2.2.1 (by have h1:=HSCL.out.2.2.2.1;have h2:=HLQ1.out;omega)
    have hts:=hinv.in_.at_
    have hC:Below w10.heap.size w10 (w10.alloc (.cells #[.slice ad2 n2 cap2,.string xt] 24)):=(Below.refl _ w10).alloc (Nat.le_refl _) _
    have hbC:=hb.trans (hC.mono hb.size)
    have HL10:=Lib.hid (HL9.out.keep hbC)
    have HGY:=Lib.hid (Bx.new w10 (.slice ad2 n2 cap2) (.string xt) 24)
    have HY10:=Lib.hid (HY9.out.below hbC HY9.out.lt)
    have HYR10:=Lib.hid (HYR.out.keep hbC (Nat.le_refl _))
    have HAF10:=Lib.hid (HAF9.out.keep hbC)
    have HAR10:=Lib.hid (HAR9.out.keep hbC)
    have HAN10:=Lib.hid (HAN9.out.keep hbC (Nat.le_refl _))
    have HTS3:=Lib.hid (hts.keep hC (Nat.le_refl _))
    clear hb hC hbC a0 a1 a2 a3 b0 b1 b2 b3
    clear hts h hinv
    generalize hW10:w10.alloc (.cells #[.slice ad2 n2 cap2,.string xt] 24)=W10 at HL10 HAF10 HGY HY10 HYR10 HAR10 HAN10 HTS3 ⊢
    obtain ⟨g0,g1',_,_⟩:=HGY.out.cell
    obtain ⟨c0',c1',c2',c3',c4'⟩:=HAF10.out.cell
    obtain ⟨d0',d1',d2',d3'⟩:=HY10.out.cell
    have hga:=HGY.out.lt
    have hgb:=HAF10.out.lt
    have hgc:=HY10.out.lt
    have HMU:Hid (∀ W,Below W10.heap.size W10 W→Calls Tryz.prog 47 #[.agg #[.bool i1,.slice j1 k1 u1,.bool i2,.slice j2 k2 u2],.agg #[.bool y1,.slice y2 y3 y4,.bool y5,.slice y6 y7 y8]] W (RRPost (p1*y) W)):=Lib.hid (fun W hb=>rrMul_any _ _ p1 y 120 (p1*y) W (HAN10.out.keep hb (Nat.le_refl _)) (HYR10.out.keep hb (Nat.le_refl _)) HTC1.out.2 HYY.out.2.2 (by omega) (Lib.hid rfl))
    have HRS:Hid (RowQ _ W10 (.slice as1 M1 ca1) (rowOf (co q1) M1) cs1):=Lib.hid HAR10.out
    have HSH2:Hid ((∀ c,rshort (co q1 c*y)=true)∧True):=Lib.hid ⟨fun c=>((HTC1.out.1 c).mul HYY.out.2.2).short (by omega),trivial⟩
    have HSX2:Hid (txt (p1*y)=xt):=Lib.hid HSCL.out.2.2.2.2
    have HTS4:Hid (TsAt W10 (.slice ad2 n2 cap2) (tms (formUp (fun c=>co q1 c*y) M1))):=Lib.hid (by
     rw [← formOf_cut (fun c hc=>by rw [HPA1.out c (by omega),Rat.zero_mul]) hm21]
     exact HTS3.out)
    go_wp2_with fail
    go_region_held3 (fun w'=>w'.cell? ⟨w10.heap.size,0,none⟩=some (.slice ad2 n2 cap2)∧w'.cell? ⟨w10.heap.size,1,none⟩=some (.string xt)∧w'.cell? ⟨w4.heap.size,0,none⟩=some (.slice as1 M1 ca1)∧w'.cell? ⟨w4.heap.size,1,none⟩=some (.bool i1)∧w'.cell? ⟨w4.heap.size,2,none⟩=some (.slice j1 k1 u1)∧w'.cell? ⟨w4.heap.size,3,none⟩=some (.bool i2)∧w'.cell? ⟨w4.heap.size,4,none⟩=some (.slice j2 k2 u2)∧w'.cell? ⟨w9.heap.size,0,none⟩=some (.bool y1)∧w'.cell? ⟨w9.heap.size,1,none⟩=some (.slice y2 y3 y4)∧w'.cell? ⟨w9.heap.size,2,none⟩=some (.bool y5)∧w'.cell? ⟨w9.heap.size,3,none⟩=some (.slice y6 y7 y8)) (first | ((try dsimp only);(repeat' apply And.intro);all_goals with_reducible assumption) | go_keep) (first | (go_at_call 11;have hgd:=HB10b;clear hgd;have hl12:=HL10.out.keep HB10b.out;refine (lawake_any _ hl12.tab hl12.ers).mono ?_;rintro e w13 ⟨rfl,hb11⟩;have hb12:Below W10.heap.size W10 w13:=HB10b.out.trans (hb11.mono HB10b.out.size);have Xg0:=(hb11.cell (p:=⟨w10.heap.size,0,none⟩) (Nat.lt_of_lt_of_le hga HB10b.out.size)).trans Vg0;have Xg1:=(hb11.cell (p:=⟨w10.heap.size,1,none⟩) (Nat.lt_of_lt_of_le hga HB10b.out.size)).trans Vg1;have Xc0:=(hb11.cell (p:=⟨w4.heap.size,0,none⟩) (Nat.lt_of_lt_of_le hgb HB10b.out.size)).trans Vc0;have Xc1:=(hb11.cell (p:=⟨w4.heap.size,1,none⟩) (Nat.lt_of_lt_of_le hgb HB10b.out.size)).trans Vc1;have Xc2:=(hb11.cell (p:=⟨w4.heap.size,2,none⟩) (Nat.lt_of_lt_of_le hgb HB10b.out.size)).trans Vc2;have Xc3:=(hb11.cell (p:=⟨w4.heap.size,3,none⟩) (Nat.lt_of_lt_of_le hgb HB10b.out.size)).trans Vc3;have Xc4:=(hb11.cell (p:=⟨w4.heap.size,4,none⟩) (Nat.lt_of_lt_of_le hgb HB10b.out.size)).trans Vc4;have Xd0:=(hb11.cell (p:=⟨w9.heap.size,0,none⟩) (Nat.lt_of_lt_of_le hgc HB10b.out.size)).trans Vd0;have Xd1:=(hb11.cell (p:=⟨w9.heap.size,1,none⟩) (Nat.lt_of_lt_of_le hgc HB10b.out.size)).trans Vd1;have Xd2:=(hb11.cell (p:=⟨w9.heap.size,2,none⟩) (Nat.lt_of_lt_of_le hgc HB10b.out.size)).trans Vd2;have Xd3:=(hb11.cell (p:=⟨w9.heap.size,3,none⟩) (Nat.lt_of_lt_of_le hgc HB10b.out.size)).trans Vd3;have HB12:=Lib.hid hb12;clear hl12 hb11 hb12 Vg0 Vg1 Vc0 Vc1 Vc2 Vc3 Vc4 Vd0 Vd1 Vd2 Vd3) | (go_at_call 14;have hgd:=HR7;clear hgd;refine (is_good ad2 n2 cap2 xt _ _ _ _ _ _ _ _ _ _ M1 (fun c=>co q1 c*y) cs7 (p1*y) _ HR7.out HN7.out HSH2.out.1 HSCL.out.2.1 hm21 HSX2 (by exact HTS4.out.keep HB8.out (Nat.le_refl _))).mono ?_;rintro e w12 ⟨rfl,hb9⟩;have hb10:Below W10.heap.size W10 w12:=HB8.out.trans (hb9.mono HB8.out.size);have Vg0:=(hb9.cell (p:=⟨w10.heap.size,0,none⟩) (Nat.lt_of_lt_of_le hga HB8.out.size)).trans Ug0;have Vg1:=(hb9.cell (p:=⟨w10.heap.size,1,none⟩) (Nat.lt_of_lt_of_le hga HB8.out.size)).trans Ug1;have Vc0:=(hb9.cell (p:=⟨w4.heap.size,0,none⟩) (Nat.lt_of_lt_of_le hgb HB8.out.size)).trans Uc0;have Vc1:=(hb9.cell (p:=⟨w4.heap.size,1,none⟩) (Nat.lt_of_lt_of_le hgb HB8.out.size)).trans Uc1;have Vc2:=(hb9.cell (p:=⟨w4.heap.size,2,none⟩) (Nat.lt_of_lt_of_le hgb HB8.out.size)).trans Uc2;have Vc3:=(hb9.cell (p:=⟨w4.heap.size,3,none⟩) (Nat.lt_of_lt_of_le hgb HB8.out.size)).trans Uc3;have Vc4:=(hb9.cell (p:=⟨w4.heap.size,4,none⟩) (Nat.lt_of_lt_of_le hgb HB8.out.size)).trans Uc4;have Vd0:=(hb9.cell (p:=⟨w9.heap.size,0,none⟩) (Nat.lt_of_lt_of_le hgc HB8.out.size)).trans Ud0;have Vd1:=(hb9.cell (p:=⟨w9.heap.size,1,none⟩) (Nat.lt_of_lt_of_le hgc HB8.out.size)).trans Ud1;have Vd2:=(hb9.cell (p:=⟨w9.heap.size,2,none⟩) (Nat.lt_of_lt_of_le hgc HB8.out.size)).trans Ud2;have Vd3:=(hb9.cell (p:=⟨w9.heap.size,3,none⟩) (Nat.lt_of_lt_of_le hgc HB8.out.size)).trans Ud3;have HB10b:=Lib.hid hb10;clear hb9 hb10 Ug0 Ug1 Uc0 Uc1 Uc2 Uc3 Uc4 Ud0 Ud1 Ud2 Ud3) | (go_at_call 18;have hdr:Below W10.heap.size W10 W10.drew:=(Below.refl _ W10).drew;refine (rfScale_any _ _ _ _ _ _ _ _ _ _ _ _ _ _ _ _ _ _ M1 (co q1) cs1 y (p1*y) _ (by exact HRS.out.keep hdr) (by exact HYR10.out.keep hdr (Nat.le_refl _)) (fun c=>(HTC1.out.1 c).mono (by omega)) (HYY.out.2.2.mono (by omega)) hm21 (fun W hb=>HMU.out W (hdr.trans (hb.mono hdr.size)))).mono ?_;rintro e w11 ⟨⟨v7,rfl,s7,cs7,c7,rfl,hrow7,hnum7⟩,hb7⟩;obtain ⟨o1,e1,f1,g1,o2,e2,f2,g2,rfl⟩:=hnum7.expl;obtain ⟨as3,ca3,hsv7⟩:=hrow7.slice;subst hsv7;have hb8:Below W10.heap.size W10 w11:=hdr.trans hb7;have Ug0:=(hb8.cell (p:=⟨w10.heap.size,0,none⟩) hga).trans g0;have Ug1:=(hb8.cell (p:=⟨w10.heap.size,1,none⟩) hga).trans g1';have Uc0:=(hb8.cell (p:=⟨w4.heap.size,0,none⟩) hgb).trans c0';have Uc1:=(hb8.cell (p:=⟨w4.heap.size,1,none⟩) hgb).trans c1';have Uc2:=(hb8.cell (p:=⟨w4.heap.size,2,none⟩) hgb).trans c2';have Uc3:=(hb8.cell (p:=⟨w4.heap.size,3,none⟩) hgb).trans c3';have Uc4:=(hb8.cell (p:=⟨w4.heap.size,4,none⟩) hgb).trans c4';have Ud0:=(hb8.cell (p:=⟨w9.heap.size,0,none⟩) hgc).trans d0';have Ud1:=(hb8.cell (p:=⟨w9.heap.size,1,none⟩) hgc).trans d1';have Ud2:=(hb8.cell (p:=⟨w9.heap.size,2,none⟩) hgc).trans d2';have Ud3:=(hb8.cell (p:=⟨w9.heap.size,3,none⟩) hgc).trans d3';have HB8:=Lib.hid hb8;have HR7:=Lib.hid hrow7;have HN7:=Lib.hid hnum7;clear hb7 hb8 hrow7 hnum7 hdr g0 g1' c0' c1' c2' c3' c4' d0' d1' d2' d3'))
    all_goals
     have HZ:=Lib.hid (HL10.out.below.trans (HB12.out.mono HL10.out.below.size))
     clear Xg0 Xg1 Xc0 Xc1 Xc2 Xc3 Xc4 Xd0 Xd1 Xd2 Xd3 hga hgb hgc
     go_wp2
     go_ret
     exact ⟨rfl,HZ.out⟩
set_option maxRecDepth 100000 in
set_option maxHeartbeats 6400000 in
theorem adds_bg (x0:Option Addr) (n0 c0:Nat) (s0:ByteArray) (l0:List Tm) (x1:Option Addr) (n1 c1:Nat) (s1:ByteArray) (l1:List Tm) (yb:ByteArray) (w:World) (htab:Tab w) (he:Ers w)
 (ha0:TsAt w (.slice x0 n0 c0) l0) (hn0:x0=none→c0=0) (hm0:n0≤9223372036854775807) (ha1:TsAt w (.slice x1 n1 c1) l1) (hn1:x1=none→c1=0) (hm1:n1≤9223372036854775807) (hA:lightB s0 l0=true) (hB:lightB s1 l1=true) (hS:shortC [yb]=true) (hX:checkErr s0 l0≠0) (hY:checkErr s1 l1=0) :
 Calls Tryz.prog 3 #[.agg #[.slice x0 n0 c0,.string s0],.agg #[.slice x1 n1 c1,.string s1],.string yb] w fun e w'=>e = .returned (.bool true)∧Below w.heap.size w w':=by
 have hF:∀ W,TsAt W (.slice x0 n0 c0) l0→InF W x0 n0 c0 s0 l0:=fun W h=>(inF_light h hn0 hA).1
 have hG:∀ W,TsAt W (.slice x1 n1 c1) l1→InF W x1 n1 c1 s1 l1:=fun W h=>(inF_light h hn1 hB).1
 have HF:=Lib.hid hF
 have HG:=Lib.hid hG
 clear hF hG
 have hls0:=light_sizes hA
 have hls1:=light_sizes hB
 have hys:yb.size≤120:=by
  unfold shortC at hS
  rw [List.all_eq_true] at hS
  exact of_decide_eq_true (hS yb (by simp))
 obtain ⟨oy,hoy⟩:∃ oy,rval yb.data.toList=oy:=⟨_,rfl⟩
 have HOY:=Lib.hid hoy
 have HYS:=Lib.hid (And.intro trivial hys)
 clear hoy hys
 have HX:=Lib.hid hX
 clear hX
 obtain ⟨p2,q2,hlq,hin⟩:=(HG.out _ ha1).valid hY
 subst hlq
 have hx:=hin.is_
 have hsq:=hin.short
 have hfo:=hin.fo
 have hV:∀ W,TsAt W (.slice x1 n1 c1) (tms q2)→InV W x1 n1 c1 p2 s1 q2:=fun W h=>⟨HG.out W h,hx,hsq,hfo⟩
 have HV2:=Lib.hid hV
 obtain ⟨M2,hM2⟩:∃ m,colsOf q2=m:=⟨_,rfl⟩
 have HM2:=Lib.hid (And.intro trivial hM2)
 have hm22:M2≤2048:=by rw [← hM2];exact fo_cols hfo
 have HFO2:=Lib.hid (And.intro hsq (And.intro hfo hx))
 have hpast2:=co_past hfo
 rw [hM2] at hpast2
 have HTC2:Hid ((∀ c,RT 120 (co q2 c))∧RT 120 p2):=Lib.hid ⟨co_ten hls1.1 hfo,(txt_is hsq).ten (by rw [hx];exact hls1.2.2)⟩
 have HLQ2:Hid (q2.length≤8):=Lib.hid (by have:=hls1.2.1;simpa [tms] using this)
 have HPA2:=Lib.hid hpast2
 clear hV hin hx hsq hfo hM2 hpast2 hY
 clear hls0 hls1
 have hnil:SsAt w (.slice none 0 0) []:=⟨_,_,_,rfl,rfl,.inl rfl⟩
 have HL0:=Lib.hid (LV.start (s0:=s0) (s1:=s1) w ha0 ha1 hnil htab he)
 clear ha0 ha1 hnil htab he
 obtain ⟨a0,a1,a2,a3⟩:=HL0.out.a.cell
 obtain ⟨b0,b1,b2,b3⟩:=HL0.out.b.cell
 go_enter Tryz.func3,Tryz.ntmps3
 go_wp2_with fail
 refine (Light_any s0 x0 n0 c0 l0 true _ HL0.out.fa hm0 (Lib.hid hA)).mono ?_
 rintro e w1 ⟨rfl,hb⟩
 have HL1:=Lib.hid (HL0.out.keep hb)
 clear hb a0 a1 a2 a3 b0 b1 b2 b3
 obtain ⟨a0,a1,a2,a3⟩:=HL1.out.a.cell
 obtain ⟨b0,b1,b2,b3⟩:=HL1.out.b.cell
 go_wp2_with fail
 refine (Light_any s1 x1 n1 c1 (tms q2) true _ HL1.out.fb hm1 (Lib.hid hB)).mono ?_
 rintro e w2 ⟨rfl,hb⟩
 have HL2:=Lib.hid (HL1.out.keep hb)
 clear hb a0 a1 a2 a3 b0 b1 b2 b3
 obtain ⟨a0,a1,a2,a3⟩:=HL2.out.a.cell
 obtain ⟨b0,b1,b2,b3⟩:=HL2.out.b.cell
 go_wp2_with fail
 have hA3:=(Below.refl w2.heap.size w2).alloc (Nat.le_refl _) (.cells #[.string yb] 9)
 have HL3:=Lib.hid (HL2.out.keep hA3)
 have hsy:=SsAt.one w2 yb 9
 refine (lshort_any _ 1 1 [yb] true _ hsy (by omega) (Lib.hid hS)).mono ?_
 rintro e w3 ⟨rfl,hww⟩
 rw [← hww]
 clear hww w3 hA3 hsy a0 a1 a2 a3 b0 b1 b2 b3
 obtain ⟨a0,a1,a2,a3⟩:=HL3.out.a.cell
 obtain ⟨b0,b1,b2,b3⟩:=HL3.out.b.cell
 go_wp2_with fail
 refine (lread_bad s0 x0 n0 c0 l0 _ (HF.out _ HL3.out.fa) HX.out).mono ?_
 rintro e w4 ⟨rfl,hb⟩
 have hC:Below w4.heap.size w4 (w4.alloc (.cells #[.slice none 0 0,.bool false,.slice none 0 0,.bool false,.slice none 0 0] 35)):=(Below.refl _ w4).alloc (Nat.le_refl _) _
 have hbC:=hb.trans (hC.mono hb.size)
 have HL4:=Lib.hid (HL3.out.keep hbC)
 have HAF4:=Lib.hid (B5.new w4 (.slice none 0 0) (.bool false) (.slice none 0 0) (.bool false) (.slice none 0 0) 35)
 clear hb hC hbC a0 a1 a2 a3 b0 b1 b2 b3
 obtain ⟨a0,a1,a2,a3⟩:=HL4.out.a.cell
 obtain ⟨b0,b1,b2,b3⟩:=HL4.out.b.cell
 go_wp2_with fail
 refine (lread_good p2 s1 x1 n1 c1 q2 _ (HV2.out _ HL4.out.fb)).mono ?_
 rintro e w5 ⟨⟨v,rfl,sv,cs2,c4,rfl,hrow,hnum⟩,hb⟩
 obtain ⟨i3,j3,k3,u3,i4,j4,k4,u4,rfl⟩:=hnum.expl
 obtain ⟨as2,ca2,hsv⟩:=hrow.slice
 rw [rowOf_length,HM2.out.2] at hsv
 subst hsv
 rw [HM2.out.2] at hrow
 have hC:Below w5.heap.size w5 (w5.alloc (.cells #[.slice as2 M2 ca2,.bool i3,.slice j3 k3 u3,.bool i4,.slice j4 k4 u4] 35)):=(Below.refl _ w5).alloc (Nat.le_refl _) _
 have hbC:=hb.trans (hC.mono hb.size)
 have HL5:=Lib.hid (HL4.out.keep hbC)
 have HBF5:=Lib.hid (B5.new w5 (.slice as2 M2 ca2) (.bool i3) (.slice j3 k3 u3) (.bool i4) (.slice j4 k4 u4) 35)
 have HBR5:=Lib.hid (hrow.keep hC)
 have HBN5:=Lib.hid (hnum.keep hC (Nat.le_refl _))
 have HAF5:=Lib.hid (HAF4.out.keep hbC)
 clear hb hC hbC a0 a1 a2 a3 b0 b1 b2 b3
 clear hrow hnum
 obtain ⟨a0,a1,a2,a3⟩:=HL5.out.a.cell
 obtain ⟨b0,b1,b2,b3⟩:=HL5.out.b.cell
 go_wp2_with fail
 refine (Add_bad s0 s1 x0 x1 n0 c0 n1 c1 l0 (tms q2) _ (HF.out _ HL5.out.fa) (HG.out _ HL5.out.fb) (.inl HX.out)).mono ?_
 rintro e w6 ⟨hb,rfl⟩
 have hC:Below w6.heap.size w6 (w6.alloc (.cells #[.slice none 0 0,.string ⟨#[]⟩] 24)):=(Below.refl _ w6).alloc (Nat.le_refl _) _
 have hbC:=hb.trans (hC.mono hb.size)
 have hL6:=HL5.out.keep hbC
 have HL6:=Lib.hid hL6
 have HGX:=Lib.hid (Bx.new w6 (.slice none 0 0) (.string ⟨#[]⟩) 24)
 have HAF6:=Lib.hid (HAF5.out.keep hbC)
 have HBF6:=Lib.hid (HBF5.out.keep hbC)
 have HBR6:=Lib.hid (HBR5.out.keep hbC)
 have HBN6:=Lib.hid (HBN5.out.keep hbC (Nat.le_refl _))
 clear hb hC hbC hL6 a0 a1 a2 a3 b0 b1 b2 b3
 obtain ⟨g0,g1',_,_⟩:=HGX.out.cell
 obtain ⟨c0',c1',c2',c3',c4'⟩:=HAF6.out.cell
 obtain ⟨d0',d1',d2',d3',d4'⟩:=HBF6.out.cell
 have hga:=HGX.out.lt
 have hgb:=HAF6.out.lt
 have hgc:=HBF6.out.lt
 have hmx:max (3:Int) 0=3:=by decide
 have HAD:Hid (∀ W,Below (w6.alloc (.cells #[.slice none 0 0,.string ⟨#[]⟩] 24)).heap.size (w6.alloc (.cells #[.slice none 0 0,.string ⟨#[]⟩] 24)) W→Calls Tryz.prog 40 #[.agg #[.bool false,.slice none 0 0,.bool false,.slice none 0 0],.agg #[.bool i3,.slice j3 k3 u3,.bool i4,.slice j4 k4 u4]] W (RRPost 0 W)):=Lib.hid (add_nil (.inl ⟨rfl,.inr ⟨p2,HBN6.out,HTC2.out.2.mono (by omega)⟩⟩))
 have HRA:Hid (RowQ 0 (w6.alloc (.cells #[.slice none 0 0,.string ⟨#[]⟩] 24)) (.slice none 0 0) (rowOf zf 0) []):=Lib.hid (RowQ.nil _ _)
 have HRB:Hid (RowQ _ (w6.alloc (.cells #[.slice none 0 0,.string ⟨#[]⟩] 24)) (.slice as2 M2 ca2) (rowOf (co q2) M2) cs2):=Lib.hid (HBR6.out)
 have HPP:=Lib.hid (And.intro (show ∀ c,((0:Nat):Int)≤c→zf c=0 from (fun _ _=>rfl)) (show ∀ c,(M2:Int)≤c→(co q2) c=0 from HPA2.out))
 have HTT:=Lib.hid (And.intro (show ∀ c,RT 400 (zf c) from (fun _=>⟨ten0,Ten.one (by omega)⟩)) (show ∀ c,RT 400 ((co q2) c) from (fun c=>(HTC2.out.1 c).mono (by omega))))
 go_wp2_with fail
 go_region_held3 (fun w'=>w'.cell? ⟨w6.heap.size,0,none⟩=some (.slice none 0 0)∧w'.cell? ⟨w6.heap.size,1,none⟩=some (.string ⟨#[]⟩)∧w'.cell? ⟨w4.heap.size,0,none⟩=some (.slice none 0 0)∧w'.cell? ⟨w4.heap.size,1,none⟩=some (.bool false)∧w'.cell? ⟨w4.heap.size,2,none⟩=some (.slice none 0 0)∧w'.cell? ⟨w4.heap.size,3,none⟩=some (.bool false)∧w'.cell? ⟨w4.heap.size,4,none⟩=some (.slice none 0 0)∧w'.cell? ⟨w5.heap.size,0,none⟩=some (.slice as2 M2 ca2)∧w'.cell? ⟨w5.heap.size,1,none⟩=some (.bool i3)∧w'.cell? ⟨w5.heap.size,2,none⟩=some (.slice j3 k3 u3)∧w'.cell? ⟨w5.heap.size,3,none⟩=some (.bool i4)∧w'.cell? ⟨w5.heap.size,4,none⟩=some (.slice j4 k4 u4)) (first | ((try dsimp only);(repeat' apply And.intro);all_goals with_reducible assumption) | go_keep) (first | (go_at_call 14;have hgd:=HR7;clear hgd;refine (is_bad _ _ _ _ _ 3 _ (by decide)).mono ?_;rintro e w8 ⟨rfl,hb9⟩;have hb10:Below (w6.alloc (.cells #[.slice none 0 0,.string ⟨#[]⟩] 24)).heap.size (w6.alloc (.cells #[.slice none 0 0,.string ⟨#[]⟩] 24)) w8:=HB8.out.trans (hb9.mono HB8.out.size);have Vg0:=(hb9.cell (p:=⟨w6.heap.size,0,none⟩) (Nat.lt_of_lt_of_le hga HB8.out.size)).trans Ug0;have Vg1:=(hb9.cell (p:=⟨w6.heap.size,1,none⟩) (Nat.lt_of_lt_of_le hga HB8.out.size)).trans Ug1;have Vc0:=(hb9.cell (p:=⟨w4.heap.size,0,none⟩) (Nat.lt_of_lt_of_le hgb HB8.out.size)).trans Uc0;have Vc1:=(hb9.cell (p:=⟨w4.heap.size,1,none⟩) (Nat.lt_of_lt_of_le hgb HB8.out.size)).trans Uc1;have Vc2:=(hb9.cell (p:=⟨w4.heap.size,2,none⟩) (Nat.lt_of_lt_of_le hgb HB8.out.size)).trans Uc2;have Vc3:=(hb9.cell (p:=⟨w4.heap.size,3,none⟩) (Nat.lt_of_lt_of_le hgb HB8.out.size)).trans Uc3;have Vc4:=(hb9.cell (p:=⟨w4.heap.size,4,none⟩) (Nat.lt_of_lt_of_le hgb HB8.out.size)).trans Uc4;have Vd0:=(hb9.cell (p:=⟨w5.heap.size,0,none⟩) (Nat.lt_of_lt_of_le hgc HB8.out.size)).trans Ud0;have Vd1:=(hb9.cell (p:=⟨w5.heap.size,1,none⟩) (Nat.lt_of_lt_of_le hgc HB8.out.size)).trans Ud1;have Vd2:=(hb9.cell (p:=⟨w5.heap.size,2,none⟩) (Nat.lt_of_lt_of_le hgc HB8.out.size)).trans Ud2;have Vd3:=(hb9.cell (p:=⟨w5.heap.size,3,none⟩) (Nat.lt_of_lt_of_le hgc HB8.out.size)).trans Ud3;have Vd4:=(hb9.cell (p:=⟨w5.heap.size,4,none⟩) (Nat.lt_of_lt_of_le hgc HB8.out.size)).trans Ud4;have HB10:=Lib.hid hb10;clear hb9 hb10 Ug0 Ug1 Uc0 Uc1 Uc2 Uc3 Uc4 Ud0 Ud1 Ud2 Ud3 Ud4) | (go_at_call 15;have hdr:Below (w6.alloc (.cells #[.slice none 0 0,.string ⟨#[]⟩] 24)).heap.size (w6.alloc (.cells #[.slice none 0 0,.string ⟨#[]⟩] 24)) (w6.alloc (.cells #[.slice none 0 0,.string ⟨#[]⟩] 24)).drew:=(Below.refl _ (w6.alloc (.cells #[.slice none 0 0,.string ⟨#[]⟩] 24))).drew;refine (rfAdd_any _ _ _ _ _ _ _ _ _ _ _ _ _ _ _ _ _ _ _ _ 0 M2 zf (co q2) [] cs2 0 _ (by exact HRA.out.keep hdr) (by exact HRB.out.keep hdr) HPP.out.1 HPP.out.2 HTT.out.1 HTT.out.2 (by omega) hm22 (fun W hb=>HAD.out W (hdr.trans (hb.mono hdr.size)))).mono ?_;rintro e w7 ⟨⟨v7,rfl,s7,cs7,c7,rfl,hrow7,hnum7⟩,hb7⟩;obtain ⟨o1,e1,f1,g1,o2,e2,f2,g2,rfl⟩:=hnum7.expl;obtain ⟨as3,ca3,hsv7⟩:=hrow7.slice;subst hsv7;have hb8:Below (w6.alloc (.cells #[.slice none 0 0,.string ⟨#[]⟩] 24)).heap.size (w6.alloc (.cells #[.slice none 0 0,.string ⟨#[]⟩] 24)) w7:=hdr.trans hb7;have Ug0:=(hb8.cell (p:=⟨w6.heap.size,0,none⟩) hga).trans g0;have Ug1:=(hb8.cell (p:=⟨w6.heap.size,1,none⟩) hga).trans g1';have Uc0:=(hb8.cell (p:=⟨w4.heap.size,0,none⟩) hgb).trans c0';have Uc1:=(hb8.cell (p:=⟨w4.heap.size,1,none⟩) hgb).trans c1';have Uc2:=(hb8.cell (p:=⟨w4.heap.size,2,none⟩) hgb).trans c2';have Uc3:=(hb8.cell (p:=⟨w4.heap.size,3,none⟩) hgb).trans c3';have Uc4:=(hb8.cell (p:=⟨w4.heap.size,4,none⟩) hgb).trans c4';have Ud0:=(hb8.cell (p:=⟨w5.heap.size,0,none⟩) hgc).trans d0';have Ud1:=(hb8.cell (p:=⟨w5.heap.size,1,none⟩) hgc).trans d1';have Ud2:=(hb8.cell (p:=⟨w5.heap.size,2,none⟩) hgc).trans d2';have Ud3:=(hb8.cell (p:=⟨w5.heap.size,3,none⟩) hgc).trans d3';have Ud4:=(hb8.cell (p:=⟨w5.heap.size,4,none⟩) hgc).trans d4';have HB8:=Lib.hid hb8;have HR7:=Lib.hid hrow7;have HN7:=Lib.hid hnum7;clear hb7 hb8 hrow7 hnum7 hdr g0 g1' c0' c1' c2' c3' c4' d0' d1' d2' d3' d4'))
 all_goals
  clear Vg0 Vg1 Vc0 Vc1 Vc2 Vc3 Vc4 Vd0 Vd1 Vd2 Vd3 Vd4 hga hgb hgc hmx
  have HL8:=Lib.hid (HL6.out.keep HB10.out)
  have HAF8:=Lib.hid (HAF6.out.keep HB10.out)
  obtain ⟨a0,a1,a2,a3⟩:=HL8.out.a.cell
  obtain ⟨b0,b1,b2,b3⟩:=HL8.out.b.cell
  go_wp2_with fail
  refine (rrRead_any yb oy _ HOY (by have:=HYS.out.2;omega)).mono ?_
  rintro e w9 ⟨y1,y2,y3,y4,y5,y6,y7,y8,rfl,hq,hb⟩
  have hC:Below w9.heap.size w9 (w9.alloc (.cells #[.bool y1,.slice y2 y3 y4,.bool y5,.slice y6 y7 y8] 33)):=(Below.refl _ w9).alloc (Nat.le_refl _) _
  have hbC:=hb.trans (hC.mono hb.size)
  have HL9:=Lib.hid (HL8.out.keep hbC)
  have HY9:=Lib.hid (B4.new w9 (.bool y1) (.slice y2 y3 y4) (.bool y5) (.slice y6 y7 y8) 33)
  have HQ9:=Lib.hid (fun q h=>(hq q h).keep hC (Nat.le_refl _))
  have HAF9:=Lib.hid (HAF8.out.keep hbC)
  clear hb hC hbC hq a0 a1 a2 a3 b0 b1 b2 b3
  obtain ⟨a0,a1,a2,a3⟩:=HL9.out.a.cell
  obtain ⟨b0,b1,b2,b3⟩:=HL9.out.b.cell
  rcases oy with _ | y
  · rw [show (none:Option Rat).isSome=false from rfl]
    go_wp2_with fail
    refine (Scale_bad s0 yb x0 n0 c0 l0 _ (HF.out _ HL9.out.fa) (by have:=HYS.out.2;omega) (.inr (by rw [HOY.out];rfl))).mono ?_
    rintro e w10 ⟨hb,rfl⟩
    have HL10:=Lib.hid ((HL9.out.keep hb).keep ((Below.refl _ w10).alloc (Nat.le_refl _) (.cells #[.slice none 0 0,.string ⟨#[]⟩] 24)))
    have HG10:=Lib.hid (Bx.new w10 (.slice none 0 0) (.string ⟨#[]⟩) 24)
    obtain ⟨g0,g1',_,_⟩:=HG10.out.cell
    clear hb a0 a1 a2 a3 b0 b1 b2 b3
    go_wp2_with fail
    refine (lawake_any _ HL10.out.tab HL10.out.ers).mono ?_
    rintro e wz ⟨rfl,hb⟩
    have HZ:=Lib.hid (HL10.out.below.trans (hb.mono HL10.out.below.size))
    clear hb
    go_wp2
    go_ret
    exact ⟨rfl,HZ.out⟩
  · rw [show (some y:Option Rat).isSome=true from rfl]
    have hys2:rshort y=true:=(RIs.of HOY.out).2
    have hyt:txt y=yb:=(RIs.of HOY.out).1.symm
    have hy120:RT 120 y:=(RIs.of HOY.out).ten HYS.out.2
    have HYY:=Lib.hid (And.intro hys2 (And.intro hyt hy120))
    have HYR:=Lib.hid (HQ9.out y rfl)
    clear hys2 hyt hy120
    go_wp2_with fail
    refine (Scale_bad s0 yb x0 n0 c0 l0 _ (HF.out _ HL9.out.fa) (by have:=HYS.out.2;omega) (.inl HX.out)).mono ?_
    rintro e w10 ⟨hb,rfl⟩
    have hC:Below w10.heap.size w10 (w10.alloc (.cells #[.slice none 0 0,.string ⟨#[]⟩] 24)):=(Below.refl _ w10).alloc (Nat.le_refl _) _
    have hbC:=hb.trans (hC.mono hb.size)
    have HL10:=Lib.hid (HL9.out.keep hbC)
    have HGY:=Lib.hid (Bx.new w10 (.slice none 0 0) (.string ⟨#[]⟩) 24)
    have HY10:=Lib.hid (HY9.out.below hbC HY9.out.lt)
    have HYR10:=Lib.hid (HYR.out.keep hbC (Nat.le_refl _))
    have HAF10:=Lib.hid (HAF9.out.keep hbC)
    clear hb hC hbC a0 a1 a2 a3 b0 b1 b2 b3
    obtain ⟨g0,g1',_,_⟩:=HGY.out.cell
    obtain ⟨c0',c1',c2',c3',c4'⟩:=HAF10.out.cell
    obtain ⟨d0',d1',d2',d3'⟩:=HY10.out.cell
    have hga:=HGY.out.lt
    have hgb:=HAF10.out.lt
    have hgc:=HY10.out.lt
    have HMU:Hid (∀ W,Below (w10.alloc (.cells #[.slice none 0 0,.string ⟨#[]⟩] 24)).heap.size (w10.alloc (.cells #[.slice none 0 0,.string ⟨#[]⟩] 24)) W→Calls Tryz.prog 47 #[.agg #[.bool false,.slice none 0 0,.bool false,.slice none 0 0],.agg #[.bool y1,.slice y2 y3 y4,.bool y5,.slice y6 y7 y8]] W (RRPost 0 W)):=Lib.hid (mul_nil HYR10.out (HYY.out.2.2.mono (by omega)))
    have HRS:Hid (RowQ 0 (w10.alloc (.cells #[.slice none 0 0,.string ⟨#[]⟩] 24)) (.slice none 0 0) (rowOf zf 0) []):=Lib.hid (RowQ.nil _ _)
    go_wp2_with fail
    go_region_held3 (fun w'=>w'.cell? ⟨w10.heap.size,0,none⟩=some (.slice none 0 0)∧w'.cell? ⟨w10.heap.size,1,none⟩=some (.string ⟨#[]⟩)∧w'.cell? ⟨w4.heap.size,0,none⟩=some (.slice none 0 0)∧w'.cell? ⟨w4.heap.size,1,none⟩=some (.bool false)∧w'.cell? ⟨w4.heap.size,2,none⟩=some (.slice none 0 0)∧w'.cell? ⟨w4.heap.size,3,none⟩=some (.bool false)∧w'.cell? ⟨w4.heap.size,4,none⟩=some (.slice none 0 0)∧w'.cell? ⟨w9.heap.size,0,none⟩=some (.bool y1)∧w'.cell? ⟨w9.heap.size,1,none⟩=some (.slice y2 y3 y4)∧w'.cell? ⟨w9.heap.size,2,none⟩=some (.bool y5)∧w'.cell? ⟨w9.heap.size,3,none⟩=some (.slice y6 y7 y8)) (first | ((try dsimp only);(repeat' apply And.intro);all_goals with_reducible assumption) | go_keep) (first | (go_at_call 11;have hgd:=HB10b;clear hgd;have hl12:=HL10.out.keep HB10b.out;refine (lawake_any _ hl12.tab hl12.ers).mono ?_;rintro e w13 ⟨rfl,hb11⟩;have hb12:Below (w10.alloc (.cells #[.slice none 0 0,.string ⟨#[]⟩] 24)).heap.size (w10.alloc (.cells #[.slice none 0 0,.string ⟨#[]⟩] 24)) w13:=HB10b.out.trans (hb11.mono HB10b.out.size);have Xg0:=(hb11.cell (p:=⟨w10.heap.size,0,none⟩) (Nat.lt_of_lt_of_le hga HB10b.out.size)).trans Vg0;have Xg1:=(hb11.cell (p:=⟨w10.heap.size,1,none⟩) (Nat.lt_of_lt_of_le hga HB10b.out.size)).trans Vg1;have Xc0:=(hb11.cell (p:=⟨w4.heap.size,0,none⟩) (Nat.lt_of_lt_of_le hgb HB10b.out.size)).trans Vc0;have Xc1:=(hb11.cell (p:=⟨w4.heap.size,1,none⟩) (Nat.lt_of_lt_of_le hgb HB10b.out.size)).trans Vc1;have Xc2:=(hb11.cell (p:=⟨w4.heap.size,2,none⟩) (Nat.lt_of_lt_of_le hgb HB10b.out.size)).trans Vc2;have Xc3:=(hb11.cell (p:=⟨w4.heap.size,3,none⟩) (Nat.lt_of_lt_of_le hgb HB10b.out.size)).trans Vc3;have Xc4:=(hb11.cell (p:=⟨w4.heap.size,4,none⟩) (Nat.lt_of_lt_of_le hgb HB10b.out.size)).trans Vc4;have Xd0:=(hb11.cell (p:=⟨w9.heap.size,0,none⟩) (Nat.lt_of_lt_of_le hgc HB10b.out.size)).trans Vd0;have Xd1:=(hb11.cell (p:=⟨w9.heap.size,1,none⟩) (Nat.lt_of_lt_of_le hgc HB10b.out.size)).trans Vd1;have Xd2:=(hb11.cell (p:=⟨w9.heap.size,2,none⟩) (Nat.lt_of_lt_of_le hgc HB10b.out.size)).trans Vd2;have Xd3:=(hb11.cell (p:=⟨w9.heap.size,3,none⟩) (Nat.lt_of_lt_of_le hgc HB10b.out.size)).trans Vd3;have HB12:=Lib.hid hb12;clear hl12 hb11 hb12 Vg0 Vg1 Vc0 Vc1 Vc2 Vc3 Vc4 Vd0 Vd1 Vd2 Vd3) | (go_at_call 14;have hgd:=HR7;clear hgd;refine (is_bad _ _ _ _ _ 3 _ (by decide)).mono ?_;rintro e w12 ⟨rfl,hb9⟩;have hb10:Below (w10.alloc (.cells #[.slice none 0 0,.string ⟨#[]⟩] 24)).heap.size (w10.alloc (.cells #[.slice none 0 0,.string ⟨#[]⟩] 24)) w12:=HB8.out.trans (hb9.mono HB8.out.size);have Vg0:=(hb9.cell (p:=⟨w10.heap.size,0,none⟩) (Nat.lt_of_lt_of_le hga HB8.out.size)).trans Ug0;have Vg1:=(hb9.cell (p:=⟨w10.heap.size,1,none⟩) (Nat.lt_of_lt_of_le hga HB8.out.size)).trans Ug1;have Vc0:=(hb9.cell (p:=⟨w4.heap.size,0,none⟩) (Nat.lt_of_lt_of_le hgb HB8.out.size)).trans Uc0;have Vc1:=(hb9.cell (p:=⟨w4.heap.size,1,none⟩) (Nat.lt_of_lt_of_le hgb HB8.out.size)).trans Uc1;have Vc2:=(hb9.cell (p:=⟨w4.heap.size,2,none⟩) (Nat.lt_of_lt_of_le hgb HB8.out.size)).trans Uc2;have Vc3:=(hb9.cell (p:=⟨w4.heap.size,3,none⟩) (Nat.lt_of_lt_of_le hgb HB8.out.size)).trans Uc3;have Vc4:=(hb9.cell (p:=⟨w4.heap.size,4,none⟩) (Nat.lt_of_lt_of_le hgb HB8.out.size)).trans Uc4;have Vd0:=(hb9.cell (p:=⟨w9.heap.size,0,none⟩) (Nat.lt_of_lt_of_le hgc HB8.out.size)).trans Ud0;have Vd1:=(hb9.cell (p:=⟨w9.heap.size,1,none⟩) (Nat.lt_of_lt_of_le hgc HB8.out.size)).trans Ud1;have Vd2:=(hb9.cell (p:=⟨w9.heap.size,2,none⟩) (Nat.lt_of_lt_of_le hgc HB8.out.size)).trans Ud2;have Vd3:=(hb9.cell (p:=⟨w9.heap.size,3,none⟩) (Nat.lt_of_lt_of_le hgc HB8.out.size)).trans Ud3;have HB10b:=Lib.hid hb10;clear hb9 hb10 Ug0 Ug1 Uc0 Uc1 Uc2 Uc3 Uc4 Ud0 Ud1 Ud2 Ud3) | (go_at_call 18;have hdr:Below (w10.alloc (.cells #[.slice none 0 0,.string ⟨#[]⟩] 24)).heap.size (w10.alloc (.cells #[.slice none 0 0,.string ⟨#[]⟩] 24)) (w10.alloc (.cells #[.slice none 0 0,.string ⟨#[]⟩] 24)).drew:=(Below.refl _ (w10.alloc (.cells #[.slice none 0 0,.string ⟨#[]⟩] 24))).drew;refine (rfScale_any _ _ _ _ _ _ _ _ _ _ _ _ _ _ _ _ _ _ 0 zf [] y 0 _ (by exact HRS.out.keep hdr) (by exact HYR10.out.keep hdr (Nat.le_refl _)) (fun _=>⟨ten0,Ten.one (by omega)⟩) (HYY.out.2.2.mono (by omega)) (by omega) (fun W hb=>HMU.out W (hdr.trans (hb.mono hdr.size)))).mono ?_;rintro e w11 ⟨⟨v7,rfl,s7,cs7,c7,rfl,hrow7,hnum7⟩,hb7⟩;obtain ⟨o1,e1,f1,g1,o2,e2,f2,g2,rfl⟩:=hnum7.expl;obtain ⟨as3,ca3,hsv7⟩:=hrow7.slice;subst hsv7;have hb8:Below (w10.alloc (.cells #[.slice none 0 0,.string ⟨#[]⟩] 24)).heap.size (w10.alloc (.cells #[.slice none 0 0,.string ⟨#[]⟩] 24)) w11:=hdr.trans hb7;have Ug0:=(hb8.cell (p:=⟨w10.heap.size,0,none⟩) hga).trans g0;have Ug1:=(hb8.cell (p:=⟨w10.heap.size,1,none⟩) hga).trans g1';have Uc0:=(hb8.cell (p:=⟨w4.heap.size,0,none⟩) hgb).trans c0';have Uc1:=(hb8.cell (p:=⟨w4.heap.size,1,none⟩) hgb).trans c1';have Uc2:=(hb8.cell (p:=⟨w4.heap.size,2,none⟩) hgb).trans c2';have Uc3:=(hb8.cell (p:=⟨w4.heap.size,3,none⟩) hgb).trans c3';have Uc4:=(hb8.cell (p:=⟨w4.heap.size,4,none⟩) hgb).trans c4';have Ud0:=(hb8.cell (p:=⟨w9.heap.size,0,none⟩) hgc).trans d0';have Ud1:=(hb8.cell (p:=⟨w9.heap.size,1,none⟩) hgc).trans d1';have Ud2:=(hb8.cell (p:=⟨w9.heap.size,2,none⟩) hgc).trans d2';have Ud3:=(hb8.cell (p:=⟨w9.heap.size,3,none⟩) hgc).trans d3';have HB8:=Lib.hid hb8;have HR7:=Lib.hid hrow7;have HN7:=Lib.hid hnum7;clear hb7 hb8 hrow7 hnum7 hdr g0 g1' c0' c1' c2' c3' c4' d0' d1' d2' d3'))
    all_goals
     have HZ:=Lib.hid (HL10.out.below.trans (HB12.out.mono HL10.out.below.size))
     clear Xg0 Xg1 Xc0 Xc1 Xc2 Xc3 Xc4 Xd0 Xd1 Xd2 Xd3 hga hgb hgc
     go_wp2
     go_ret
     exact ⟨rfl,HZ.out⟩
set_option maxRecDepth 100000 in
set_option maxHeartbeats 6400000 in
theorem adds_bb (x0:Option Addr) (n0 c0:Nat) (s0:ByteArray) (l0:List Tm) (x1:Option Addr) (n1 c1:Nat) (s1:ByteArray) (l1:List Tm) (yb:ByteArray) (w:World) (htab:Tab w) (he:Ers w)
 (ha0:TsAt w (.slice x0 n0 c0) l0) (hn0:x0=none→c0=0) (hm0:n0≤9223372036854775807) (ha1:TsAt w (.slice x1 n1 c1) l1) (hn1:x1=none→c1=0) (hm1:n1≤9223372036854775807) (hA:lightB s0 l0=true) (hB:lightB s1 l1=true) (hS:shortC [yb]=true) (hX:checkErr s0 l0≠0) (hY:checkErr s1 l1≠0) :
 Calls Tryz.prog 3 #[.agg #[.slice x0 n0 c0,.string s0],.agg #[.slice x1 n1 c1,.string s1],.string yb] w fun e w'=>e = .returned (.bool true)∧Below w.heap.size w w':=by
 have hF:∀ W,TsAt W (.slice x0 n0 c0) l0→InF W x0 n0 c0 s0 l0:=fun W h=>(inF_light h hn0 hA).1
 have hG:∀ W,TsAt W (.slice x1 n1 c1) l1→InF W x1 n1 c1 s1 l1:=fun W h=>(inF_light h hn1 hB).1
 have HF:=Lib.hid hF
 have HG:=Lib.hid hG
 clear hF hG
 have hls0:=light_sizes hA
 have hls1:=light_sizes hB
 have hys:yb.size≤120:=by
  unfold shortC at hS
  rw [List.all_eq_true] at hS
  exact of_decide_eq_true (hS yb (by simp))
 obtain ⟨oy,hoy⟩:∃ oy,rval yb.data.toList=oy:=⟨_,rfl⟩
 have HOY:=Lib.hid hoy
 have HYS:=Lib.hid (And.intro trivial hys)
 clear hoy hys
 have HX:=Lib.hid hX
 clear hX
 have HY:=Lib.hid hY
 clear hY
 clear hls0 hls1
 have hnil:SsAt w (.slice none 0 0) []:=⟨_,_,_,rfl,rfl,.inl rfl⟩
 have HL0:=Lib.hid (LV.start (s0:=s0) (s1:=s1) w ha0 ha1 hnil htab he)
 clear ha0 ha1 hnil htab he
 obtain ⟨a0,a1,a2,a3⟩:=HL0.out.a.cell
 obtain ⟨b0,b1,b2,b3⟩:=HL0.out.b.cell
 go_enter Tryz.func3,Tryz.ntmps3
 go_wp2_with fail
 refine (Light_any s0 x0 n0 c0 l0 true _ HL0.out.fa hm0 (Lib.hid hA)).mono ?_
 rintro e w1 ⟨rfl,hb⟩
 have HL1:=Lib.hid (HL0.out.keep hb)
 clear hb a0 a1 a2 a3 b0 b1 b2 b3
 obtain ⟨a0,a1,a2,a3⟩:=HL1.out.a.cell
 obtain ⟨b0,b1,b2,b3⟩:=HL1.out.b.cell
 go_wp2_with fail
 refine (Light_any s1 x1 n1 c1 l1 true _ HL1.out.fb hm1 (Lib.hid hB)).mono ?_
 rintro e w2 ⟨rfl,hb⟩
 have HL2:=Lib.hid (HL1.out.keep hb)
 clear hb a0 a1 a2 a3 b0 b1 b2 b3
 obtain ⟨a0,a1,a2,a3⟩:=HL2.out.a.cell
 obtain ⟨b0,b1,b2,b3⟩:=HL2.out.b.cell
 go_wp2_with fail
 have hA3:=(Below.refl w2.heap.size w2).alloc (Nat.le_refl _) (.cells #[.string yb] 9)
 have HL3:=Lib.hid (HL2.out.keep hA3)
 have hsy:=SsAt.one w2 yb 9
 refine (lshort_any _ 1 1 [yb] true _ hsy (by omega) (Lib.hid hS)).mono ?_
 rintro e w3 ⟨rfl,hww⟩
 rw [← hww]
 clear hww w3 hA3 hsy a0 a1 a2 a3 b0 b1 b2 b3
 obtain ⟨a0,a1,a2,a3⟩:=HL3.out.a.cell
 obtain ⟨b0,b1,b2,b3⟩:=HL3.out.b.cell
 go_wp2_with fail
 refine (lread_bad s0 x0 n0 c0 l0 _ (HF.out _ HL3.out.fa) HX.out).mono ?_
 rintro e w4 ⟨rfl,hb⟩
 have hC:Below w4.heap.size w4 (w4.alloc (.cells #[.slice none 0 0,.bool false,.slice none 0 0,.bool false,.slice none 0 0] 35)):=(Below.refl _ w4).alloc (Nat.le_refl _) _
 have hbC:=hb.trans (hC.mono hb.size)
 have HL4:=Lib.hid (HL3.out.keep hbC)
 have HAF4:=Lib.hid (B5.new w4 (.slice none 0 0) (.bool false) (.slice none 0 0) (.bool false) (.slice none 0 0) 35)
 clear hb hC hbC a0 a1 a2 a3 b0 b1 b2 b3
 obtain ⟨a0,a1,a2,a3⟩:=HL4.out.a.cell
 obtain ⟨b0,b1,b2,b3⟩:=HL4.out.b.cell
 go_wp2_with fail
 refine (lread_bad s1 x1 n1 c1 l1 _ (HG.out _ HL4.out.fb) HY.out).mono ?_
 rintro e w5 ⟨rfl,hb⟩
 have hC:Below w5.heap.size w5 (w5.alloc (.cells #[.slice none 0 0,.bool false,.slice none 0 0,.bool false,.slice none 0 0] 35)):=(Below.refl _ w5).alloc (Nat.le_refl _) _
 have hbC:=hb.trans (hC.mono hb.size)
 have HL5:=Lib.hid (HL4.out.keep hbC)
 have HBF5:=Lib.hid (B5.new w5 (.slice none 0 0) (.bool false) (.slice none 0 0) (.bool false) (.slice none 0 0) 35)
 have HAF5:=Lib.hid (HAF4.out.keep hbC)
 clear hb hC hbC a0 a1 a2 a3 b0 b1 b2 b3
 obtain ⟨a0,a1,a2,a3⟩:=HL5.out.a.cell
 obtain ⟨b0,b1,b2,b3⟩:=HL5.out.b.cell
 go_wp2_with fail
 refine (Add_bad s0 s1 x0 x1 n0 c0 n1 c1 l0 l1 _ (HF.out _ HL5.out.fa) (HG.out _ HL5.out.fb) (.inl HX.out)).mono ?_
 rintro e w6 ⟨hb,rfl⟩
 have hC:Below w6.heap.size w6 (w6.alloc (.cells #[.slice none 0 0,.string ⟨#[]⟩] 24)):=(Below.refl _ w6).alloc (Nat.le_refl _) _
 have hbC:=hb.trans (hC.mono hb.size)
 have hL6:=HL5.out.keep hbC
 have HL6:=Lib.hid hL6
 have HGX:=Lib.hid (Bx.new w6 (.slice none 0 0) (.string ⟨#[]⟩) 24)
 have HAF6:=Lib.hid (HAF5.out.keep hbC)
 have HBF6:=Lib.hid (HBF5.out.keep hbC)
 clear hb hC hbC hL6 a0 a1 a2 a3 b0 b1 b2 b3
 obtain ⟨g0,g1',_,_⟩:=HGX.out.cell
 obtain ⟨c0',c1',c2',c3',c4'⟩:=HAF6.out.cell
 obtain ⟨d0',d1',d2',d3',d4'⟩:=HBF6.out.cell
 have hga:=HGX.out.lt
 have hgb:=HAF6.out.lt
 have hgc:=HBF6.out.lt
 have hmx:max (3:Int) 3=3:=by decide
 have HAD:Hid (∀ W,Below (w6.alloc (.cells #[.slice none 0 0,.string ⟨#[]⟩] 24)).heap.size (w6.alloc (.cells #[.slice none 0 0,.string ⟨#[]⟩] 24)) W→Calls Tryz.prog 40 #[.agg #[.bool false,.slice none 0 0,.bool false,.slice none 0 0],.agg #[.bool false,.slice none 0 0,.bool false,.slice none 0 0]] W (RRPost 0 W)):=Lib.hid (add_nil (.inl ⟨rfl,.inl rfl⟩))
 have HRA:Hid (RowQ 0 (w6.alloc (.cells #[.slice none 0 0,.string ⟨#[]⟩] 24)) (.slice none 0 0) (rowOf zf 0) []):=Lib.hid (RowQ.nil _ _)
 have HRB:Hid (RowQ 0 (w6.alloc (.cells #[.slice none 0 0,.string ⟨#[]⟩] 24)) (.slice none 0 0) (rowOf zf 0) []):=Lib.hid (RowQ.nil _ _)
 have HPP:=Lib.hid (And.intro (show ∀ c,((0:Nat):Int)≤c→zf c=0 from (fun _ _=>rfl)) (show ∀ c,((0:Nat):Int)≤c→zf c=0 from (fun _ _=>rfl)))
 have HTT:=Lib.hid (And.intro (show ∀ c,RT 400 (zf c) from (fun _=>⟨ten0,Ten.one (by omega)⟩)) (show ∀ c,RT 400 (zf c) from (fun _=>⟨ten0,Ten.one (by omega)⟩)))
 go_wp2_with fail
 go_region_held3 (fun w'=>w'.cell? ⟨w6.heap.size,0,none⟩=some (.slice none 0 0)∧w'.cell? ⟨w6.heap.size,1,none⟩=some (.string ⟨#[]⟩)∧w'.cell? ⟨w4.heap.size,0,none⟩=some (.slice none 0 0)∧w'.cell? ⟨w4.heap.size,1,none⟩=some (.bool false)∧w'.cell? ⟨w4.heap.size,2,none⟩=some (.slice none 0 0)∧w'.cell? ⟨w4.heap.size,3,none⟩=some (.bool false)∧w'.cell? ⟨w4.heap.size,4,none⟩=some (.slice none 0 0)∧w'.cell? ⟨w5.heap.size,0,none⟩=some (.slice none 0 0)∧w'.cell? ⟨w5.heap.size,1,none⟩=some (.bool false)∧w'.cell? ⟨w5.heap.size,2,none⟩=some (.slice none 0 0)∧w'.cell? ⟨w5.heap.size,3,none⟩=some (.bool false)∧w'.cell? ⟨w5.heap.size,4,none⟩=some (.slice none 0 0)) (first | ((try dsimp only);(repeat' apply And.intro);all_goals with_reducible assumption) | go_keep) (first | (go_at_call 14;have hgd:=HR7;clear hgd;refine (is_bad _ _ _ _ _ 3 _ (by decide)).mono ?_;rintro e w8 ⟨rfl,hb9⟩;have hb10:Below (w6.alloc (.cells #[.slice none 0 0,.string ⟨#[]⟩] 24)).heap.size (w6.alloc (.cells #[.slice none 0 0,.string ⟨#[]⟩] 24)) w8:=HB8.out.trans (hb9.mono HB8.out.size);have Vg0:=(hb9.cell (p:=⟨w6.heap.size,0,none⟩) (Nat.lt_of_lt_of_le hga HB8.out.size)).trans Ug0;have Vg1:=(hb9.cell (p:=⟨w6.heap.size,1,none⟩) (Nat.lt_of_lt_of_le hga HB8.out.size)).trans Ug1;have Vc0:=(hb9.cell (p:=⟨w4.heap.size,0,none⟩) (Nat.lt_of_lt_of_le hgb HB8.out.size)).trans Uc0;have Vc1:=(hb9.cell (p:=⟨w4.heap.size,1,none⟩) (Nat.lt_of_lt_of_le hgb HB8.out.size)).trans Uc1;have Vc2:=(hb9.cell (p:=⟨w4.heap.size,2,none⟩) (Nat.lt_of_lt_of_le hgb HB8.out.size)).trans Uc2;have Vc3:=(hb9.cell (p:=⟨w4.heap.size,3,none⟩) (Nat.lt_of_lt_of_le hgb HB8.out.size)).trans Uc3;have Vc4:=(hb9.cell (p:=⟨w4.heap.size,4,none⟩) (Nat.lt_of_lt_of_le hgb HB8.out.size)).trans Uc4;have Vd0:=(hb9.cell (p:=⟨w5.heap.size,0,none⟩) (Nat.lt_of_lt_of_le hgc HB8.out.size)).trans Ud0;have Vd1:=(hb9.cell (p:=⟨w5.heap.size,1,none⟩) (Nat.lt_of_lt_of_le hgc HB8.out.size)).trans Ud1;have Vd2:=(hb9.cell (p:=⟨w5.heap.size,2,none⟩) (Nat.lt_of_lt_of_le hgc HB8.out.size)).trans Ud2;have Vd3:=(hb9.cell (p:=⟨w5.heap.size,3,none⟩) (Nat.lt_of_lt_of_le hgc HB8.out.size)).trans Ud3;have Vd4:=(hb9.cell (p:=⟨w5.heap.size,4,none⟩) (Nat.lt_of_lt_of_le hgc HB8.out.size)).trans Ud4;have HB10:=Lib.hid hb10;clear hb9 hb10 Ug0 Ug1 Uc0 Uc1 Uc2 Uc3 Uc4 Ud0 Ud1 Ud2 Ud3 Ud4) | (go_at_call 15;have hdr:Below (w6.alloc (.cells #[.slice none 0 0,.string ⟨#[]⟩] 24)).heap.size (w6.alloc (.cells #[.slice none 0 0,.string ⟨#[]⟩] 24)) (w6.alloc (.cells #[.slice none 0 0,.string ⟨#[]⟩] 24)).drew:=(Below.refl _ (w6.alloc (.cells #[.slice none 0 0,.string ⟨#[]⟩] 24))).drew;refine (rfAdd_any _ _ _ _ _ _ _ _ _ _ _ _ _ _ _ _ _ _ _ _ 0 0 zf zf [] [] 0 _ (by exact HRA.out.keep hdr) (by exact HRB.out.keep hdr) HPP.out.1 HPP.out.2 HTT.out.1 HTT.out.2 (by omega) (by omega) (fun W hb=>HAD.out W (hdr.trans (hb.mono hdr.size)))).mono ?_;rintro e w7 ⟨⟨v7,rfl,s7,cs7,c7,rfl,hrow7,hnum7⟩,hb7⟩;obtain ⟨o1,e1,f1,g1,o2,e2,f2,g2,rfl⟩:=hnum7.expl;obtain ⟨as3,ca3,hsv7⟩:=hrow7.slice;subst hsv7;have hb8:Below (w6.alloc (.cells #[.slice none 0 0,.string ⟨#[]⟩] 24)).heap.size (w6.alloc (.cells #[.slice none 0 0,.string ⟨#[]⟩] 24)) w7:=hdr.trans hb7;have Ug0:=(hb8.cell (p:=⟨w6.heap.size,0,none⟩) hga).trans g0;have Ug1:=(hb8.cell (p:=⟨w6.heap.size,1,none⟩) hga).trans g1';have Uc0:=(hb8.cell (p:=⟨w4.heap.size,0,none⟩) hgb).trans c0';have Uc1:=(hb8.cell (p:=⟨w4.heap.size,1,none⟩) hgb).trans c1';have Uc2:=(hb8.cell (p:=⟨w4.heap.size,2,none⟩) hgb).trans c2';have Uc3:=(hb8.cell (p:=⟨w4.heap.size,3,none⟩) hgb).trans c3';have Uc4:=(hb8.cell (p:=⟨w4.heap.size,4,none⟩) hgb).trans c4';have Ud0:=(hb8.cell (p:=⟨w5.heap.size,0,none⟩) hgc).trans d0';have Ud1:=(hb8.cell (p:=⟨w5.heap.size,1,none⟩) hgc).trans d1';have Ud2:=(hb8.cell (p:=⟨w5.heap.size,2,none⟩) hgc).trans d2';have Ud3:=(hb8.cell (p:=⟨w5.heap.size,3,none⟩) hgc).trans d3';have Ud4:=(hb8.cell (p:=⟨w5.heap.size,4,none⟩) hgc).trans d4';have HB8:=Lib.hid hb8;have HR7:=Lib.hid hrow7;have HN7:=Lib.hid hnum7;clear hb7 hb8 hrow7 hnum7 hdr g0 g1' c0' c1' c2' c3' c4' d0' d1' d2' d3' d4'))
 all_goals
  clear Vg0 Vg1 Vc0 Vc1 Vc2 Vc3 Vc4 Vd0 Vd1 Vd2 Vd3 Vd4 hga hgb hgc hmx
  have HL8:=Lib.hid (HL6.out.keep HB10.out)
  have HAF8:=Lib.hid (HAF6.out.keep HB10.out)
  obtain ⟨a0,a1,a2,a3⟩:=HL8.out.a.cell
  obtain ⟨b0,b1,b2,b3⟩:=HL8.out.b.cell
  go_wp2_with fail
  refine (rrRead_any yb oy _ HOY (by have:=HYS.out.2;omega)).mono ?_
  rintro e w9 ⟨y1,y2,y3,y4,y5,y6,y7,y8,rfl,hq,hb⟩
  have hC:Below w9.heap.size w9 (w9.alloc (.cells #[.bool y1,.slice y2 y3 y4,.bool y5,.slice y6 y7 y8] 33)):=(Below.refl _ w9).alloc (Nat.le_refl _) _
  have hbC:=hb.trans (hC.mono hb.size)
  have HL9:=Lib.hid (HL8.out.keep hbC)
  have HY9:=Lib.hid (B4.new w9 (.bool y1) (.slice y2 y3 y4) (.bool y5) (.slice y6 y7 y8) 33)
  have HQ9:=Lib.hid (fun q h=>(hq q h).keep hC (Nat.le_refl _))
  have HAF9:=Lib.hid (HAF8.out.keep hbC)
  clear hb hC hbC hq a0 a1 a2 a3 b0 b1 b2 b3
  obtain ⟨a0,a1,a2,a3⟩:=HL9.out.a.cell
  obtain ⟨b0,b1,b2,b3⟩:=HL9.out.b.cell
  rcases oy with _ | y
  · rw [show (none:Option Rat).isSome=false from rfl]
    go_wp2_with fail
    refine (Scale_bad s0 yb x0 n0 c0 l0 _ (HF.out _ HL9.out.fa) (by have:=HYS.out.2;omega) (.inr (by rw [HOY.out];rfl))).mono ?_
    rintro e w10 ⟨hb,rfl⟩
    have HL10:=Lib.hid ((HL9.out.keep hb).keep ((Below.refl _ w10).alloc (Nat.le_refl _) (.cells #[.slice none 0 0,.string ⟨#[]⟩] 24)))
    have HG10:=Lib.hid (Bx.new w10 (.slice none 0 0) (.string ⟨#[]⟩) 24)
    obtain ⟨g0,g1',_,_⟩:=HG10.out.cell
    clear hb a0 a1 a2 a3 b0 b1 b2 b3
    go_wp2_with fail
    refine (lawake_any _ HL10.out.tab HL10.out.ers).mono ?_
    rintro e wz ⟨rfl,hb⟩
    have HZ:=Lib.hid (HL10.out.below.trans (hb.mono HL10.out.below.size))
    clear hb
    go_wp2
    go_ret
    exact ⟨rfl,HZ.out⟩
  · rw [show (some y:Option Rat).isSome=true from rfl]
    have hys2:rshort y=true:=(RIs.of HOY.out).2
    have hyt:txt y=yb:=(RIs.of HOY.out).1.symm
    have hy120:RT 120 y:=(RIs.of HOY.out).ten HYS.out.2
    have HYY:=Lib.hid (And.intro hys2 (And.intro hyt hy120))
    have HYR:=Lib.hid (HQ9.out y rfl)
    clear hys2 hyt hy120
    go_wp2_with fail
    refine (Scale_bad s0 yb x0 n0 c0 l0 _ (HF.out _ HL9.out.fa) (by have:=HYS.out.2;omega) (.inl HX.out)).mono ?_
    rintro e w10 ⟨hb,rfl⟩
    have hC:Below w10.heap.size w10 (w10.alloc (.cells #[.slice none 0 0,.string ⟨#[]⟩] 24)):=(Below.refl _ w10).alloc (Nat.le_refl _) _
    have hbC:=hb.trans (hC.mono hb.size)
    have HL10:=Lib.hid (HL9.out.keep hbC)
    have HGY:=Lib.hid (Bx.new w10 (.slice none 0 0) (.string ⟨#[]⟩) 24)
    have HY10:=Lib.hid (HY9.out.below hbC HY9.out.lt)
    have HYR10:=Lib.hid (HYR.out.keep hbC (Nat.le_refl _))
    have HAF10:=Lib.hid (HAF9.out.keep hbC)
    clear hb hC hbC a0 a1 a2 a3 b0 b1 b2 b3
    obtain ⟨g0,g1',_,_⟩:=HGY.out.cell
    obtain ⟨c0',c1',c2',c3',c4'⟩:=HAF10.out.cell
    obtain ⟨d0',d1',d2',d3'⟩:=HY10.out.cell
    have hga:=HGY.out.lt
    have hgb:=HAF10.out.lt
    have hgc:=HY10.out.lt
    have HMU:Hid (∀ W,Below (w10.alloc (.cells #[.slice none 0 0,.string ⟨#[]⟩] 24)).heap.size (w10.alloc (.cells #[.slice none 0 0,.string ⟨#[]⟩] 24)) W→Calls Tryz.prog 47 #[.agg #[.bool false,.slice none 0 0,.bool false,.slice none 0 0],.agg #[.bool y1,.slice y2 y3 y4,.bool y5,.slice y6 y7 y8]] W (RRPost 0 W)):=Lib.hid (mul_nil HYR10.out (HYY.out.2.2.mono (by omega)))
    have HRS:Hid (RowQ 0 (w10.alloc (.cells #[.slice none 0 0,.string ⟨#[]⟩] 24)) (.slice none 0 0) (rowOf zf 0) []):=Lib.hid (RowQ.nil _ _)
    go_wp2_with fail
    go_region_held3 (fun w'=>w'.cell? ⟨w10.heap.size,0,none⟩=some (.slice none 0 0)∧w'.cell? ⟨w10.heap.size,1,none⟩=some (.string ⟨#[]⟩)∧w'.cell? ⟨w4.heap.size,0,none⟩=some (.slice none 0 0)∧w'.cell? ⟨w4.heap.size,1,none⟩=some (.bool false)∧w'.cell? ⟨w4.heap.size,2,none⟩=some (.slice none 0 0)∧w'.cell? ⟨w4.heap.size,3,none⟩=some (.bool false)∧w'.cell? ⟨w4.heap.size,4,none⟩=some (.slice none 0 0)∧w'.cell? ⟨w9.heap.size,0,none⟩=some (.bool y1)∧w'.cell? ⟨w9.heap.size,1,none⟩=some (.slice y2 y3 y4)∧w'.cell? ⟨w9.heap.size,2,none⟩=some (.bool y5)∧w'.cell? ⟨w9.heap.size,3,none⟩=some (.slice y6 y7 y8)) (first | ((try dsimp only);(repeat' apply And.intro);all_goals with_reducible assumption) | go_keep) (first | (go_at_call 11;have hgd:=HB10b;clear hgd;have hl12:=HL10.out.keep HB10b.out;refine (lawake_any _ hl12.tab hl12.ers).mono ?_;rintro e w13 ⟨rfl,hb11⟩;have hb12:Below (w10.alloc (.cells #[.slice none 0 0,.string ⟨#[]⟩] 24)).heap.size (w10.alloc (.cells #[.slice none 0 0,.string ⟨#[]⟩] 24)) w13:=HB10b.out.trans (hb11.mono HB10b.out.size);have Xg0:=(hb11.cell (p:=⟨w10.heap.size,0,none⟩) (Nat.lt_of_lt_of_le hga HB10b.out.size)).trans Vg0;have Xg1:=(hb11.cell (p:=⟨w10.heap.size,1,none⟩) (Nat.lt_of_lt_of_le hga HB10b.out.size)).trans Vg1;have Xc0:=(hb11.cell (p:=⟨w4.heap.size,0,none⟩) (Nat.lt_of_lt_of_le hgb HB10b.out.size)).trans Vc0;have Xc1:=(hb11.cell (p:=⟨w4.heap.size,1,none⟩) (Nat.lt_of_lt_of_le hgb HB10b.out.size)).trans Vc1;have Xc2:=(hb11.cell (p:=⟨w4.heap.size,2,none⟩) (Nat.lt_of_lt_of_le hgb HB10b.out.size)).trans Vc2;have Xc3:=(hb11.cell (p:=⟨w4.heap.size,3,none⟩) (Nat.lt_of_lt_of_le hgb HB10b.out.size)).trans Vc3;have Xc4:=(hb11.cell (p:=⟨w4.heap.size,4,none⟩) (Nat.lt_of_lt_of_le hgb HB10b.out.size)).trans Vc4;have Xd0:=(hb11.cell (p:=⟨w9.heap.size,0,none⟩) (Nat.lt_of_lt_of_le hgc HB10b.out.size)).trans Vd0;have Xd1:=(hb11.cell (p:=⟨w9.heap.size,1,none⟩) (Nat.lt_of_lt_of_le hgc HB10b.out.size)).trans Vd1;have Xd2:=(hb11.cell (p:=⟨w9.heap.size,2,none⟩) (Nat.lt_of_lt_of_le hgc HB10b.out.size)).trans Vd2;have Xd3:=(hb11.cell (p:=⟨w9.heap.size,3,none⟩) (Nat.lt_of_lt_of_le hgc HB10b.out.size)).trans Vd3;have HB12:=Lib.hid hb12;clear hl12 hb11 hb12 Vg0 Vg1 Vc0 Vc1 Vc2 Vc3 Vc4 Vd0 Vd1 Vd2 Vd3) | (go_at_call 14;have hgd:=HR7;clear hgd;refine (is_bad _ _ _ _ _ 3 _ (by decide)).mono ?_;rintro e w12 ⟨rfl,hb9⟩;have hb10:Below (w10.alloc (.cells #[.slice none 0 0,.string ⟨#[]⟩] 24)).heap.size (w10.alloc (.cells #[.slice none 0 0,.string ⟨#[]⟩] 24)) w12:=HB8.out.trans (hb9.mono HB8.out.size);have Vg0:=(hb9.cell (p:=⟨w10.heap.size,0,none⟩) (Nat.lt_of_lt_of_le hga HB8.out.size)).trans Ug0;have Vg1:=(hb9.cell (p:=⟨w10.heap.size,1,none⟩) (Nat.lt_of_lt_of_le hga HB8.out.size)).trans Ug1;have Vc0:=(hb9.cell (p:=⟨w4.heap.size,0,none⟩) (Nat.lt_of_lt_of_le hgb HB8.out.size)).trans Uc0;have Vc1:=(hb9.cell (p:=⟨w4.heap.size,1,none⟩) (Nat.lt_of_lt_of_le hgb HB8.out.size)).trans Uc1;have Vc2:=(hb9.cell (p:=⟨w4.heap.size,2,none⟩) (Nat.lt_of_lt_of_le hgb HB8.out.size)).trans Uc2;have Vc3:=(hb9.cell (p:=⟨w4.heap.size,3,none⟩) (Nat.lt_of_lt_of_le hgb HB8.out.size)).trans Uc3;have Vc4:=(hb9.cell (p:=⟨w4.heap.size,4,none⟩) (Nat.lt_of_lt_of_le hgb HB8.out.size)).trans Uc4;have Vd0:=(hb9.cell (p:=⟨w9.heap.size,0,none⟩) (Nat.lt_of_lt_of_le hgc HB8.out.size)).trans Ud0;have Vd1:=(hb9.cell (p:=⟨w9.heap.size,1,none⟩) (Nat.lt_of_lt_of_le hgc HB8.out.size)).trans Ud1;have Vd2:=(hb9.cell (p:=⟨w9.heap.size,2,none⟩) (Nat.lt_of_lt_of_le hgc HB8.out.size)).trans Ud2;have Vd3:=(hb9.cell (p:=⟨w9.heap.size,3,none⟩) (Nat.lt_of_lt_of_le hgc HB8.out.size)).trans Ud3;have HB10b:=Lib.hid hb10;clear hb9 hb10 Ug0 Ug1 Uc0 Uc1 Uc2 Uc3 Uc4 Ud0 Ud1 Ud2 Ud3) | (go_at_call 18;have hdr:Below (w10.alloc (.cells #[.slice none 0 0,.string ⟨#[]⟩] 24)).heap.size (w10.alloc (.cells #[.slice none 0 0,.string ⟨#[]⟩] 24)) (w10.alloc (.cells #[.slice none 0 0,.string ⟨#[]⟩] 24)).drew:=(Below.refl _ (w10.alloc (.cells #[.slice none 0 0,.string ⟨#[]⟩] 24))).drew;refine (rfScale_any _ _ _ _ _ _ _ _ _ _ _ _ _ _ _ _ _ _ 0 zf [] y 0 _ (by exact HRS.out.keep hdr) (by exact HYR10.out.keep hdr (Nat.le_refl _)) (fun _=>⟨ten0,Ten.one (by omega)⟩) (HYY.out.2.2.mono (by omega)) (by omega) (fun W hb=>HMU.out W (hdr.trans (hb.mono hdr.size)))).mono ?_;rintro e w11 ⟨⟨v7,rfl,s7,cs7,c7,rfl,hrow7,hnum7⟩,hb7⟩;obtain ⟨o1,e1,f1,g1,o2,e2,f2,g2,rfl⟩:=hnum7.expl;obtain ⟨as3,ca3,hsv7⟩:=hrow7.slice;subst hsv7;have hb8:Below (w10.alloc (.cells #[.slice none 0 0,.string ⟨#[]⟩] 24)).heap.size (w10.alloc (.cells #[.slice none 0 0,.string ⟨#[]⟩] 24)) w11:=hdr.trans hb7;have Ug0:=(hb8.cell (p:=⟨w10.heap.size,0,none⟩) hga).trans g0;have Ug1:=(hb8.cell (p:=⟨w10.heap.size,1,none⟩) hga).trans g1';have Uc0:=(hb8.cell (p:=⟨w4.heap.size,0,none⟩) hgb).trans c0';have Uc1:=(hb8.cell (p:=⟨w4.heap.size,1,none⟩) hgb).trans c1';have Uc2:=(hb8.cell (p:=⟨w4.heap.size,2,none⟩) hgb).trans c2';have Uc3:=(hb8.cell (p:=⟨w4.heap.size,3,none⟩) hgb).trans c3';have Uc4:=(hb8.cell (p:=⟨w4.heap.size,4,none⟩) hgb).trans c4';have Ud0:=(hb8.cell (p:=⟨w9.heap.size,0,none⟩) hgc).trans d0';have Ud1:=(hb8.cell (p:=⟨w9.heap.size,1,none⟩) hgc).trans d1';have Ud2:=(hb8.cell (p:=⟨w9.heap.size,2,none⟩) hgc).trans d2';have Ud3:=(hb8.cell (p:=⟨w9.heap.size,3,none⟩) hgc).trans d3';have HB8:=Lib.hid hb8;have HR7:=Lib.hid hrow7;have HN7:=Lib.hid hnum7;clear hb7 hb8 hrow7 hnum7 hdr g0 g1' c0' c1' c2' c3' c4' d0' d1' d2' d3'))
    all_goals
     have HZ:=Lib.hid (HL10.out.below.trans (HB12.out.mono HL10.out.below.size))
     clear Xg0 Xg1 Xc0 Xc1 Xc2 Xc3 Xc4 Xd0 Xd1 Xd2 Xd3 hga hgb hgc
     go_wp2
     go_ret
     exact ⟨rfl,HZ.out⟩
theorem law_LinearAdds (x0:Option Addr) (n0 c0:Nat) (s0:ByteArray) (l0:List Tm) (x1:Option Addr) (n1 c1:Nat) (s1:ByteArray) (l1:List Tm) (yb:ByteArray) (w:World)
 (ha0:TsAt w (.slice x0 n0 c0) l0) (hn0:x0=none→c0=0) (hm0:n0≤9223372036854775807) (ha1:TsAt w (.slice x1 n1 c1) l1) (hn1:x1=none→c1=0) (hm1:n1≤9223372036854775807) (htab:Tab w) (he:Ers w) :
 Calls Tryz.prog 3 #[.agg #[.slice x0 n0 c0,.string s0],.agg #[.slice x1 n1 c1,.string s1],.string yb] w fun e w'=>e = .returned (.bool true)∧Below w.heap.size w w':=by
 cases hA:lightB s0 l0 with
 | false=>exact adds_out1 x0 n0 c0 s0 l0 x1 n1 c1 s1 l1 yb w htab he ha0 hn0 hm0 ha1 hn1 hm1 hA
 | true =>
  cases hB:lightB s1 l1 with
  | false=>exact adds_out2 x0 n0 c0 s0 l0 x1 n1 c1 s1 l1 yb w htab he ha0 hn0 hm0 ha1 hn1 hm1 hA hB
  | true =>
   cases hS:shortC [yb] with
   | false=>exact adds_out3 x0 n0 c0 s0 l0 x1 n1 c1 s1 l1 yb w htab he ha0 hn0 hm0 ha1 hn1 hm1 hA hB hS
   | true =>
    by_cases hX:checkErr s0 l0=0
    · by_cases hY:checkErr s1 l1=0
      · exact adds_gg x0 n0 c0 s0 l0 x1 n1 c1 s1 l1 yb w htab he ha0 hn0 hm0 ha1 hn1 hm1 hA hB hS hX hY
      · exact adds_gb x0 n0 c0 s0 l0 x1 n1 c1 s1 l1 yb w htab he ha0 hn0 hm0 ha1 hn1 hm1 hA hB hS hX hY
    · by_cases hY:checkErr s1 l1=0
      · exact adds_bg x0 n0 c0 s0 l0 x1 n1 c1 s1 l1 yb w htab he ha0 hn0 hm0 ha1 hn1 hm1 hA hB hS hX hY
      · exact adds_bb x0 n0 c0 s0 l0 x1 n1 c1 s1 l1 yb w htab he ha0 hn0 hm0 ha1 hn1 hm1 hA hB hS hX hY
end Go.Proofs.YtkhdocdddicgpaaGreatDoor
