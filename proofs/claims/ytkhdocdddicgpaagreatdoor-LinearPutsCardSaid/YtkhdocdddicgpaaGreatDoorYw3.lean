/- For every input the law LinearPuts returns true,and each argument reads afterwards as it read before;the listed package variables are tied to the program's text. No further condition. -/
import Derived.Test.YtkhdocdddicgpaaGreatDoorYt0
import Derived.Test.YtkhdocdddicgpaaGreatDoorYt1
import Derived.Test.YtkhdocdddicgpaaGreatDoorYt2
import Derived.Test.YtkhdocdddicgpaaGreatDoorYt3
import Derived.Test.YtkhdocdddicgpaaGreatDoorYt4
import Derived.Test.YtkhdocdddicgpaaGreatDoorYt5
import Derived.Test.YtkhdocdddicgpaaGreatDoorYt6
import Derived.Test.YtkhdocdddicgpaaGreatDoorYt7
import Derived.Test.YtkhdocdddicgpaaGreatDoorYt8
import Derived.Test.YtkhdocdddicgpaaGreatDoorYt9
import Derived.Test.YtkhdocdddicgpaaGreatDoorYt10
import Derived.Test.YtkhdocdddicgpaaGreatDoorYt11
import Derived.Test.YtkhdocdddicgpaaGreatDoorYt12
import Derived.Test.YtkhdocdddicgpaaGreatDoorYt13
import Derived.Test.YtkhdocdddicgpaaGreatDoorYt14
import Derived.Test.YtkhdocdddicgpaaGreatDoorYt15
import Derived.Test.YtkhdocdddicgpaaGreatDoorYt16
import Derived.Test.YtkhdocdddicgpaaGreatDoorYt17
import Derived.Test.YtkhdocdddicgpaaGreatDoorYt18
import Derived.Test.YtkhdocdddicgpaaGreatDoorYt19
import Derived.Test.YtkhdocdddicgpaaGreatDoorYt20
import Derived.Test.YtkhdocdddicgpaaGreatDoorYt21
import Derived.Test.YtkhdocdddicgpaaGreatDoorYt22
import Derived.Test.YtkhdocdddicgpaaGreatDoorYt23
import Derived.Test.YtkhdocdddicgpaaGreatDoorYt24
import Derived.Test.YtkhdocdddicgpaaGreatDoorYt25
import Derived.Test.YtkhdocdddicgpaaGreatDoorYt26
import Derived.Test.YtkhdocdddicgpaaGreatDoorYt27
import Derived.Test.YtkhdocdddicgpaaGreatDoorYt28
import Derived.Test.YtkhdocdddicgpaaGreatDoorYt29
import Derived.Test.YtkhdocdddicgpaaGreatDoorYt30
import Derived.Test.YtkhdocdddicgpaaGreatDoorYw0
import Derived.Test.YtkhdocdddicgpaaGreatDoorYw2
import Derived.Test.YtkhdocdddicgpaaGreatDoorCards
import Derived.Test.YtkhdocdddicgpaaGreatDoorTie
import Derived.Maps.OwnSet
import Derived.Maps.RangeWalk
import Derived.Maps.StringElems
import Derived.Sort.Statements
import Derived.Shelf.SlGeneric
import Derived.Shelf.SlicesQ.IndexFunc
import Derived.Ground.SlgfProg
import Derived.Shelf.SlSortCmp.WholeK
import Derived.Ground.SlsfProg
import Derived.Test.YtkhdocdddicgpaaGreatDoorProg
import Derived.Lib.OwnBridge
import Derived.BigQuiet
import Derived.Lib.AppendZeros
import Derived.Laws.AppendOwnNone
import Derived.Deep.RegionWith
import Derived.Lib.SmallJoins
import Derived.Deep.SlicePairs
import Derived.Carry
import Derived.WalkKit
import Derived.Deep.QuietTactic
import Derived.Lib.ItoaNum
import Derived.WalkSpells
import Derived.WalkLawsBesides
import Derived.IntWalk
import Derived.LoopTactic
import Derived.Lib.Hide
import Derived.Laws.CopyOwn
import Derived.StillTailTactics
import Derived.Deep.RegionHeld3
import Derived.Lib.AppendStr
import Derived.Lib.SliceRun
import Derived.Shelf.Small.Wraps
import Derived.Shelf.Strconv.Itoa4
import Derived.Shelf.Strconv.ErrVarAll
import Derived.Shelf.Strconv.ParseIntPublic10
import Derived.Shelf.Strings.Shaped
import Derived.Shelf.Strconv.AppendInt10
import Derived.Shelf.Bits.Mul64
import Derived.Lib.AtoiErrMem
import Derived.Lib.AppendIntMem
import Derived.Lib.ItoaLen
import Derived.Shelf.Strings.BuilderX
import Derived.Lib.Strings
import Derived.Lib.Slices
import Derived.Lib.Walk
import Derived.Lib.Builder
import Derived.Lib.UnsafeStr
import Derived.Laws.Externs
import Derived.Laws.IdiomCopy
import Derived.Shelf.Strings.BuilderK
import Derived.Laws.Concat
import Derived.RangeFuncNested
import Derived.RangeFuncBound
import Derived.RangeFuncCalls
import Derived.RangeFuncLeaves
import Derived.Shelf.Abstract
import Derived.Shelf.RegionOpen
import Derived.OwnWalkIn
import Derived.TacticsInMore
import Derived.LoopNIn
import Derived.LoopIn
import Derived.Maps.OwnIn
import Derived.Maps.AppendAt
import Derived.RangeFuncBox
import Derived.ProofKit
import Derived.OpenShut
import Derived.ShutString
import Derived.ChangeOld
import Derived.Below
import Derived.Deep.DeepHandedRow
import Derived.Lib.LaidTab
import Derived.Stop.LaidErr
set_option linter.unusedVariables false
set_option linter.unusedSimpArgs false
namespace Go.Proofs.YtkhdocdddicgpaaGreatDoor
open Go.RowKit Go.Maps _root_.Go.Proofs.YtkhdocdddicgpaaGreatDoor.Nm
theorem rt_z120:RT 120 (0:Rat):=⟨⟨0,by omega,by decide⟩,Ten.one (by omega)⟩
theorem put_all {p1 p2:Rat} {q1 q2:List Qm} {c:Int} (t1:RT 120 p1) (t2:RT 120 p2) (c1:∀ c,RT 120 (co q1 c)) (c2:∀ c,RT 120 (co q2 c)) (h1:Fo q1) (h2:Fo q2) :
 putRes p1 p2 q1 q2 c=some (fun d=>(if d=c then 0 else co q1 d)+co q2 d*co q1 c):=by
 have hs:=scl_all (K:=120) (L:=120) (by omega) t2 (c1 c) c2 h2
 have hg:=(sclRes_some h2 hs).2.2
 unfold putRes
 rw [hs]
 have hz:RT 120 (0:Rat):=⟨⟨0,by omega,by decide⟩,Ten.one (by omega)⟩
 have hw:∀ d,RT 120 (co (wo q1 c) d):=fun d=>by
  rw [co_wo];split
  · exact hz
  · exact c1 d
 show sumRes p1 (p2*co q1 c) (wo q1 c) (formOf _)=_
 rw [sum_all (K:=120) (L:=240) (by omega) t1 ((t2.mul (c1 c)).mono (by omega)) hw (fun d=>by rw [co_formOf hg];exact ((c2 d).mul (c1 c)).mono (by omega)) (h1.wo c) (formOf_fo hg)]
 congr 1
 funext d
 rw [co_formOf hg,co_wo]
set_option maxRecDepth 100000 in
set_option maxHeartbeats 6400000 in
theorem puts_out1 (x0:Option Addr) (n0 c0:Nat) (s0:ByteArray) (l0:List Tm) (col:Int) (x1:Option Addr) (n1 c1:Nat) (s1:ByteArray) (l1:List Tm) (hcb : -9223372036854775808≤col∧col≤9223372036854775807) (w:World) (htab:Tab w) (he:Ers w)
 (ha0:TsAt w (.slice x0 n0 c0) l0) (hn0:x0=none→c0=0) (hm0:n0≤9223372036854775807) (ha1:TsAt w (.slice x1 n1 c1) l1) (hn1:x1=none→c1=0) (hm1:n1≤9223372036854775807) (hA:lightB s0 l0=false) :
 Calls Tryz.prog 5 #[.agg #[.slice x0 n0 c0,.string s0],.int .i64 col,.agg #[.slice x1 n1 c1,.string s1]] w fun e w'=>e = .returned (.bool true)∧Below w.heap.size w w':=by
 have hnil:SsAt w (.slice none 0 0) []:=⟨_,_,_,rfl,rfl,.inl rfl⟩
 have HL0:=Lib.hid (LV.start (s0:=s0) (s1:=s1) w ha0 ha1 hnil htab he)
 clear ha0 ha1 hnil htab he
 obtain ⟨a0,a1,a2,a3⟩:=HL0.out.a.cell
 obtain ⟨b0,b1,b2,b3⟩:=HL0.out.b.cell
 go_enter Tryz.func5,Tryz.ntmps5
 go_wp2_with fail
 refine (Light_any s0 x0 n0 c0 l0 false _ HL0.out.fa hm0 (Lib.hid hA)).mono ?_
 rintro e w1 ⟨rfl,hb⟩
 have HL1:=Lib.hid (HL0.out.keep hb)
 clear hb a0 a1 a2 a3 b0 b1 b2 b3
 obtain ⟨a0,a1,a2,a3⟩:=HL1.out.a.cell
 obtain ⟨b0,b1,b2,b3⟩:=HL1.out.b.cell
 go_wp2_with fail
 refine (lawake_any _ HL1.out.tab HL1.out.ers).mono ?_
 rintro e wz ⟨rfl,hb⟩
 have HZ:=Lib.hid (HL1.out.below.trans (hb.mono HL1.out.below.size))
 clear hb
 go_wp2
 go_ret
 exact ⟨rfl,HZ.out⟩
set_option maxRecDepth 100000 in
set_option maxHeartbeats 6400000 in
theorem puts_out2 (x0:Option Addr) (n0 c0:Nat) (s0:ByteArray) (l0:List Tm) (col:Int) (x1:Option Addr) (n1 c1:Nat) (s1:ByteArray) (l1:List Tm) (hcb : -9223372036854775808≤col∧col≤9223372036854775807) (w:World) (htab:Tab w) (he:Ers w)
 (ha0:TsAt w (.slice x0 n0 c0) l0) (hn0:x0=none→c0=0) (hm0:n0≤9223372036854775807) (ha1:TsAt w (.slice x1 n1 c1) l1) (hn1:x1=none→c1=0) (hm1:n1≤9223372036854775807) (hA:lightB s0 l0=true) (hB:lightB s1 l1=false) :
 Calls Tryz.prog 5 #[.agg #[.slice x0 n0 c0,.string s0],.int .i64 col,.agg #[.slice x1 n1 c1,.string s1]] w fun e w'=>e = .returned (.bool true)∧Below w.heap.size w w':=by
 have hnil:SsAt w (.slice none 0 0) []:=⟨_,_,_,rfl,rfl,.inl rfl⟩
 have HL0:=Lib.hid (LV.start (s0:=s0) (s1:=s1) w ha0 ha1 hnil htab he)
 clear ha0 ha1 hnil htab he
 obtain ⟨a0,a1,a2,a3⟩:=HL0.out.a.cell
 obtain ⟨b0,b1,b2,b3⟩:=HL0.out.b.cell
 go_enter Tryz.func5,Tryz.ntmps5
 go_wp2_with fail
 refine (Light_any s0 x0 n0 c0 l0 true _ HL0.out.fa hm0 (Lib.hid hA)).mono ?_
 rintro e w1 ⟨rfl,hb⟩
 have HL1:=Lib.hid (HL0.out.keep hb)
 clear hb a0 a1 a2 a3 b0 b1 b2 b3
 obtain ⟨a0,a1,a2,a3⟩:=HL1.out.a.cell
 obtain ⟨b0,b1,b2,b3⟩:=HL1.out.b.cell
 go_wp2_with fail
 refine (Light_any s1 x1 n1 c1 l1 false _ HL1.out.fb hm1 (Lib.hid hB)).mono ?_
 rintro e w2 ⟨rfl,hb⟩
 have HL2:=Lib.hid (HL1.out.keep hb)
 clear hb a0 a1 a2 a3 b0 b1 b2 b3
 obtain ⟨a0,a1,a2,a3⟩:=HL2.out.a.cell
 obtain ⟨b0,b1,b2,b3⟩:=HL2.out.b.cell
 go_wp2_with fail
 refine (lawake_any _ HL2.out.tab HL2.out.ers).mono ?_
 rintro e wz ⟨rfl,hb⟩
 have HZ:=Lib.hid (HL2.out.below.trans (hb.mono HL2.out.below.size))
 clear hb
 go_wp2
 go_ret
 exact ⟨rfl,HZ.out⟩
set_option maxRecDepth 100000 in
set_option maxHeartbeats 6400000 in
theorem puts_ggrange (x0:Option Addr) (n0 c0:Nat) (s0:ByteArray) (l0:List Tm) (col:Int) (x1:Option Addr) (n1 c1:Nat) (s1:ByteArray) (l1:List Tm) (hcb : -9223372036854775808≤col∧col≤9223372036854775807) (w:World) (htab:Tab w) (he:Ers w)
 (ha0:TsAt w (.slice x0 n0 c0) l0) (hn0:x0=none→c0=0) (hm0:n0≤9223372036854775807) (ha1:TsAt w (.slice x1 n1 c1) l1) (hn1:x1=none→c1=0) (hm1:n1≤9223372036854775807) (hA:lightB s0 l0=true) (hB:lightB s1 l1=true) (hcol:okCol col=false) (hX:checkErr s0 l0=0) (hY:checkErr s1 l1=0) :
 Calls Tryz.prog 5 #[.agg #[.slice x0 n0 c0,.string s0],.int .i64 col,.agg #[.slice x1 n1 c1,.string s1]] w fun e w'=>e = .returned (.bool true)∧Below w.heap.size w w':=by
 have hF:∀ W,TsAt W (.slice x0 n0 c0) l0→InF W x0 n0 c0 s0 l0:=fun W h=>(inF_light h hn0 hA).1
 have hG:∀ W,TsAt W (.slice x1 n1 c1) l1→InF W x1 n1 c1 s1 l1:=fun W h=>(inF_light h hn1 hB).1
 have HF:=Lib.hid hF
 have HG:=Lib.hid hG
 clear hF hG
 have hls0:=light_sizes hA
 have hls1:=light_sizes hB
 obtain ⟨p1,q1,hlq,hin⟩:=(HF.out _ ha0).valid hX
 subst hlq
 have hx:=hin.is_
 have hsq:=hin.short
 have hfo:=hin.fo
 have hV:∀ W,TsAt W (.slice x0 n0 c0) (tms q1)→InV W x0 n0 c0 p1 s0 q1:=fun W h=>⟨HF.out W h,hx,hsq,hfo⟩
 have HV1:=Lib.hid hV
 obtain ⟨M1,hM1⟩:∃ m,colsOf q1=m:=⟨_,rfl⟩
 have HM1:=Lib.hid (And.intro trivial hM1)
 have hm21:M1≤2048:=by rw [← hM1];exact fo_cols hfo
 have HFO1:=Lib.hid (And.intro hsq (And.intro hfo hx))
 have hpast1:=co_past hfo
 rw [hM1] at hpast1
 have HTC1:Hid ((∀ c,RT 120 (co q1 c))∧RT 120 p1):=Lib.hid ⟨co_ten hls0.1 hfo,(txt_is hsq).ten (by rw [hx];exact hls0.2.2)⟩
 have HLQ1:Hid (q1.length≤8):=Lib.hid (by have:=hls0.2.1;simpa [tms] using this)
 have HPA1:=Lib.hid hpast1
 clear hV hin hx hsq hfo hM1 hpast1 hX
 obtain ⟨p2,q2,hlq,hin⟩:=(HG.out _ ha1).valid hY
 subst hlq
 have hx:=hin.is_
 have hsq:=hin.short
 have hfo:=hin.fo
 have hV:∀ W,TsAt W (.slice x1 n1 c1) (tms q2)→InV W x1 n1 c1 p2 s1 q2:=fun W h=>⟨HG.out W h,hx,hsq,hfo⟩
 have HV2:=Lib.hid hV
 obtain ⟨M2,hM2⟩:∃ m,colsOf q2=m:=⟨_,rfl⟩
 have HM2:=Lib.hid (And.intro trivial hM2)
 have hm22:M2≤2048:=by rw [← hM2];exact fo_cols hfo
 have HFO2:=Lib.hid (And.intro hsq (And.intro hfo hx))
 have hpast2:=co_past hfo
 rw [hM2] at hpast2
 have HTC2:Hid ((∀ c,RT 120 (co q2 c))∧RT 120 p2):=Lib.hid ⟨co_ten hls1.1 hfo,(txt_is hsq).ten (by rw [hx];exact hls1.2.2)⟩
 have HLQ2:Hid (q2.length≤8):=Lib.hid (by have:=hls1.2.1;simpa [tms] using this)
 have HPA2:=Lib.hid hpast2
 clear hV hin hx hsq hfo hM2 hpast2 hY
 clear hls0 hls1
 have hnil:SsAt w (.slice none 0 0) []:=⟨_,_,_,rfl,rfl,.inl rfl⟩
 have HL0:=Lib.hid (LV.start (s0:=s0) (s1:=s1) w ha0 ha1 hnil htab he)
 clear ha0 ha1 hnil htab he
 obtain ⟨a0,a1,a2,a3⟩:=HL0.out.a.cell
 obtain ⟨b0,b1,b2,b3⟩:=HL0.out.b.cell
 go_enter Tryz.func5,Tryz.ntmps5
 go_wp2_with fail
 refine (Light_any s0 x0 n0 c0 (tms q1) true _ HL0.out.fa hm0 (Lib.hid hA)).mono ?_
 rintro e w1 ⟨rfl,hb⟩
 have HL1:=Lib.hid (HL0.out.keep hb)
 clear hb a0 a1 a2 a3 b0 b1 b2 b3
 obtain ⟨a0,a1,a2,a3⟩:=HL1.out.a.cell
 obtain ⟨b0,b1,b2,b3⟩:=HL1.out.b.cell
 go_wp2_with fail
 refine (Light_any s1 x1 n1 c1 (tms q2) true _ HL1.out.fb hm1 (Lib.hid hB)).mono ?_
 rintro e w2 ⟨rfl,hb⟩
 have HL2:=Lib.hid (HL1.out.keep hb)
 clear hb a0 a1 a2 a3 b0 b1 b2 b3
 obtain ⟨a0,a1,a2,a3⟩:=HL2.out.a.cell
 obtain ⟨b0,b1,b2,b3⟩:=HL2.out.b.cell
 go_wp2_with fail
 refine (lread_good p1 s0 x0 n0 c0 q1 _ (HV1.out _ HL2.out.fa)).mono ?_
 rintro e w4 ⟨⟨v,rfl,sv,cs1,c4,rfl,hrow,hnum⟩,hb⟩
 obtain ⟨i1,j1,k1,u1,i2,j2,k2,u2,rfl⟩:=hnum.expl
 obtain ⟨as1,ca1,hsv⟩:=hrow.slice
 rw [rowOf_length,HM1.out.2] at hsv
 subst hsv
 rw [HM1.out.2] at hrow
 have hC:Below w4.heap.size w4 (w4.alloc (.cells #[.slice as1 M1 ca1,.bool i1,.slice j1 k1 u1,.bool i2,.slice j2 k2 u2] 35)):=(Below.refl _ w4).alloc (Nat.le_refl _) _
 have hbC:=hb.trans (hC.mono hb.size)
 have HL4:=Lib.hid (HL2.out.keep hbC)
 have HAF4:=Lib.hid (B5.new w4 (.slice as1 M1 ca1) (.bool i1) (.slice j1 k1 u1) (.bool i2) (.slice j2 k2 u2) 35)
 have HAR4:=Lib.hid (hrow.keep hC)
 have HAN4:=Lib.hid (hnum.keep hC (Nat.le_refl _))
 clear hb hC hbC a0 a1 a2 a3 b0 b1 b2 b3
 clear hrow hnum
 obtain ⟨a0,a1,a2,a3⟩:=HL4.out.a.cell
 obtain ⟨b0,b1,b2,b3⟩:=HL4.out.b.cell
 go_wp2_with fail
 refine (lread_good p2 s1 x1 n1 c1 q2 _ (HV2.out _ HL4.out.fb)).mono ?_
 rintro e w5 ⟨⟨v,rfl,sv,cs2,c4,rfl,hrow,hnum⟩,hb⟩
 obtain ⟨i3,j3,k3,u3,i4,j4,k4,u4,rfl⟩:=hnum.expl
 obtain ⟨as2,ca2,hsv⟩:=hrow.slice
 rw [rowOf_length,HM2.out.2] at hsv
 subst hsv
 rw [HM2.out.2] at hrow
 have hC:Below w5.heap.size w5 (w5.alloc (.cells #[.slice as2 M2 ca2,.bool i3,.slice j3 k3 u3,.bool i4,.slice j4 k4 u4] 35)):=(Below.refl _ w5).alloc (Nat.le_refl _) _
 have hbC:=hb.trans (hC.mono hb.size)
 have HL5:=Lib.hid (HL4.out.keep hbC)
 have HBF5:=Lib.hid (B5.new w5 (.slice as2 M2 ca2) (.bool i3) (.slice j3 k3 u3) (.bool i4) (.slice j4 k4 u4) 35)
 have HBR5:=Lib.hid (hrow.keep hC)
 have HBN5:=Lib.hid (hnum.keep hC (Nat.le_refl _))
 have HAF5:=Lib.hid (HAF4.out.keep hbC)
 have HAR5:=Lib.hid (HAR4.out.keep hbC)
 have HAN5:=Lib.hid (HAN4.out.keep hbC (Nat.le_refl _))
 clear hb hC hbC a0 a1 a2 a3 b0 b1 b2 b3
 clear hrow hnum
 obtain ⟨a0,a1,a2,a3⟩:=HL5.out.a.cell
 obtain ⟨b0,b1,b2,b3⟩:=HL5.out.b.cell
 go_wp2_with fail
 refine (Put_range p1 p2 s0 s1 x0 x1 n0 c0 n1 c1 q1 q2 col _ (HV1.out _ HL5.out.fa) (HV2.out _ HL5.out.fb) hcol).mono ?_
 rintro e w6 ⟨hb,rfl⟩
 have hC:Below w6.heap.size w6 (w6.alloc (.cells #[.slice none 0 0,.string ⟨#[]⟩] 24)):=(Below.refl _ w6).alloc (Nat.le_refl _) _
 have hbC:=hb.trans (hC.mono hb.size)
 have hL6:=HL5.out.keep hbC
 have HL6:=Lib.hid hL6
 have HGX:=Lib.hid (Bx.new w6 (.slice none 0 0) (.string ⟨#[]⟩) 24)
 have HAF6:=Lib.hid (HAF5.out.keep hbC)
 have HAR6:=Lib.hid (HAR5.out.keep hbC)
 have HAN6:=Lib.hid (HAN5.out.keep hbC (Nat.le_refl _))
 have HBF6:=Lib.hid (HBF5.out.keep hbC)
 have HBR6:=Lib.hid (HBR5.out.keep hbC)
 have HBN6:=Lib.hid (HBN5.out.keep hbC (Nat.le_refl _))
 clear hb hC hbC hL6 a0 a1 a2 a3 b0 b1 b2 b3
 obtain ⟨g0,g1',_,_⟩:=HGX.out.cell
 obtain ⟨c0',c1',c2',c3',c4'⟩:=HAF6.out.cell
 obtain ⟨d0',d1',d2',d3',d4'⟩:=HBF6.out.cell
 have hga:=HGX.out.lt
 have hgb:=HAF6.out.lt
 have hgc:=HBF6.out.lt
 have hcc:col<0∨0≤col∧2048≤col:=by
  by_cases h:col<0
  · exact .inl h
  · refine .inr ⟨by omega,?_⟩
    by_cases h2:2048≤col
    · exact h2
    · rw [okCol_in.2 ⟨by omega,by omega⟩] at hcol;cases hcol
 clear hcol
 rcases hcc with hc1 | ⟨hc1,hc2⟩
 all_goals
  go_wp2_with fail
  refine (lawake_any _ HL6.out.tab HL6.out.ers).mono ?_
  rintro e wz ⟨rfl,hb⟩
  have HZ:=Lib.hid (HL6.out.below.trans (hb.mono HL6.out.below.size))
  clear hb
  go_wp2
  go_ret
  exact ⟨rfl,HZ.out⟩
set_option maxRecDepth 100000 in
set_option maxHeartbeats 6400000 in
theorem puts_ggin (x0:Option Addr) (n0 c0:Nat) (s0:ByteArray) (l0:List Tm) (col:Int) (x1:Option Addr) (n1 c1:Nat) (s1:ByteArray) (l1:List Tm) (hcb : -9223372036854775808≤col∧col≤9223372036854775807) (w:World) (htab:Tab w) (he:Ers w)
 (ha0:TsAt w (.slice x0 n0 c0) l0) (hn0:x0=none→c0=0) (hm0:n0≤9223372036854775807) (ha1:TsAt w (.slice x1 n1 c1) l1) (hn1:x1=none→c1=0) (hm1:n1≤9223372036854775807) (hA:lightB s0 l0=true) (hB:lightB s1 l1=true) (hcol:ColIn col) (hX:checkErr s0 l0=0) (hY:checkErr s1 l1=0) :
 Calls Tryz.prog 5 #[.agg #[.slice x0 n0 c0,.string s0],.int .i64 col,.agg #[.slice x1 n1 c1,.string s1]] w fun e w'=>e = .returned (.bool true)∧Below w.heap.size w w':=by
 obtain ⟨j,hjc⟩:∃ j:Nat,col=(j:Int):=⟨col.toNat,by have:=hcol.1;omega⟩
 subst hjc
 have hj:j<2048:=by have:=hcol.2;omega
 have hk0:¬ (j:Int)<0:=by omega
 have hk1:¬ 2048≤(j:Int):=by omega
 have HCI:=Lib.hid hcol
 have HJ:=Lib.hid hj
 clear hcol hj
 have hF:∀ W,TsAt W (.slice x0 n0 c0) l0→InF W x0 n0 c0 s0 l0:=fun W h=>(inF_light h hn0 hA).1
 have hG:∀ W,TsAt W (.slice x1 n1 c1) l1→InF W x1 n1 c1 s1 l1:=fun W h=>(inF_light h hn1 hB).1
 have HF:=Lib.hid hF
 have HG:=Lib.hid hG
 clear hF hG
 have hls0:=light_sizes hA
 have hls1:=light_sizes hB
 obtain ⟨p1,q1,hlq,hin⟩:=(HF.out _ ha0).valid hX
 subst hlq
 have hx:=hin.is_
 have hsq:=hin.short
 have hfo:=hin.fo
 have hV:∀ W,TsAt W (.slice x0 n0 c0) (tms q1)→InV W x0 n0 c0 p1 s0 q1:=fun W h=>⟨HF.out W h,hx,hsq,hfo⟩
 have HV1:=Lib.hid hV
 obtain ⟨M1,hM1⟩:∃ m,colsOf q1=m:=⟨_,rfl⟩
 have HM1:=Lib.hid (And.intro trivial hM1)
 have hm21:M1≤2048:=by rw [← hM1];exact fo_cols hfo
 have HFO1:=Lib.hid (And.intro hsq (And.intro hfo hx))
 have hpast1:=co_past hfo
 rw [hM1] at hpast1
 have HTC1:Hid ((∀ c,RT 120 (co q1 c))∧RT 120 p1):=Lib.hid ⟨co_ten hls0.1 hfo,(txt_is hsq).ten (by rw [hx];exact hls0.2.2)⟩
 have HLQ1:Hid (q1.length≤8):=Lib.hid (by have:=hls0.2.1;simpa [tms] using this)
 have HPA1:=Lib.hid hpast1
 clear hV hin hx hsq hfo hM1 hpast1 hX
 obtain ⟨p2,q2,hlq,hin⟩:=(HG.out _ ha1).valid hY
 subst hlq
 have hx:=hin.is_
 have hsq:=hin.short
 have hfo:=hin.fo
 have hV:∀ W,TsAt W (.slice x1 n1 c1) (tms q2)→InV W x1 n1 c1 p2 s1 q2:=fun W h=>⟨HG.out W h,hx,hsq,hfo⟩
 have HV2:=Lib.hid hV
 obtain ⟨M2,hM2⟩:∃ m,colsOf q2=m:=⟨_,rfl⟩
 have HM2:=Lib.hid (And.intro trivial hM2)
 have hm22:M2≤2048:=by rw [← hM2];exact fo_cols hfo
 have HFO2:=Lib.hid (And.intro hsq (And.intro hfo hx))
 have hpast2:=co_past hfo
 rw [hM2] at hpast2
 have HTC2:Hid ((∀ c,RT 120 (co q2 c))∧RT 120 p2):=Lib.hid ⟨co_ten hls1.1 hfo,(txt_is hsq).ten (by rw [hx];exact hls1.2.2)⟩
 have HLQ2:Hid (q2.length≤8):=Lib.hid (by have:=hls1.2.1;simpa [tms] using this)
 have HPA2:=Lib.hid hpast2
 clear hV hin hx hsq hfo hM2 hpast2 hY
 clear hls0 hls1
 have hnil:SsAt w (.slice none 0 0) []:=⟨_,_,_,rfl,rfl,.inl rfl⟩
 have HL0:=Lib.hid (LV.start (s0:=s0) (s1:=s1) w ha0 ha1 hnil htab he)
 clear ha0 ha1 hnil htab he
 obtain ⟨a0,a1,a2,a3⟩:=HL0.out.a.cell
 obtain ⟨b0,b1,b2,b3⟩:=HL0.out.b.cell
 go_enter Tryz.func5,Tryz.ntmps5
 go_wp2_with fail
 refine (Light_any s0 x0 n0 c0 (tms q1) true _ HL0.out.fa hm0 (Lib.hid hA)).mono ?_
 rintro e w1 ⟨rfl,hb⟩
 have HL1:=Lib.hid (HL0.out.keep hb)
 clear hb a0 a1 a2 a3 b0 b1 b2 b3
 obtain ⟨a0,a1,a2,a3⟩:=HL1.out.a.cell
 obtain ⟨b0,b1,b2,b3⟩:=HL1.out.b.cell
 go_wp2_with fail
 refine (Light_any s1 x1 n1 c1 (tms q2) true _ HL1.out.fb hm1 (Lib.hid hB)).mono ?_
 rintro e w2 ⟨rfl,hb⟩
 have HL2:=Lib.hid (HL1.out.keep hb)
 clear hb a0 a1 a2 a3 b0 b1 b2 b3
 obtain ⟨a0,a1,a2,a3⟩:=HL2.out.a.cell
 obtain ⟨b0,b1,b2,b3⟩:=HL2.out.b.cell
 go_wp2_with fail
 refine (lread_good p1 s0 x0 n0 c0 q1 _ (HV1.out _ HL2.out.fa)).mono ?_
 rintro e w4 ⟨⟨v,rfl,sv,cs1,c4,rfl,hrow,hnum⟩,hb⟩
 obtain ⟨i1,j1,k1,u1,i2,j2,k2,u2,rfl⟩:=hnum.expl
 obtain ⟨as1,ca1,hsv⟩:=hrow.slice
 rw [rowOf_length,HM1.out.2] at hsv
 subst hsv
 rw [HM1.out.2] at hrow
 have hC:Below w4.heap.size w4 (w4.alloc (.cells #[.slice as1 M1 ca1,.bool i1,.slice j1 k1 u1,.bool i2,.slice j2 k2 u2] 35)):=(Below.refl _ w4).alloc (Nat.le_refl _) _
 have hbC:=hb.trans (hC.mono hb.size)
 have HL4:=Lib.hid (HL2.out.keep hbC)
 have HAF4:=Lib.hid (B5.new w4 (.slice as1 M1 ca1) (.bool i1) (.slice j1 k1 u1) (.bool i2) (.slice j2 k2 u2) 35)
 have HAR4:=Lib.hid (hrow.keep hC)
 have HAN4:=Lib.hid (hnum.keep hC (Nat.le_refl _))
 clear hb hC hbC a0 a1 a2 a3 b0 b1 b2 b3
 clear hrow hnum
 obtain ⟨a0,a1,a2,a3⟩:=HL4.out.a.cell
 obtain ⟨b0,b1,b2,b3⟩:=HL4.out.b.cell
 go_wp2_with fail
 refine (lread_good p2 s1 x1 n1 c1 q2 _ (HV2.out _ HL4.out.fb)).mono ?_
 rintro e w5 ⟨⟨v,rfl,sv,cs2,c4,rfl,hrow,hnum⟩,hb⟩
 obtain ⟨i3,j3,k3,u3,i4,j4,k4,u4,rfl⟩:=hnum.expl
 obtain ⟨as2,ca2,hsv⟩:=hrow.slice
 rw [rowOf_length,HM2.out.2] at hsv
 subst hsv
 rw [HM2.out.2] at hrow
 have hC:Below w5.heap.size w5 (w5.alloc (.cells #[.slice as2 M2 ca2,.bool i3,.slice j3 k3 u3,.bool i4,.slice j4 k4 u4] 35)):=(Below.refl _ w5).alloc (Nat.le_refl _) _
 have hbC:=hb.trans (hC.mono hb.size)
 have HL5:=Lib.hid (HL4.out.keep hbC)
 have HBF5:=Lib.hid (B5.new w5 (.slice as2 M2 ca2) (.bool i3) (.slice j3 k3 u3) (.bool i4) (.slice j4 k4 u4) 35)
 have HBR5:=Lib.hid (hrow.keep hC)
 have HBN5:=Lib.hid (hnum.keep hC (Nat.le_refl _))
 have HAF5:=Lib.hid (HAF4.out.keep hbC)
 have HAR5:=Lib.hid (HAR4.out.keep hbC)
 have HAN5:=Lib.hid (HAN4.out.keep hbC (Nat.le_refl _))
 clear hb hC hbC a0 a1 a2 a3 b0 b1 b2 b3
 clear hrow hnum
 obtain ⟨a0,a1,a2,a3⟩:=HL5.out.a.cell
 obtain ⟨b0,b1,b2,b3⟩:=HL5.out.b.cell
 have hput:=put_all (c:=(j:Int)) HTC1.out.2 HTC2.out.2 HTC1.out.1 HTC2.out.1 HFO1.out.2.1 HFO2.out.2.1
 obtain ⟨xs,hxs⟩:∃ xs,txt (p1+p2*co q1 j)=xs:=⟨_,rfl⟩
 have HSUM:=Lib.hid (And.intro hput hxs)
 clear hput hxs
 go_wp2_with fail
 refine (Put_good p1 p2 s0 s1 x0 x1 n0 c0 n1 c1 q1 q2 j _ (HV1.out _ HL5.out.fa) (HV2.out _ HL5.out.fb) HCI.out HL5.out.tab).mono ?_
 rintro e w6 h
 rw [HSUM.out.1,HSUM.out.2] at h
 obtain ⟨hb,ad,n,cap,rfl,hts,-⟩:=h
 have hC:Below w6.heap.size w6 (w6.alloc (.cells #[.slice ad n cap,.string xs] 24)):=(Below.refl _ w6).alloc (Nat.le_refl _) _
 have hbC:=hb.trans (hC.mono hb.size)
 have hL6:=HL5.out.keep hbC
 have HL6:=Lib.hid hL6
 have HGX:=Lib.hid (Bx.new w6 (.slice ad n cap) (.string xs) 24)
 have HAF6:=Lib.hid (HAF5.out.keep hbC)
 have HAR6:=Lib.hid (HAR5.out.keep hbC)
 have HAN6:=Lib.hid (HAN5.out.keep hbC (Nat.le_refl _))
 have HBF6:=Lib.hid (HBF5.out.keep hbC)
 have HBR6:=Lib.hid (HBR5.out.keep hbC)
 have HBN6:=Lib.hid (HBN5.out.keep hbC (Nat.le_refl _))
 have HTS:=Lib.hid (hts.keep hC (Nat.le_refl _))
 clear hb hC hbC hL6 hts a0 a1 a2 a3 b0 b1 b2 b3
 obtain ⟨g0,g1',_,_⟩:=HGX.out.cell
 obtain ⟨c0',c1',c2',c3',c4'⟩:=HAF6.out.cell
 obtain ⟨d0',d1',d2',d3',d4'⟩:=HBF6.out.cell
 have hga:=HGX.out.lt
 have hgb:=HAF6.out.lt
 have hgc:=HBF6.out.lt
 go_wp2_with fail
 refine (rPut_any _ _ i1 i2 j1 j2 k1 u1 k2 u2 i3 i4 j3 j4 k3 u3 k4 u4 _ _ M1 M2 (co q1) (co q2) cs1 cs2 p1 p2 j _ HAR6.out HBR6.out HAN6.out HBN6.out HPA1.out HPA2.out HTC1.out.1 HTC2.out.1 HTC1.out.2 HTC2.out.2 hm21 hm22 HJ.out).mono ?_
 rintro e w7 ⟨⟨v7,rfl,hf7⟩,hb7⟩
 obtain ⟨s7,cs7,o1,e1,f1,g1,o2,e2,f2,g2,rfl,hr7,hn7⟩:=hf7.opened
 obtain ⟨as3,ca3,hs7⟩:=hr7.slice
 subst hs7
 have hC:Below w7.heap.size w7 (w7.alloc (.cells #[.slice as3 (rowOf (fun c=>(if c=(j:Int) then 0 else co q1 c)+co q2 c*co q1 j) (max M1 M2)).length ca3,.bool o1,.slice e1 f1 g1,.bool o2,.slice e2 f2 g2] 35)):=(Below.refl _ w7).alloc (Nat.le_refl _) _
 have hbC:=hb7.trans (hC.mono hb7.size)
 have HL7:=Lib.hid (HL6.out.keep hbC)
 have HGX7:=Lib.hid (HGX.out.below hbC HGX.out.lt)
 have HTS7:=Lib.hid (HTS.out.keep hbC (Nat.le_refl _))
 have HR7:=Lib.hid (hr7.keep hC)
 have HN7:=Lib.hid (hn7.keep hC (Nat.le_refl _))
 have HWX:=Lib.hid (B5.new w7 (.slice as3 (rowOf (fun c=>(if c=(j:Int) then 0 else co q1 c)+co q2 c*co q1 j) (max M1 M2)).length ca3) (.bool o1) (.slice e1 f1 g1) (.bool o2) (.slice e2 f2 g2) 35)
 clear hb7 hf7 hr7 hn7 hC hbC g0 g1' c0' c1' c2' c3' c4' d0' d1' d2' d3' d4' hga hgb hgc
 obtain ⟨g0,g1',_,_⟩:=HGX7.out.cell
 obtain ⟨c0',c1',c2',c3',c4'⟩:=HWX.out.cell
 have HSH:Hid (∀ c:Int,rshort ((if c=(j:Int) then 0 else co q1 c)+co q2 c*co q1 j)=true):=Lib.hid (fun c=>by
  split
  · exact (rt_z120.add ((HTC2.out.1 c).mul (HTC1.out.1 _))).short (by omega)
  · exact ((HTC1.out.1 c).add ((HTC2.out.1 c).mul (HTC1.out.1 _))).short (by omega))
 have hmm:max M1 M2≤2048:=by omega
 have hts8:=HTS7.out
 rw [formOf_cut (m:=max M1 M2) (fun c hc=>by
  have h2:co q2 c=0:=HPA2.out c (by omega)
  rw [h2,Rat.zero_mul,Rat.add_zero]
  split
  · rfl
  · exact HPA1.out c (by omega)) hmm] at hts8
 have HTS8:=Lib.hid hts8
 clear hts8
 go_wp2_with fail
 refine (is_good ad n cap xs _ _ _ _ _ _ _ _ _ _ (max M1 M2) (fun c=>(if c=(j:Int) then 0 else co q1 c)+co q2 c*co q1 j) cs7 (p1+p2*co q1 j) _ HR7.out HN7.out HSH.out ((HTC1.out.2.add (HTC2.out.2.mul (HTC1.out.1 _))).short (by omega)) hmm (Lib.hid HSUM.out.2) HTS8.out).mono ?_
 rintro e w8 ⟨rfl,hb8⟩
 have HL8:=Lib.hid (HL7.out.keep hb8)
 clear hb8 g0 g1' c0' c1' c2' c3' c4'
 go_wp2_with fail
 refine (lawake_any _ HL8.out.tab HL8.out.ers).mono ?_
 rintro e wz ⟨rfl,hb⟩
 have HZ:=Lib.hid (HL8.out.below.trans (hb.mono HL8.out.below.size))
 clear hb
 go_wp2
 go_ret
 exact ⟨rfl,HZ.out⟩
set_option maxRecDepth 100000 in
set_option maxHeartbeats 6400000 in
theorem puts_gb (x0:Option Addr) (n0 c0:Nat) (s0:ByteArray) (l0:List Tm) (col:Int) (x1:Option Addr) (n1 c1:Nat) (s1:ByteArray) (l1:List Tm) (hcb : -9223372036854775808≤col∧col≤9223372036854775807) (w:World) (htab:Tab w) (he:Ers w)
 (ha0:TsAt w (.slice x0 n0 c0) l0) (hn0:x0=none→c0=0) (hm0:n0≤9223372036854775807) (ha1:TsAt w (.slice x1 n1 c1) l1) (hn1:x1=none→c1=0) (hm1:n1≤9223372036854775807) (hA:lightB s0 l0=true) (hB:lightB s1 l1=true) (hX:checkErr s0 l0=0) (hY:checkErr s1 l1≠0) :
 Calls Tryz.prog 5 #[.agg #[.slice x0 n0 c0,.string s0],.int .i64 col,.agg #[.slice x1 n1 c1,.string s1]] w fun e w'=>e = .returned (.bool true)∧Below w.heap.size w w':=by
 have hF:∀ W,TsAt W (.slice x0 n0 c0) l0→InF W x0 n0 c0 s0 l0:=fun W h=>(inF_light h hn0 hA).1
 have hG:∀ W,TsAt W (.slice x1 n1 c1) l1→InF W x1 n1 c1 s1 l1:=fun W h=>(inF_light h hn1 hB).1
 have HF:=Lib.hid hF
 have HG:=Lib.hid hG
 clear hF hG
 have hls0:=light_sizes hA
 have hls1:=light_sizes hB
 obtain ⟨p1,q1,hlq,hin⟩:=(HF.out _ ha0).valid hX
 subst hlq
 have hx:=hin.is_
 have hsq:=hin.short
 have hfo:=hin.fo
 have hV:∀ W,TsAt W (.slice x0 n0 c0) (tms q1)→InV W x0 n0 c0 p1 s0 q1:=fun W h=>⟨HF.out W h,hx,hsq,hfo⟩
 have HV1:=Lib.hid hV
 obtain ⟨M1,hM1⟩:∃ m,colsOf q1=m:=⟨_,rfl⟩
 have HM1:=Lib.hid (And.intro trivial hM1)
 have hm21:M1≤2048:=by rw [← hM1];exact fo_cols hfo
 have HFO1:=Lib.hid (And.intro hsq (And.intro hfo hx))
 have hpast1:=co_past hfo
 rw [hM1] at hpast1
 have HTC1:Hid ((∀ c,RT 120 (co q1 c))∧RT 120 p1):=Lib.hid ⟨co_ten hls0.1 hfo,(txt_is hsq).ten (by rw [hx];exact hls0.2.2)⟩
 have HLQ1:Hid (q1.length≤8):=Lib.hid (by have:=hls0.2.1;simpa [tms] using this)
 have HPA1:=Lib.hid hpast1
 clear hV hin hx hsq hfo hM1 hpast1 hX
 have HY:=Lib.hid hY
 clear hY
 clear hls0 hls1
 have hnil:SsAt w (.slice none 0 0) []:=⟨_,_,_,rfl,rfl,.inl rfl⟩
 have HL0:=Lib.hid (LV.start (s0:=s0) (s1:=s1) w ha0 ha1 hnil htab he)
 clear ha0 ha1 hnil htab he
 obtain ⟨a0,a1,a2,a3⟩:=HL0.out.a.cell
 obtain ⟨b0,b1,b2,b3⟩:=HL0.out.b.cell
 go_enter Tryz.func5,Tryz.ntmps5
 go_wp2_with fail
 refine (Light_any s0 x0 n0 c0 (tms q1) true _ HL0.out.fa hm0 (Lib.hid hA)).mono ?_
 rintro e w1 ⟨rfl,hb⟩
 have HL1:=Lib.hid (HL0.out.keep hb)
 clear hb a0 a1 a2 a3 b0 b1 b2 b3
 obtain ⟨a0,a1,a2,a3⟩:=HL1.out.a.cell
 obtain ⟨b0,b1,b2,b3⟩:=HL1.out.b.cell
 go_wp2_with fail
 refine (Light_any s1 x1 n1 c1 l1 true _ HL1.out.fb hm1 (Lib.hid hB)).mono ?_
 rintro e w2 ⟨rfl,hb⟩
 have HL2:=Lib.hid (HL1.out.keep hb)
 clear hb a0 a1 a2 a3 b0 b1 b2 b3
 obtain ⟨a0,a1,a2,a3⟩:=HL2.out.a.cell
 obtain ⟨b0,b1,b2,b3⟩:=HL2.out.b.cell
 go_wp2_with fail
 refine (lread_good p1 s0 x0 n0 c0 q1 _ (HV1.out _ HL2.out.fa)).mono ?_
 rintro e w4 ⟨⟨v,rfl,sv,cs1,c4,rfl,hrow,hnum⟩,hb⟩
 obtain ⟨i1,j1,k1,u1,i2,j2,k2,u2,rfl⟩:=hnum.expl
 obtain ⟨as1,ca1,hsv⟩:=hrow.slice
 rw [rowOf_length,HM1.out.2] at hsv
 subst hsv
 rw [HM1.out.2] at hrow
 have hC:Below w4.heap.size w4 (w4.alloc (.cells #[.slice as1 M1 ca1,.bool i1,.slice j1 k1 u1,.bool i2,.slice j2 k2 u2] 35)):=(Below.refl _ w4).alloc (Nat.le_refl _) _
 have hbC:=hb.trans (hC.mono hb.size)
 have HL4:=Lib.hid (HL2.out.keep hbC)
 have HAF4:=Lib.hid (B5.new w4 (.slice as1 M1 ca1) (.bool i1) (.slice j1 k1 u1) (.bool i2) (.slice j2 k2 u2) 35)
 have HAR4:=Lib.hid (hrow.keep hC)
 have HAN4:=Lib.hid (hnum.keep hC (Nat.le_refl _))
 clear hb hC hbC a0 a1 a2 a3 b0 b1 b2 b3
 clear hrow hnum
 obtain ⟨a0,a1,a2,a3⟩:=HL4.out.a.cell
 obtain ⟨b0,b1,b2,b3⟩:=HL4.out.b.cell
 go_wp2_with fail
 refine (lread_bad s1 x1 n1 c1 l1 _ (HG.out _ HL4.out.fb) HY.out).mono ?_
 rintro e w5 ⟨rfl,hb⟩
 have hC:Below w5.heap.size w5 (w5.alloc (.cells #[.slice none 0 0,.bool false,.slice none 0 0,.bool false,.slice none 0 0] 35)):=(Below.refl _ w5).alloc (Nat.le_refl _) _
 have hbC:=hb.trans (hC.mono hb.size)
 have HL5:=Lib.hid (HL4.out.keep hbC)
 have HBF5:=Lib.hid (B5.new w5 (.slice none 0 0) (.bool false) (.slice none 0 0) (.bool false) (.slice none 0 0) 35)
 have HAF5:=Lib.hid (HAF4.out.keep hbC)
 have HAR5:=Lib.hid (HAR4.out.keep hbC)
 have HAN5:=Lib.hid (HAN4.out.keep hbC (Nat.le_refl _))
 clear hb hC hbC a0 a1 a2 a3 b0 b1 b2 b3
 obtain ⟨a0,a1,a2,a3⟩:=HL5.out.a.cell
 obtain ⟨b0,b1,b2,b3⟩:=HL5.out.b.cell
 go_wp2_with fail
 refine (Put_bad s0 s1 x0 x1 n0 c0 n1 c1 (tms q1) l1 col _ (HF.out _ HL5.out.fa) (HG.out _ HL5.out.fb) (.inr HY.out)).mono ?_
 rintro e w6 ⟨hb,rfl⟩
 have hC:Below w6.heap.size w6 (w6.alloc (.cells #[.slice none 0 0,.string ⟨#[]⟩] 24)):=(Below.refl _ w6).alloc (Nat.le_refl _) _
 have hbC:=hb.trans (hC.mono hb.size)
 have hL6:=HL5.out.keep hbC
 have HL6:=Lib.hid hL6
 have HGX:=Lib.hid (Bx.new w6 (.slice none 0 0) (.string ⟨#[]⟩) 24)
 have HAF6:=Lib.hid (HAF5.out.keep hbC)
 have HAR6:=Lib.hid (HAR5.out.keep hbC)
 have HAN6:=Lib.hid (HAN5.out.keep hbC (Nat.le_refl _))
 have HBF6:=Lib.hid (HBF5.out.keep hbC)
 clear hb hC hbC hL6 a0 a1 a2 a3 b0 b1 b2 b3
 obtain ⟨g0,g1',_,_⟩:=HGX.out.cell
 obtain ⟨c0',c1',c2',c3',c4'⟩:=HAF6.out.cell
 obtain ⟨d0',d1',d2',d3',d4'⟩:=HBF6.out.cell
 have hga:=HGX.out.lt
 have hgb:=HAF6.out.lt
 have hgc:=HBF6.out.lt
 go_wp2_with fail
 refine (is_bad _ _ _ _ _ 3 _ (by decide)).mono ?_
 rintro e w8 ⟨rfl,hb8⟩
 have HL8:=Lib.hid (HL6.out.keep hb8)
 clear hb8 g0 g1' c0' c1' c2' c3' c4' d0' d1' d2' d3' d4' hga hgb hgc
 go_wp2_with fail
 refine (lawake_any _ HL8.out.tab HL8.out.ers).mono ?_
 rintro e wz ⟨rfl,hb⟩
 have HZ:=Lib.hid (HL8.out.below.trans (hb.mono HL8.out.below.size))
 clear hb
 go_wp2
 go_ret
 exact ⟨rfl,HZ.out⟩
set_option maxRecDepth 100000 in
set_option maxHeartbeats 6400000 in
theorem puts_bg (x0:Option Addr) (n0 c0:Nat) (s0:ByteArray) (l0:List Tm) (col:Int) (x1:Option Addr) (n1 c1:Nat) (s1:ByteArray) (l1:List Tm) (hcb : -9223372036854775808≤col∧col≤9223372036854775807) (w:World) (htab:Tab w) (he:Ers w)
 (ha0:TsAt w (.slice x0 n0 c0) l0) (hn0:x0=none→c0=0) (hm0:n0≤9223372036854775807) (ha1:TsAt w (.slice x1 n1 c1) l1) (hn1:x1=none→c1=0) (hm1:n1≤9223372036854775807) (hA:lightB s0 l0=true) (hB:lightB s1 l1=true) (hX:checkErr s0 l0≠0) (hY:checkErr s1 l1=0) :
 Calls Tryz.prog 5 #[.agg #[.slice x0 n0 c0,.string s0],.int .i64 col,.agg #[.slice x1 n1 c1,.string s1]] w fun e w'=>e = .returned (.bool true)∧Below w.heap.size w w':=by
 have hF:∀ W,TsAt W (.slice x0 n0 c0) l0→InF W x0 n0 c0 s0 l0:=fun W h=>(inF_light h hn0 hA).1
 have hG:∀ W,TsAt W (.slice x1 n1 c1) l1→InF W x1 n1 c1 s1 l1:=fun W h=>(inF_light h hn1 hB).1
 have HF:=Lib.hid hF
 have HG:=Lib.hid hG
 clear hF hG
 have hls0:=light_sizes hA
 have hls1:=light_sizes hB
 have HX:=Lib.hid hX
 clear hX
 obtain ⟨p2,q2,hlq,hin⟩:=(HG.out _ ha1).valid hY
 subst hlq
 have hx:=hin.is_
 have hsq:=hin.short
 have hfo:=hin.fo
 have hV:∀ W,TsAt W (.slice x1 n1 c1) (tms q2)→InV W x1 n1 c1 p2 s1 q2:=fun W h=>⟨HG.out W h,hx,hsq,hfo⟩
 have HV2:=Lib.hid hV
 obtain ⟨M2,hM2⟩:∃ m,colsOf q2=m:=⟨_,rfl⟩
 have HM2:=Lib.hid (And.intro trivial hM2)
 have hm22:M2≤2048:=by rw [← hM2];exact fo_cols hfo
 have HFO2:=Lib.hid (And.intro hsq (And.intro hfo hx))
 have hpast2:=co_past hfo
 rw [hM2] at hpast2
 have HTC2:Hid ((∀ c,RT 120 (co q2 c))∧RT 120 p2):=Lib.hid ⟨co_ten hls1.1 hfo,(txt_is hsq).ten (by rw [hx];exact hls1.2.2)⟩
 have HLQ2:Hid (q2.length≤8):=Lib.hid (by have:=hls1.2.1;simpa [tms] using this)
 have HPA2:=Lib.hid hpast2
 clear hV hin hx hsq hfo hM2 hpast2 hY
 clear hls0 hls1
 have hnil:SsAt w (.slice none 0 0) []:=⟨_,_,_,rfl,rfl,.inl rfl⟩
 have HL0:=Lib.hid (LV.start (s0:=s0) (s1:=s1) w ha0 ha1 hnil htab he)
 clear ha0 ha1 hnil htab he
 obtain ⟨a0,a1,a2,a3⟩:=HL0.out.a.cell
 obtain ⟨b0,b1,b2,b3⟩:=HL0.out.b.cell
 go_enter Tryz.func5,Tryz.ntmps5
 go_wp2_with fail
 refine (Light_any s0 x0 n0 c0 l0 true _ HL0.out.fa hm0 (Lib.hid hA)).mono ?_
 rintro e w1 ⟨rfl,hb⟩
 have HL1:=Lib.hid (HL0.out.keep hb)
 clear hb a0 a1 a2 a3 b0 b1 b2 b3
 obtain ⟨a0,a1,a2,a3⟩:=HL1.out.a.cell
 obtain ⟨b0,b1,b2,b3⟩:=HL1.out.b.cell
 go_wp2_with fail
 refine (Light_any s1 x1 n1 c1 (tms q2) true _ HL1.out.fb hm1 (Lib.hid hB)).mono ?_
 rintro e w2 ⟨rfl,hb⟩
 have HL2:=Lib.hid (HL1.out.keep hb)
 clear hb a0 a1 a2 a3 b0 b1 b2 b3
 obtain ⟨a0,a1,a2,a3⟩:=HL2.out.a.cell
 obtain ⟨b0,b1,b2,b3⟩:=HL2.out.b.cell
 go_wp2_with fail
 refine (lread_bad s0 x0 n0 c0 l0 _ (HF.out _ HL2.out.fa) HX.out).mono ?_
 rintro e w4 ⟨rfl,hb⟩
 have hC:Below w4.heap.size w4 (w4.alloc (.cells #[.slice none 0 0,.bool false,.slice none 0 0,.bool false,.slice none 0 0] 35)):=(Below.refl _ w4).alloc (Nat.le_refl _) _
 have hbC:=hb.trans (hC.mono hb.size)
 have HL4:=Lib.hid (HL2.out.keep hbC)
 have HAF4:=Lib.hid (B5.new w4 (.slice none 0 0) (.bool false) (.slice none 0 0) (.bool false) (.slice none 0 0) 35)
 clear hb hC hbC a0 a1 a2 a3 b0 b1 b2 b3
 obtain ⟨a0,a1,a2,a3⟩:=HL4.out.a.cell
 obtain ⟨b0,b1,b2,b3⟩:=HL4.out.b.cell
 go_wp2_with fail
 refine (lread_good p2 s1 x1 n1 c1 q2 _ (HV2.out _ HL4.out.fb)).mono ?_
 rintro e w5 ⟨⟨v,rfl,sv,cs2,c4,rfl,hrow,hnum⟩,hb⟩
 obtain ⟨i3,j3,k3,u3,i4,j4,k4,u4,rfl⟩:=hnum.expl
 obtain ⟨as2,ca2,hsv⟩:=hrow.slice
 rw [rowOf_length,HM2.out.2] at hsv
 subst hsv
 rw [HM2.out.2] at hrow
 have hC:Below w5.heap.size w5 (w5.alloc (.cells #[.slice as2 M2 ca2,.bool i3,.slice j3 k3 u3,.bool i4,.slice j4 k4 u4] 35)):=(Below.refl _ w5).alloc (Nat.le_refl _) _
 have hbC:=hb.trans (hC.mono hb.size)
 have HL5:=Lib.hid (HL4.out.keep hbC)
 have HBF5:=Lib.hid (B5.new w5 (.slice as2 M2 ca2) (.bool i3) (.slice j3 k3 u3) (.bool i4) (.slice j4 k4 u4) 35)
 have HBR5:=Lib.hid (hrow.keep hC)
 have HBN5:=Lib.hid (hnum.keep hC (Nat.le_refl _))
 have HAF5:=Lib.hid (HAF4.out.keep hbC)
 clear hb hC hbC a0 a1 a2 a3 b0 b1 b2 b3
 clear hrow hnum
 obtain ⟨a0,a1,a2,a3⟩:=HL5.out.a.cell
 obtain ⟨b0,b1,b2,b3⟩:=HL5.out.b.cell
 go_wp2_with fail
 refine (Put_bad s0 s1 x0 x1 n0 c0 n1 c1 l0 (tms q2) col _ (HF.out _ HL5.out.fa) (HG.out _ HL5.out.fb) (.inl HX.out)).mono ?_
 rintro e w6 ⟨hb,rfl⟩
 have hC:Below w6.heap.size w6 (w6.alloc (.cells #[.slice none 0 0,.string ⟨#[]⟩] 24)):=(Below.refl _ w6).alloc (Nat.le_refl _) _
 have hbC:=hb.trans (hC.mono hb.size)
 have hL6:=HL5.out.keep hbC
 have HL6:=Lib.hid hL6
 have HGX:=Lib.hid (Bx.new w6 (.slice none 0 0) (.string ⟨#[]⟩) 24)
 have HAF6:=Lib.hid (HAF5.out.keep hbC)
 have HBF6:=Lib.hid (HBF5.out.keep hbC)
 have HBR6:=Lib.hid (HBR5.out.keep hbC)
 have HBN6:=Lib.hid (HBN5.out.keep hbC (Nat.le_refl _))
 clear hb hC hbC hL6 a0 a1 a2 a3 b0 b1 b2 b3
 obtain ⟨g0,g1',_,_⟩:=HGX.out.cell
 obtain ⟨c0',c1',c2',c3',c4'⟩:=HAF6.out.cell
 obtain ⟨d0',d1',d2',d3',d4'⟩:=HBF6.out.cell
 have hga:=HGX.out.lt
 have hgb:=HAF6.out.lt
 have hgc:=HBF6.out.lt
 go_wp2_with fail
 refine (is_bad _ _ _ _ _ 3 _ (by decide)).mono ?_
 rintro e w8 ⟨rfl,hb8⟩
 have HL8:=Lib.hid (HL6.out.keep hb8)
 clear hb8 g0 g1' c0' c1' c2' c3' c4' d0' d1' d2' d3' d4' hga hgb hgc
 go_wp2_with fail
 refine (lawake_any _ HL8.out.tab HL8.out.ers).mono ?_
 rintro e wz ⟨rfl,hb⟩
 have HZ:=Lib.hid (HL8.out.below.trans (hb.mono HL8.out.below.size))
 clear hb
 go_wp2
 go_ret
 exact ⟨rfl,HZ.out⟩
set_option maxRecDepth 100000 in
set_option maxHeartbeats 6400000 in
theorem puts_bb (x0:Option Addr) (n0 c0:Nat) (s0:ByteArray) (l0:List Tm) (col:Int) (x1:Option Addr) (n1 c1:Nat) (s1:ByteArray) (l1:List Tm) (hcb : -9223372036854775808≤col∧col≤9223372036854775807) (w:World) (htab:Tab w) (he:Ers w)
 (ha0:TsAt w (.slice x0 n0 c0) l0) (hn0:x0=none→c0=0) (hm0:n0≤9223372036854775807) (ha1:TsAt w (.slice x1 n1 c1) l1) (hn1:x1=none→c1=0) (hm1:n1≤9223372036854775807) (hA:lightB s0 l0=true) (hB:lightB s1 l1=true) (hX:checkErr s0 l0≠0) (hY:checkErr s1 l1≠0) :
 Calls Tryz.prog 5 #[.agg #[.slice x0 n0 c0,.string s0],.int .i64 col,.agg #[.slice x1 n1 c1,.string s1]] w fun e w'=>e = .returned (.bool true)∧Below w.heap.size w w':=by
 have hF:∀ W,TsAt W (.slice x0 n0 c0) l0→InF W x0 n0 c0 s0 l0:=fun W h=>(inF_light h hn0 hA).1
 have hG:∀ W,TsAt W (.slice x1 n1 c1) l1→InF W x1 n1 c1 s1 l1:=fun W h=>(inF_light h hn1 hB).1
 have HF:=Lib.hid hF
 have HG:=Lib.hid hG
 clear hF hG
 have hls0:=light_sizes hA
 have hls1:=light_sizes hB
 have HX:=Lib.hid hX
 clear hX
 have HY:=Lib.hid hY
 clear hY
 clear hls0 hls1
 have hnil:SsAt w (.slice none 0 0) []:=⟨_,_,_,rfl,rfl,.inl rfl⟩
 have HL0:=Lib.hid (LV.start (s0:=s0) (s1:=s1) w ha0 ha1 hnil htab he)
 clear ha0 ha1 hnil htab he
 obtain ⟨a0,a1,a2,a3⟩:=HL0.out.a.cell
 obtain ⟨b0,b1,b2,b3⟩:=HL0.out.b.cell
 go_enter Tryz.func5,Tryz.ntmps5
 go_wp2_with fail
 refine (Light_any s0 x0 n0 c0 l0 true _ HL0.out.fa hm0 (Lib.hid hA)).mono ?_
 rintro e w1 ⟨rfl,hb⟩
 have HL1:=Lib.hid (HL0.out.keep hb)
 clear hb a0 a1 a2 a3 b0 b1 b2 b3
 obtain ⟨a0,a1,a2,a3⟩:=HL1.out.a.cell
 obtain ⟨b0,b1,b2,b3⟩:=HL1.out.b.cell
 go_wp2_with fail
 refine (Light_any s1 x1 n1 c1 l1 true _ HL1.out.fb hm1 (Lib.hid hB)).mono ?_
 rintro e w2 ⟨rfl,hb⟩
 have HL2:=Lib.hid (HL1.out.keep hb)
 clear hb a0 a1 a2 a3 b0 b1 b2 b3
 obtain ⟨a0,a1,a2,a3⟩:=HL2.out.a.cell
 obtain ⟨b0,b1,b2,b3⟩:=HL2.out.b.cell
 go_wp2_with fail
 refine (lread_bad s0 x0 n0 c0 l0 _ (HF.out _ HL2.out.fa) HX.out).mono ?_
 rintro e w4 ⟨rfl,hb⟩
 have hC:Below w4.heap.size w4 (w4.alloc (.cells #[.slice none 0 0,.bool false,.slice none 0 0,.bool false,.slice none 0 0] 35)):=(Below.refl _ w4).alloc (Nat.le_refl _) _
 have hbC:=hb.trans (hC.mono hb.size)
 have HL4:=Lib.hid (HL2.out.keep hbC)
 have HAF4:=Lib.hid (B5.new w4 (.slice none 0 0) (.bool false) (.slice none 0 0) (.bool false) (.slice none 0 0) 35)
 clear hb hC hbC a0 a1 a2 a3 b0 b1 b2 b3
 obtain ⟨a0,a1,a2,a3⟩:=HL4.out.a.cell
 obtain ⟨b0,b1,b2,b3⟩:=HL4.out.b.cell
 go_wp2_with fail
 refine (lread_bad s1 x1 n1 c1 l1 _ (HG.out _ HL4.out.fb) HY.out).mono ?_
 rintro e w5 ⟨rfl,hb⟩
 have hC:Below w5.heap.size w5 (w5.alloc (.cells #[.slice none 0 0,.bool false,.slice none 0 0,.bool false,.slice none 0 0] 35)):=(Below.refl _ w5).alloc (Nat.le_refl _) _
 have hbC:=hb.trans (hC.mono hb.size)
 have HL5:=Lib.hid (HL4.out.keep hbC)
 have HBF5:=Lib.hid (B5.new w5 (.slice none 0 0) (.bool false) (.slice none 0 0) (.bool false) (.slice none 0 0) 35)
 have HAF5:=Lib.hid (HAF4.out.keep hbC)
 clear hb hC hbC a0 a1 a2 a3 b0 b1 b2 b3
 obtain ⟨a0,a1,a2,a3⟩:=HL5.out.a.cell
 obtain ⟨b0,b1,b2,b3⟩:=HL5.out.b.cell
 go_wp2_with fail
 refine (Put_bad s0 s1 x0 x1 n0 c0 n1 c1 l0 l1 col _ (HF.out _ HL5.out.fa) (HG.out _ HL5.out.fb) (.inl HX.out)).mono ?_
 rintro e w6 ⟨hb,rfl⟩
 have hC:Below w6.heap.size w6 (w6.alloc (.cells #[.slice none 0 0,.string ⟨#[]⟩] 24)):=(Below.refl _ w6).alloc (Nat.le_refl _) _
 have hbC:=hb.trans (hC.mono hb.size)
 have hL6:=HL5.out.keep hbC
 have HL6:=Lib.hid hL6
 have HGX:=Lib.hid (Bx.new w6 (.slice none 0 0) (.string ⟨#[]⟩) 24)
 have HAF6:=Lib.hid (HAF5.out.keep hbC)
 have HBF6:=Lib.hid (HBF5.out.keep hbC)
 clear hb hC hbC hL6 a0 a1 a2 a3 b0 b1 b2 b3
 obtain ⟨g0,g1',_,_⟩:=HGX.out.cell
 obtain ⟨c0',c1',c2',c3',c4'⟩:=HAF6.out.cell
 obtain ⟨d0',d1',d2',d3',d4'⟩:=HBF6.out.cell
 have hga:=HGX.out.lt
 have hgb:=HAF6.out.lt
 have hgc:=HBF6.out.lt
 go_wp2_with fail
 refine (is_bad _ _ _ _ _ 3 _ (by decide)).mono ?_
 rintro e w8 ⟨rfl,hb8⟩
 have HL8:=Lib.hid (HL6.out.keep hb8)
 clear hb8 g0 g1' c0' c1' c2' c3' c4' d0' d1' d2' d3' d4' hga hgb hgc
 go_wp2_with fail
 refine (lawake_any _ HL8.out.tab HL8.out.ers).mono ?_
 rintro e wz ⟨rfl,hb⟩
 have HZ:=Lib.hid (HL8.out.below.trans (hb.mono HL8.out.below.size))
 clear hb
 go_wp2
 go_ret
 exact ⟨rfl,HZ.out⟩
theorem law_LinearPuts (x0:Option Addr) (n0 c0:Nat) (s0:ByteArray) (l0:List Tm) (col:Int) (x1:Option Addr) (n1 c1:Nat) (s1:ByteArray) (l1:List Tm) (hcb : -9223372036854775808≤col∧col≤9223372036854775807) (w:World)
 (ha0:TsAt w (.slice x0 n0 c0) l0) (hn0:x0=none→c0=0) (hm0:n0≤9223372036854775807) (ha1:TsAt w (.slice x1 n1 c1) l1) (hn1:x1=none→c1=0) (hm1:n1≤9223372036854775807) (htab:Tab w) (he:Ers w) :
 Calls Tryz.prog 5 #[.agg #[.slice x0 n0 c0,.string s0],.int .i64 col,.agg #[.slice x1 n1 c1,.string s1]] w fun e w'=>e = .returned (.bool true)∧Below w.heap.size w w':=by
 cases hA:lightB s0 l0 with
 | false=>exact puts_out1 x0 n0 c0 s0 l0 col x1 n1 c1 s1 l1 hcb w htab he ha0 hn0 hm0 ha1 hn1 hm1 hA
 | true =>
  cases hB:lightB s1 l1 with
  | false=>exact puts_out2 x0 n0 c0 s0 l0 col x1 n1 c1 s1 l1 hcb w htab he ha0 hn0 hm0 ha1 hn1 hm1 hA hB
  | true =>
   by_cases hX:checkErr s0 l0=0
   · by_cases hY:checkErr s1 l1=0
     · cases hc:okCol col with
       | false=>exact puts_ggrange x0 n0 c0 s0 l0 col x1 n1 c1 s1 l1 hcb w htab he ha0 hn0 hm0 ha1 hn1 hm1 hA hB hc hX hY
       | true=>exact puts_ggin x0 n0 c0 s0 l0 col x1 n1 c1 s1 l1 hcb w htab he ha0 hn0 hm0 ha1 hn1 hm1 hA hB (okCol_in.1 hc) hX hY
     · exact puts_gb x0 n0 c0 s0 l0 col x1 n1 c1 s1 l1 hcb w htab he ha0 hn0 hm0 ha1 hn1 hm1 hA hB hX hY
   · by_cases hY:checkErr s1 l1=0
     · exact puts_bg x0 n0 c0 s0 l0 col x1 n1 c1 s1 l1 hcb w htab he ha0 hn0 hm0 ha1 hn1 hm1 hA hB hX hY
     · exact puts_bb x0 n0 c0 s0 l0 col x1 n1 c1 s1 l1 hcb w htab he ha0 hn0 hm0 ha1 hn1 hm1 hA hB hX hY
end Go.Proofs.YtkhdocdddicgpaaGreatDoor
set_option linter.unusedVariables false
namespace Go.Proofs.YtkhdocdddicgpaaGreatDoor
open Go.ChangeShapes Go.WideShapes Go.ChangeAt Go.RowKit
open Go.ChangeMaps (open_string shut_string)
set_option maxRecDepth 100000 in
theorem linearPuts_contract (H:Type) (enc:TypeId × Value→H) (W:World) (base:Nat) (args:Array Value) (ds gs:List (DataW H)) (before:List MemPlace)
 (hval0:∀ (j:Nat) t v,Tryz.f5.params[j]?=some t→args[j]?=some v→Value.okWide Tryz.prog W .any base t v)
 (hW:DataW.Whole enc Tryz.prog Tryz.f5.params.toList Rows.linearPutsSpec.vars false W args.toList ds gs before) (hL:laidMet Tryz.prog laidAll W) :
 Calls Tryz.prog 5 args W fun e W'=>∃ v,e = .returned v∧Rows.linearPutsSpec.post enc Tryz.prog Tryz.f5 false true false false W args v W':=by
 have hval:∀ (j:Nat) t v,Tryz.f5.params[j]?=some t→args[j]?=some v→Value.okWide Tryz.prog W .any base t v:=hval0
 have hW':=hW
 obtain ⟨p,q,hA0,hV,rfl,hfz,hnd⟩:=hW
 have hA:DataW.TrodAll enc Tryz.prog W 0 (fun _=>true) true Tryz.f5.params.toList args.toList ds p:=hA0
 rw [Tryz.params5] at hA hval
 obtain ⟨v0,vs0,d0,ds0,p0,q0,hargs,rfl,rfl,h0,r0⟩:=trodAll_cons hA
 obtain ⟨v1,vs1,d1,ds1,p1,q1,rfl,rfl,rfl,h1,r1⟩:=trodAll_cons r0
 obtain ⟨v2,vs2,d2,ds2,p2,q2,rfl,rfl,rfl,h2,r2⟩:=trodAll_cons r1
 obtain ⟨rfl,rfl,rfl⟩:=trodAll_nil r2
 obtain rfl:args=#[v0,v1,v2]:=by cases args;simp_all
 obtain ⟨rfl,rfl⟩:=trodVars_none hV
 have k0:=h0
 obtain ⟨x0,n0,c0,s0,l0,rfl,ha0,hn0,hm0⟩:=form_arg (hval 0 24 v0 rfl rfl) h0
 obtain ⟨a1,rfl,rfl,rfl,w1⟩:=open_int Tryz.underlying3 (hval 1 3 v1 rfl rfl) h1
 have k2:=h2
 obtain ⟨x2,n2,c2,s2,l2,rfl,ha2,hn2,hm2⟩:=form_arg (hval 2 24 v2 rfl rfl) h2
 clear hA0 hval0
 refine (law_LinearPuts x0 n0 c0 s0 l0 a1 x2 n2 c2 s2 l2 (bounds_i64 w1) W ha0 hn0 hm0 ha2 hn2 hm2 (tab_of hL) (ers_of hL)).mono fun e W' ⟨he,bel⟩ => ?_
 subst he
 exact ⟨_,rfl,_,_,_,[],_,[],hW',trodAll_mk1 (shut_bool Tryz.underlying4 _),(trodAll_cons_mk (Below.trod laidOutP (by kernel_rfl) (of_decide_eq_true (by kernel_rfl)) k0 bel (fun x hx=>hW'.lt x (by simp [hx]))) (trodAll_cons_mk (shut_int Tryz.underlying3 w1) (trodAll_cons_mk (Below.trod laidOutP (by kernel_rfl) (of_decide_eq_true (by kernel_rfl)) k2 bel (fun x hx=>hW'.lt x (by simp [hx]))) trodAll_mk0))),rfl,bel.frame _,fun h=>by cases h⟩
theorem linearPuts_reads (os:Os) {H:Type} (enc:TypeId × Value→H):∃ places,DataW.whole enc Tryz.prog ((laidWorld os).forCall (fun _ _=>0) ⟨#[],#[.agg #[.slice none 0 0,.string ByteArray.empty],.int .i64 0,.agg #[.slice none 0 0,.string ByteArray.empty]],[]⟩).memory Tryz.f5.params.toList Rows.linearPutsSpec.vars false (#[.agg #[.slice none 0 0,.string ByteArray.empty],.int .i64 0,.agg #[.slice none 0 0,.string ByteArray.empty]]:Array Value).toList 8=some ([.agg [.nil,.lit (.string [])],.lit (.int .i64 0),.agg [.nil,.lit (.string [])]],[],places) :=
 ⟨[],by kernel_rfl⟩
set_option maxRecDepth 100000 in
theorem linearPuts_lifted (os:Os) (started:os.Started) (H:Type) (enc:TypeId × Value→H) (F:Stop.Interp) :
 ReturnsInHanded {} Tryz.checked os 5 .any ((OpenSpec.ofChange Rows.linearPutsSpec).preRow enc Tryz.prog Tryz.f5 Rows.linearPutsRow.domain false Rows.linearPutsRow.laid) (((OpenSpec.ofChange Rows.linearPutsSpec).at F).post enc Tryz.prog Tryz.f5 false true false false):=by
 obtain ⟨places,hx⟩:=linearPuts_reads os enc
 refine returnsInHanded_of_row (C:=Tryz.checked) (s:=OpenSpec.ofChange Rows.linearPutsSpec) ownk started (by kernel_rfl) Tryz.func5
  (witness_row_at (enc:=enc) (C:=Tryz.checked) false (laidWorld os) #[.agg #[.slice none 0 0,.string ByteArray.empty],.int .i64 0,.agg #[.slice none 0 0,.string ByteArray.empty]] rfl (by kernel_rfl) (by kernel_rfl) (by kernel_rfl)
   (OpenSpec.preRow_of_cond 8 hx (by kernel_rfl) (fun k hk=>by cases hk) (by kernel_rfl) (laid_met os _))) ?_
 intro W base args ds gs before hval hW _ _ _ hL _ _
 exact linearPuts_contract H enc W base args ds gs before hval hW hL
theorem linearPuts_said:Rows.LinearPutsSaid :=
 OpenClaim.holds_of_cond 5 Tryz.f5 rfl rfl rfl rfl rfl rfl rfl ⟨rfl,rfl,rfl,rfl,rfl⟩ rfl rfl rfl rfl rfl (by kernel_rfl) Tryz.func5 (by kernel_rfl)
  (of_decide_eq_true (by kernel_rfl)) (by unfold Func.isWrapper;first | (rw [if_pos (by decide +kernel)];kernel_rfl) | (rw [if_neg (by decide +kernel)];exact ⟨rfl,rfl⟩))
  (fun os started H enc _ F=>by rw [OpenClaim.pre_eq_preRow];exact linearPuts_lifted os started H enc F)
theorem linearPuts_plain (f : FuncId) (fn : Func) (hf : Tryz.pinned.checked.prog.funcNamed "cellarer/cellarerlaw04.LinearPuts" = some f) (hfn : Tryz.pinned.checked.prog.funcs[f]? = some fn) :
 true=Tryz.pinned.checked.prog.looks []∧∀ (j:Nat) t,fn.params[j]?=some t→Tryz.pinned.checked.prog.wantsStandIn t=false:=by
 obtain rfl : f = 5 := Option.some.inj ((show Tryz.prog.funcNamed "cellarer/cellarerlaw04.LinearPuts" = some 5 by kernel_rfl).symm.trans hf) |>.symm
 obtain rfl:fn=Tryz.f5:=(Option.some.inj (Tryz.func5.symm.trans hfn)).symm
 refine ⟨by kernel_rfl,fun j t ht => ?_⟩
 rw [Tryz.params5] at ht
 have hm:t∈[24,3,24]:=by simpa using Array.mem_of_getElem? ht
 have hall:([24,3,24].all fun u => !Tryz.prog.wantsStandIn u)=true:=by kernel_rfl
 exact (show Tryz.prog.wantsStandIn t=false by simpa using List.all_eq_true.1 hall t hm)
theorem linearPuts_card:Rows.LinearPutsCardSaid :=
 Claim7.holds_tied_plain_at .later [] _ _ _ _ linearPuts_said (fun _ h=>by cases h) (by kernel_rfl) (fun _ h=>by cases h) linearPuts_row_tie rfl ⟨rfl,rfl⟩ (by kernel_rfl) rfl linearPuts_plain (by kernel_rfl)
end Go.Proofs.YtkhdocdddicgpaaGreatDoor
