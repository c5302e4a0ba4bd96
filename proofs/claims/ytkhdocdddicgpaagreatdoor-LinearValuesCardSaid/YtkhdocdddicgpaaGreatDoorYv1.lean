/- Part 1: what the law's walk leans on. -/
import Derived.Test.YtkhdocdddicgpaaGreatDoorYt0
import Derived.Test.YtkhdocdddicgpaaGreatDoorYt1
import Derived.Test.YtkhdocdddicgpaaGreatDoorYt2
import Derived.Test.YtkhdocdddicgpaaGreatDoorYt3
import Derived.Test.YtkhdocdddicgpaaGreatDoorYt4
import Derived.Test.YtkhdocdddicgpaaGreatDoorYt5
import Derived.Test.YtkhdocdddicgpaaGreatDoorYt6
import Derived.Test.YtkhdocdddicgpaaGreatDoorYt7
import Derived.Test.YtkhdocdddicgpaaGreatDoorYt8
import Derived.Test.YtkhdocdddicgpaaGreatDoorYt9
import Derived.Test.YtkhdocdddicgpaaGreatDoorYt10
import Derived.Test.YtkhdocdddicgpaaGreatDoorYt11
import Derived.Test.YtkhdocdddicgpaaGreatDoorYt12
import Derived.Test.YtkhdocdddicgpaaGreatDoorYt13
import Derived.Test.YtkhdocdddicgpaaGreatDoorYt14
import Derived.Test.YtkhdocdddicgpaaGreatDoorYt15
import Derived.Test.YtkhdocdddicgpaaGreatDoorYt16
import Derived.Test.YtkhdocdddicgpaaGreatDoorYt17
import Derived.Test.YtkhdocdddicgpaaGreatDoorYt18
import Derived.Test.YtkhdocdddicgpaaGreatDoorYt19
import Derived.Test.YtkhdocdddicgpaaGreatDoorYt20
import Derived.Test.YtkhdocdddicgpaaGreatDoorYt21
import Derived.Test.YtkhdocdddicgpaaGreatDoorYt22
import Derived.Test.YtkhdocdddicgpaaGreatDoorYt23
import Derived.Test.YtkhdocdddicgpaaGreatDoorYt24
import Derived.Test.YtkhdocdddicgpaaGreatDoorYt25
import Derived.Test.YtkhdocdddicgpaaGreatDoorYt26
import Derived.Test.YtkhdocdddicgpaaGreatDoorYt27
import Derived.Test.YtkhdocdddicgpaaGreatDoorYt28
import Derived.Test.YtkhdocdddicgpaaGreatDoorYt29
import Derived.Test.YtkhdocdddicgpaaGreatDoorYt30
import Derived.Test.YtkhdocdddicgpaaGreatDoorYv0
import Derived.Laws.AppendOwn
set_option linter.unusedVariables false
set_option linter.unusedSimpArgs false
namespace Go.Proofs.YtkhdocdddicgpaaGreatDoor
open Go.RowKit Go.Maps _root_.Go.Proofs.YtkhdocdddicgpaaGreatDoor.Nm
theorem infoStr:(Tryz.prog.info? 9).map (fun i=>(i.zero,i.size,i.bytes))=some (some (.string ⟨#[]⟩),1,16):=by kernel_rfl
theorem strs_of_row {W:World} {B n:Nat} {v:Value} {l:List ByteArray} (h:W.ownsRow B 9 1 v n (l.map Value.string)) (hn:n=l.length):∃ ad cap,v = .slice ad n cap∧SsAt W (.slice ad n cap) l:=by
 obtain ⟨h1,h2⟩:=h
 rcases h2 with ⟨h,h0⟩ | ⟨g,cap,cur,h3,h4,h5,h6,h7,h8,h9⟩
 · exact ⟨none,0,by rw [h,h0],_,_,_,rfl,hn,.inl h0⟩
 · refine ⟨_,cap,h3,_,_,_,rfl,hn,.inr ⟨g,0,rfl,(Array.getElem?_eq_some_iff.1 h5).1,fun i hi => ?_⟩⟩
   have hcur:cur[i]?=(l.map Value.string)[i]?:=by
    rw [← h9,List.getElem?_take,if_pos (by omega)];simp
   simp only [World.cell?,h5]
   rw [Nat.zero_add]
   simpa [hi] using hcur
set_option maxRecDepth 100000 in
set_option maxHeartbeats 6400000 in
theorem values_out1 (x0:Option Addr) (n0 c0:Nat) (s0:ByteArray) (l0:List Tm) (x1:Option Addr) (n1 c1:Nat) (s1:ByteArray) (l1:List Tm) (x2:Option Addr) (n2 c2:Nat) (ss:List ByteArray) (w:World) (htab:Tab w) (he:Ers w)
 (ha0:TsAt w (.slice x0 n0 c0) l0) (hn0:x0=none→c0=0) (hm0:n0≤9223372036854775807) (ha1:TsAt w (.slice x1 n1 c1) l1) (hn1:x1=none→c1=0) (hm1:n1≤9223372036854775807) (hss:SsAt w (.slice x2 n2 c2) ss) (hA:lightB s0 l0=false) :
 Calls Tryz.prog 8 #[.agg #[.slice x0 n0 c0,.string s0],.agg #[.slice x1 n1 c1,.string s1],.slice x2 n2 c2] w fun e w'=>e = .returned (.bool true)∧Below w.heap.size w w':=by
 have HL0:=Lib.hid (LV.start (s0:=s0) (s1:=s1) w ha0 ha1 hss htab he)
 clear ha0 ha1 hss htab he
 obtain ⟨a0,a1,a2,a3⟩:=HL0.out.a.cell
 obtain ⟨b0,b1,b2,b3⟩:=HL0.out.b.cell
 go_enter Tryz.func8,Tryz.ntmps8
 go_wp2_with fail
 refine (Light_any s0 x0 n0 c0 l0 false _ HL0.out.fa hm0 (Lib.hid hA)).mono ?_
 rintro e w1 ⟨rfl,hb⟩
 have HL1:=Lib.hid (HL0.out.keep hb)
 clear hb a0 a1 a2 a3 b0 b1 b2 b3
 obtain ⟨a0,a1,a2,a3⟩:=HL1.out.a.cell
 obtain ⟨b0,b1,b2,b3⟩:=HL1.out.b.cell
 go_wp2_with fail
 refine (lawake_any _ HL1.out.tab HL1.out.ers).mono ?_
 rintro e wz ⟨rfl,hb⟩
 have HZ:=Lib.hid (HL1.out.below.trans (hb.mono HL1.out.below.size))
 clear hb
 go_wp2
 go_ret
 exact ⟨rfl,HZ.out⟩
set_option maxRecDepth 100000 in
set_option maxHeartbeats 6400000 in
theorem values_out2 (x0:Option Addr) (n0 c0:Nat) (s0:ByteArray) (l0:List Tm) (x1:Option Addr) (n1 c1:Nat) (s1:ByteArray) (l1:List Tm) (x2:Option Addr) (n2 c2:Nat) (ss:List ByteArray) (w:World) (htab:Tab w) (he:Ers w)
 (ha0:TsAt w (.slice x0 n0 c0) l0) (hn0:x0=none→c0=0) (hm0:n0≤9223372036854775807) (ha1:TsAt w (.slice x1 n1 c1) l1) (hn1:x1=none→c1=0) (hm1:n1≤9223372036854775807) (hss:SsAt w (.slice x2 n2 c2) ss) (hA:lightB s0 l0=true) (hB:lightB s1 l1=false) :
 Calls Tryz.prog 8 #[.agg #[.slice x0 n0 c0,.string s0],.agg #[.slice x1 n1 c1,.string s1],.slice x2 n2 c2] w fun e w'=>e = .returned (.bool true)∧Below w.heap.size w w':=by
 have HL0:=Lib.hid (LV.start (s0:=s0) (s1:=s1) w ha0 ha1 hss htab he)
 clear ha0 ha1 hss htab he
 obtain ⟨a0,a1,a2,a3⟩:=HL0.out.a.cell
 obtain ⟨b0,b1,b2,b3⟩:=HL0.out.b.cell
 go_enter Tryz.func8,Tryz.ntmps8
 go_wp2_with fail
 refine (Light_any s0 x0 n0 c0 l0 true _ HL0.out.fa hm0 (Lib.hid hA)).mono ?_
 rintro e w1 ⟨rfl,hb⟩
 have HL1:=Lib.hid (HL0.out.keep hb)
 clear hb a0 a1 a2 a3 b0 b1 b2 b3
 obtain ⟨a0,a1,a2,a3⟩:=HL1.out.a.cell
 obtain ⟨b0,b1,b2,b3⟩:=HL1.out.b.cell
 go_wp2_with fail
 refine (Light_any s1 x1 n1 c1 l1 false _ HL1.out.fb hm1 (Lib.hid hB)).mono ?_
 rintro e w2 ⟨rfl,hb⟩
 have HL2:=Lib.hid (HL1.out.keep hb)
 clear hb a0 a1 a2 a3 b0 b1 b2 b3
 obtain ⟨a0,a1,a2,a3⟩:=HL2.out.a.cell
 obtain ⟨b0,b1,b2,b3⟩:=HL2.out.b.cell
 go_wp2_with fail
 refine (lawake_any _ HL2.out.tab HL2.out.ers).mono ?_
 rintro e wz ⟨rfl,hb⟩
 have HZ:=Lib.hid (HL2.out.below.trans (hb.mono HL2.out.below.size))
 clear hb
 go_wp2
 go_ret
 exact ⟨rfl,HZ.out⟩
set_option maxRecDepth 100000 in
set_option maxHeartbeats 6400000 in
theorem values_out3 (x0:Option Addr) (n0 c0:Nat) (s0:ByteArray) (l0:List Tm) (x1:Option Addr) (n1 c1:Nat) (s1:ByteArray) (l1:List Tm) (x2:Option Addr) (n2 c2:Nat) (ss:List ByteArray) (w:World) (htab:Tab w) (he:Ers w)
 (ha0:TsAt w (.slice x0 n0 c0) l0) (hn0:x0=none→c0=0) (hm0:n0≤9223372036854775807) (ha1:TsAt w (.slice x1 n1 c1) l1) (hn1:x1=none→c1=0) (hm1:n1≤9223372036854775807) (hss:SsAt w (.slice x2 n2 c2) ss) (hA:lightB s0 l0=true) (hB:lightB s1 l1=true) (h12:(12:Int)<n2) :
 Calls Tryz.prog 8 #[.agg #[.slice x0 n0 c0,.string s0],.agg #[.slice x1 n1 c1,.string s1],.slice x2 n2 c2] w fun e w'=>e = .returned (.bool true)∧Below w.heap.size w w':=by
 have HL0:=Lib.hid (LV.start (s0:=s0) (s1:=s1) w ha0 ha1 hss htab he)
 clear ha0 ha1 hss htab he
 obtain ⟨a0,a1,a2,a3⟩:=HL0.out.a.cell
 obtain ⟨b0,b1,b2,b3⟩:=HL0.out.b.cell
 go_enter Tryz.func8,Tryz.ntmps8
 go_wp2_with fail
 refine (Light_any s0 x0 n0 c0 l0 true _ HL0.out.fa hm0 (Lib.hid hA)).mono ?_
 rintro e w1 ⟨rfl,hb⟩
 have HL1:=Lib.hid (HL0.out.keep hb)
 clear hb a0 a1 a2 a3 b0 b1 b2 b3
 obtain ⟨a0,a1,a2,a3⟩:=HL1.out.a.cell
 obtain ⟨b0,b1,b2,b3⟩:=HL1.out.b.cell
 go_wp2_with fail
 refine (Light_any s1 x1 n1 c1 l1 true _ HL1.out.fb hm1 (Lib.hid hB)).mono ?_
 rintro e w2 ⟨rfl,hb⟩
 have HL2:=Lib.hid (HL1.out.keep hb)
 clear hb a0 a1 a2 a3 b0 b1 b2 b3
 obtain ⟨a0,a1,a2,a3⟩:=HL2.out.a.cell
 obtain ⟨b0,b1,b2,b3⟩:=HL2.out.b.cell
 go_wp2_with fail
 refine (lawake_any _ HL2.out.tab HL2.out.ers).mono ?_
 rintro e wz ⟨rfl,hb⟩
 have HZ:=Lib.hid (HL2.out.below.trans (hb.mono HL2.out.below.size))
 clear hb
 go_wp2
 go_ret
 exact ⟨rfl,HZ.out⟩
set_option maxRecDepth 100000 in
set_option maxHeartbeats 6400000 in
theorem values_out4 (x0:Option Addr) (n0 c0:Nat) (s0:ByteArray) (l0:List Tm) (x1:Option Addr) (n1 c1:Nat) (s1:ByteArray) (l1:List Tm) (x2:Option Addr) (n2 c2:Nat) (ss:List ByteArray) (w:World) (htab:Tab w) (he:Ers w)
 (ha0:TsAt w (.slice x0 n0 c0) l0) (hn0:x0=none→c0=0) (hm0:n0≤9223372036854775807) (ha1:TsAt w (.slice x1 n1 c1) l1) (hn1:x1=none→c1=0) (hm1:n1≤9223372036854775807) (hss:SsAt w (.slice x2 n2 c2) ss) (hA:lightB s0 l0=true) (hB:lightB s1 l1=true) (h12:¬ (12:Int)<n2) (hS:shortC ss=false) :
 Calls Tryz.prog 8 #[.agg #[.slice x0 n0 c0,.string s0],.agg #[.slice x1 n1 c1,.string s1],.slice x2 n2 c2] w fun e w'=>e = .returned (.bool true)∧Below w.heap.size w w':=by
 have HL0:=Lib.hid (LV.start (s0:=s0) (s1:=s1) w ha0 ha1 hss htab he)
 clear ha0 ha1 hss htab he
 obtain ⟨a0,a1,a2,a3⟩:=HL0.out.a.cell
 obtain ⟨b0,b1,b2,b3⟩:=HL0.out.b.cell
 go_enter Tryz.func8,Tryz.ntmps8
 go_wp2_with fail
 refine (Light_any s0 x0 n0 c0 l0 true _ HL0.out.fa hm0 (Lib.hid hA)).mono ?_
 rintro e w1 ⟨rfl,hb⟩
 have HL1:=Lib.hid (HL0.out.keep hb)
 clear hb a0 a1 a2 a3 b0 b1 b2 b3
 obtain ⟨a0,a1,a2,a3⟩:=HL1.out.a.cell
 obtain ⟨b0,b1,b2,b3⟩:=HL1.out.b.cell
 go_wp2_with fail
 refine (Light_any s1 x1 n1 c1 l1 true _ HL1.out.fb hm1 (Lib.hid hB)).mono ?_
 rintro e w2 ⟨rfl,hb⟩
 have HL2:=Lib.hid (HL1.out.keep hb)
 clear hb a0 a1 a2 a3 b0 b1 b2 b3
 obtain ⟨a0,a1,a2,a3⟩:=HL2.out.a.cell
 obtain ⟨b0,b1,b2,b3⟩:=HL2.out.b.cell
 go_wp2_with fail
 refine (lshort_any x2 n2 c2 ss false _ HL2.out.vs (by omega) (Lib.hid hS)).mono ?_
 rintro e w3 ⟨rfl,hww⟩
 rw [← hww]
 clear hww w3
 go_wp2_with fail
 refine (lawake_any _ HL2.out.tab HL2.out.ers).mono ?_
 rintro e wz ⟨rfl,hb⟩
 have HZ:=Lib.hid (HL2.out.below.trans (hb.mono HL2.out.below.size))
 clear hb
 go_wp2
 go_ret
 exact ⟨rfl,HZ.out⟩
set_option maxRecDepth 100000 in
set_option maxHeartbeats 6400000 in
theorem values_in (x0:Option Addr) (n0 c0:Nat) (s0:ByteArray) (l0:List Tm) (x1:Option Addr) (n1 c1:Nat) (s1:ByteArray) (l1:List Tm) (x2:Option Addr) (n2 c2:Nat) (ss:List ByteArray) (w:World) (htab:Tab w) (he:Ers w)
 (ha0:TsAt w (.slice x0 n0 c0) l0) (hn0:x0=none→c0=0) (hm0:n0≤9223372036854775807) (ha1:TsAt w (.slice x1 n1 c1) l1) (hn1:x1=none→c1=0) (hm1:n1≤9223372036854775807) (hss:SsAt w (.slice x2 n2 c2) ss) (hcap:n2≤c2) (hA:lightB s0 l0=true) (hB:lightB s1 l1=true) (h12:¬ (12:Int)<n2) (hS:shortC ss=true) :
 Calls Tryz.prog 8 #[.agg #[.slice x0 n0 c0,.string s0],.agg #[.slice x1 n1 c1,.string s1],.slice x2 n2 c2] w fun e w'=>e = .returned (.bool true)∧Below w.heap.size w w':=by
 have hss1:∀ s∈ss,s.size≤100000:=fun s hs=>by
  unfold shortC at hS
  rw [List.all_eq_true] at hS
  have:=of_decide_eq_true (hS s hs)
  omega
 have hsl:ss.length=n2:=by obtain ⟨_,_,_,e1,e2,_⟩:=hss;cases e1;exact e2.symm
 obtain ⟨sx,ex,hex⟩:=EvalRes.ex s0 l0 ss
 obtain ⟨sy,ey,hey⟩:=EvalRes.ex s1 l1 ss
 have HEX:=Lib.hid hex
 have HEY:=Lib.hid hey
 have HSZ:=Lib.hid (And.intro hex.size hey.size)
 have HSS:=Lib.hid (And.intro hss1 hsl)
 have HSL:Hid (ss.length≤1000):=Lib.hid (by omega)
 have hF:∀ W,TsAt W (.slice x0 n0 c0) l0→InF W x0 n0 c0 s0 l0:=fun W h=>(inF_light h hn0 hA).1
 have hG:∀ W,TsAt W (.slice x1 n1 c1) l1→InF W x1 n1 c1 s1 l1:=fun W h=>(inF_light h hn1 hB).1
 have h8:=(inF_light ha0 hn0 hA).2
 have h9:=(inF_light ha1 hn1 hB).2
 have H8:=Lib.hid (And.intro h8 h9)
 have HF:=Lib.hid hF
 have HG:=Lib.hid hG
 clear hex hey hss1 hF hG h8 h9 hsl
 have HL0:=Lib.hid (LV.start (s0:=s0) (s1:=s1) w ha0 ha1 hss htab he)
 clear ha0 ha1 hss htab he
 obtain ⟨a0,a1,a2,a3⟩:=HL0.out.a.cell
 obtain ⟨b0,b1,b2,b3⟩:=HL0.out.b.cell
 go_enter Tryz.func8,Tryz.ntmps8
 go_wp2_with fail
 refine (Light_any s0 x0 n0 c0 l0 true _ HL0.out.fa hm0 (Lib.hid hA)).mono ?_
 rintro e w1 ⟨rfl,hb⟩
 have HL1:=Lib.hid (HL0.out.keep hb)
 clear hb a0 a1 a2 a3 b0 b1 b2 b3
 obtain ⟨a0,a1,a2,a3⟩:=HL1.out.a.cell
 obtain ⟨b0,b1,b2,b3⟩:=HL1.out.b.cell
 go_wp2_with fail
 refine (Light_any s1 x1 n1 c1 l1 true _ HL1.out.fb hm1 (Lib.hid hB)).mono ?_
 rintro e w2 ⟨rfl,hb⟩
 have HL2:=Lib.hid (HL1.out.keep hb)
 clear hb a0 a1 a2 a3 b0 b1 b2 b3
 obtain ⟨a0,a1,a2,a3⟩:=HL2.out.a.cell
 obtain ⟨b0,b1,b2,b3⟩:=HL2.out.b.cell
 go_wp2_with fail
 refine (lshort_any x2 n2 c2 ss true _ HL2.out.vs (by omega) (Lib.hid hS)).mono ?_
 rintro e w3 ⟨rfl,hww⟩
 rw [← hww]
 clear hww w3
 go_wp2_with fail
 refine (Eval_all s0 l0 ss x0 x2 n0 c0 n2 c2 sx ex _ (HF.out _ HL2.out.fa) HL2.out.vs HSS.out.1 HSL.out HL2.out.tab HEX).mono ?_
 rintro e w3 ⟨rfl,hb⟩
 have HL3:=Lib.hid (HL2.out.keep hb)
 clear hb a0 a1 a2 a3 b0 b1 b2 b3
 obtain ⟨a0,a1,a2,a3⟩:=HL3.out.a.cell
 obtain ⟨b0,b1,b2,b3⟩:=HL3.out.b.cell
 go_wp2_with fail
 refine (Eval_all s1 l1 ss x1 x2 n1 c1 n2 c2 sy ey _ (HG.out _ HL3.out.fb) HL3.out.vs HSS.out.1 HSL.out HL3.out.tab HEY).mono ?_
 rintro e w4 ⟨rfl,hb⟩
 have HL4:=Lib.hid (HL3.out.keep hb)
 clear hb a0 a1 a2 a3 b0 b1 b2 b3
 obtain ⟨a0,a1,a2,a3⟩:=HL4.out.a.cell
 obtain ⟨b0,b1,b2,b3⟩:=HL4.out.b.cell
 by_cases hx0:ex=0
 case neg =>
  have hg:(ex != 0)=true:=by simpa using hx0
  clear hx0
  go_wp2_with fail
  refine (lawake_any _ HL4.out.tab HL4.out.ers).mono ?_
  rintro e wz ⟨rfl,hb⟩
  have HZ:=Lib.hid (HL4.out.below.trans (hb.mono HL4.out.below.size))
  clear hb
  go_wp2
  go_ret
  exact ⟨rfl,HZ.out⟩
 subst hx0
 by_cases hy0:ey=0
 case neg =>
  have hg:(ey != 0)=true:=by simpa using hy0
  clear hy0
  go_wp2_with fail
  refine (lawake_any _ HL4.out.tab HL4.out.ers).mono ?_
  rintro e wz ⟨rfl,hb⟩
  have HZ:=Lib.hid (HL4.out.below.trans (hb.mono HL4.out.below.size))
  clear hb
  go_wp2
  go_ret
  exact ⟨rfl,HZ.out⟩
 subst hy0
 have hwr:IntKind.i64.wrap ((sx.size:Int)+sy.size)=(sx.size:Int)+sy.size:=IntWalk.i64_in _ (by have:=HSZ.out;omega)
 have hwr2:wrap64 ((sx.size:Int)+sy.size)=(sx.size:Int)+sy.size:=IntWalk.wrap64_in _ (by have:=HSZ.out;omega)
 by_cases h200:(200:Int)<(sx.size:Int)+sy.size
 case pos =>
  go_wp2_with fail
  refine (lawake_any _ HL4.out.tab HL4.out.ers).mono ?_
  rintro e wz ⟨rfl,hb⟩
  have HZ:=Lib.hid (HL4.out.below.trans (hb.mono HL4.out.below.size))
  clear hb
  go_wp2
  go_ret
  exact ⟨rfl,HZ.out⟩
 obtain ⟨pa,q1,vs,hs0,hsa,hl0,hfa,hvs,hvsh,hea⟩:=HEX.out.good
 obtain ⟨pb,q2,vs',hs1,hsb,hl1,hfb,hvs',hvsh',heb⟩:=HEY.out.good
 have hvv:vs=vs':=valsQ_inj hvsh hvsh' (hvs.symm.trans hvs')
 subst hvv hl0 hl1
 clear hvs' hvsh'
 obtain ⟨ina,ra,hsx,hra,hrav⟩:=hea.zero hsa
 obtain ⟨inb,rb,hsy,hrb,hrbv⟩:=heb.zero hsb
 have HI:=Lib.hid (And.intro ina inb)
 have HRA:=Lib.hid (And.intro hsx (And.intro hra hrav))
 have HRB:=Lib.hid (And.intro hsy (And.intro hrb hrbv))
 have HVS:=Lib.hid (And.intro hvs hvsh)
 have HPA:=Lib.hid (And.intro hs0.symm (And.intro hsa hfa))
 have HPB:=Lib.hid (And.intro hs1.symm (And.intro hsb hfb))
 have H8b:Hid (q1.length+q2.length≤500):=Lib.hid (by have:=H8.out;simp [tms] at this;omega)
 obtain ⟨sw,ew,hop,hgood⟩:∃ sw ew,OpRes fAdd gAdd sx sy sw ew∧(rshort (ra+rb)=true→sw=txt (ra+rb)∧ew=0):=by
  cases hr:rshort (ra+rb) with
  | true=>exact ⟨_,0,by rw [hsx,hsy];exact (addRes hra hrb).1 hr,fun _=>⟨rfl,rfl⟩⟩
  | false=>exact ⟨_,5,by rw [hsx,hsy];exact (addRes hra hrb).2 hr,fun h=>by cases h⟩
 have HOP:=Lib.hid hop
 have HGOOD:=Lib.hid hgood
 have hva:InV w4 x0 n0 c0 pa s0 q1:=⟨HF.out _ HL4.out.fa,HPA.out.1,hsa,hfa⟩
 have hvb:InV w4 x1 n1 c1 pb s1 q2:=⟨HG.out _ HL4.out.fb,HPB.out.1,hsb,hfb⟩
 have HVA:=Lib.hid hva
 have HVB:=Lib.hid hvb
 clear hs0 hsa hfa hvs hvsh hea hs1 hsb hfb heb ina inb hsx hra hrav hsy hrb hrbv hop hgood hva hvb
 go_wp2_with fail
 refine (Add_gen pa pb s0 s1 x0 x1 n0 c0 n1 c1 q1 q2 _ HVA.out HVB.out H8b.out HL4.out.tab).mono ?_
 rintro e w5 ⟨ad,n,cap,sf,ef,lf,rfl,hinf,hb,hcase⟩
 have hC:Below w5.heap.size w5 (w5.alloc (.cells #[.slice ad n cap,.string sf] 24)):=(Below.refl _ w5).alloc (Nat.le_refl _) _
 have HL5:=Lib.hid ((HL4.out.keep hb).keep hC)
 have HF5:=Lib.hid (hinf.keep hC (Nat.le_refl _))
 have HC5:=Lib.hid hcase
 have HB5:=Lib.hid (Bx.new w5 (.slice ad n cap) (.string sf) 24)
 clear hinf hb hcase hC a0 a1 a2 a3 b0 b1 b2 b3
 obtain ⟨a0,a1,a2,a3⟩:=HL5.out.a.cell
 obtain ⟨b0,b1,b2,b3⟩:=HL5.out.b.cell
 obtain ⟨d0,d1,d2,d3⟩:=HB5.out.cell
 obtain ⟨sz,ez,hez⟩:=EvalRes.ex sf lf ss
 have HEZ:=Lib.hid hez
 clear hez
 go_wp2_with fail
 refine (Eval_all sf lf ss ad x2 n cap n2 c2 sz ez _ HF5.out HL5.out.vs HSS.out.1 HSL.out HL5.out.tab HEZ).mono ?_
 rintro e w6 ⟨rfl,hb⟩
 have HL6:=Lib.hid (HL5.out.keep hb)
 clear hb d0 d1 d2 d3 a0 a1 a2 a3 b0 b1 b2 b3
 obtain ⟨a0,a1,a2,a3⟩:=HL6.out.a.cell
 obtain ⟨b0,b1,b2,b3⟩:=HL6.out.b.cell
 go_wp2_with fail
 refine (qAdd_any sx sy sw ew _ HOP (by have:=HSZ.out;omega) (by have:=HSZ.out;omega) HL6.out.tab).mono ?_
 rintro e w7 ⟨rfl,hb⟩
 have HL7:=Lib.hid (HL6.out.keep hb)
 clear hb a0 a1 a2 a3 b0 b1 b2 b3
 obtain ⟨a0,a1,a2,a3⟩:=HL7.out.a.cell
 obtain ⟨b0,b1,b2,b3⟩:=HL7.out.b.cell
 rcases HC5.out with ⟨rfl,_,_⟩ | ⟨rfl,g,hg,hgg,hgs,hgl⟩
 case inl =>
  go_wp2_with fail
  refine (lawake_any _ HL7.out.tab HL7.out.ers).mono ?_
  rintro e wz ⟨rfl,hb⟩
  have HZ:=Lib.hid (HL7.out.below.trans (hb.mono HL7.out.below.size))
  clear hb
  go_wp2
  go_ret
  exact ⟨rfl,HZ.out⟩
 subst hgs hgl
 have hsum:=sumRes_some HPA.out.2.2 HPB.out.2.2 hg
 have hez:=HEZ.out
 rw [HVS.out.1] at hez
 have hez:=hez.is hsum.1 (formOf_fo hgg) HVS.out.2
 have hfit:=hez.fits (sum_in HPA.out.2.2 HPB.out.2.2 hg HI.out.1 HI.out.2)
 rcases hfit with rfl | rfl
 case inr =>
  clear hez hsum hg hgg
  go_wp2_with fail
  refine (lawake_any _ HL7.out.tab HL7.out.ers).mono ?_
  rintro e wz ⟨rfl,hb⟩
  have HZ:=Lib.hid (HL7.out.below.trans (hb.mono HL7.out.below.size))
  clear hb
  go_wp2
  go_ret
  exact ⟨rfl,HZ.out⟩
 obtain ⟨_,rz,hsz,hrz,hrzv⟩:=hez.zero hsum.1
 have hrr:=sum_value HPA.out.2.2 HPB.out.2.2 hg HRA.out.2.2 HRB.out.2.2 hrzv
 obtain ⟨e1,rfl⟩:=HGOOD.out (by rw [← hrr];exact hrz)
 obtain rfl:sz=sw:=by rw [hsz,e1,hrr]
 clear hez hsum hg hgg hsz hrz hrzv hrr e1
 by_cases hn:n2=0
 case pos =>
  subst hn
  go_wp2_with fail
  refine (lawake_any _ HL7.out.tab HL7.out.ers).mono ?_
  rintro e wz ⟨rfl,hb⟩
  have HZ:=Lib.hid (HL7.out.below.trans (hb.mono HL7.out.below.size))
  clear hb
  go_wp2
  go_ret
  exact ⟨rfl,HZ.out⟩
 have hn0:((n2:Int)==0)=false:=by simpa using hn
 have HVA7:=Lib.hid (show InV w7 x0 n0 c0 pa s0 q1 from ⟨HF.out _ HL7.out.fa,HPA.out.1,HPA.out.2.1,HPA.out.2.2⟩)
 have HVB7:=Lib.hid (show InV w7 x1 n1 c1 pb s1 q2 from ⟨HG.out _ HL7.out.fb,HPB.out.1,HPB.out.2.1,HPB.out.2.2⟩)
 go_wp2_with fail
 refine (Put_gen pa pb s0 s1 x0 x1 n0 c0 n1 c1 q1 q2 0 _ HVA7.out HVB7.out (by unfold ColIn;decide) H8b.out HL7.out.tab).mono ?_
 rintro e w8 ⟨adp,np,capp,sp,ep,lp,rfl,hinf,hb,hcase⟩
 have hC:Below w8.heap.size w8 (w8.alloc (.cells #[.slice adp np capp,.string sp] 24)):=(Below.refl _ w8).alloc (Nat.le_refl _) _
 have HL8:=Lib.hid ((HL7.out.keep hb).keep hC)
 have HF8:=Lib.hid (hinf.keep hC (Nat.le_refl _))
 have HC8:=Lib.hid hcase
 have HB8:=Lib.hid (Bx.new w8 (.slice adp np capp) (.string sp) 24)
 clear hinf hb hcase hC a0 a1 a2 a3 b0 b1 b2 b3
 obtain ⟨a0,a1,a2,a3⟩:=HL8.out.a.cell
 obtain ⟨b0,b1,b2,b3⟩:=HL8.out.b.cell
 obtain ⟨d0,d1,d2,d3⟩:=HB8.out.cell
 obtain ⟨su,eu,heu⟩:=EvalRes.ex sp lp ss
 have HEU:=Lib.hid heu
 clear heu
 go_wp2_with fail
 refine (Eval_all sp lp ss adp x2 np capp n2 c2 su eu _ HF8.out HL8.out.vs HSS.out.1 HSL.out HL8.out.tab HEU).mono ?_
 rintro e w9 ⟨rfl,hb⟩
 have HL9:=Lib.hid (HL8.out.keep hb)
 clear hb d0 d1 d2 d3 a0 a1 a2 a3 b0 b1 b2 b3
 obtain ⟨a0,a1,a2,a3⟩:=HL9.out.a.cell
 obtain ⟨b0,b1,b2,b3⟩:=HL9.out.b.cell
 obtain ⟨adv,nv,cv,ev,elv,hvv⟩:=HL9.out.vs
 cases ev
 obtain ⟨g2,o2,rfl,hg2,hcell⟩:∃ g off,x2=some ⟨g,off,none⟩∧g<w9.heap.size∧∀ (i:Nat) (h:i<ss.length),w9.cell? ⟨g,off+i,none⟩=some (.string ss[i]):=by
  rcases hvv with h | h
  · exact absurd h hn
  · exact h
 have h1:(1:Int)≤n2:=by omega
 have h2:(n2:Int)≤c2:=by omega
 have HCE:=Lib.hid (And.intro hg2 hcell)
 obtain ⟨i0,hi,hz0,hz1,hz2⟩:=info_parts infoStr
 have hrow:(w9.alloc (.cells #[.string sy] 9)).ownsRow w9.heap.size 9 1 (.slice (some ⟨w9.heap.size,0,none⟩) 1 1) 1 [.string sy] :=
  ⟨rfl,.inr ⟨w9.heap.size,1,#[.string sy],rfl,Nat.le_refl _,heap_alloc_new _ _,Nat.le_refl _,by unfold maxLen;omega,rfl,rfl⟩⟩
 have HROW:=Lib.hid hrow
 have HLS:=Lib.hid (And.intro trivial HSS.out.2)
 have hA9:=(Below.refl w9.heap.size w9).alloc (Nat.le_refl _) (.cells #[.string sy] 9)
 have HL10:=Lib.hid (HL9.out.keep hA9)
 clear hvv elv hg2 hcell hrow
 by_cases hc1:c2=1
 case pos =>
  obtain rfl:n2=1:=by omega
  subst hc1
  have hdrop:ss.drop 1=[]:=List.drop_eq_nil_of_le (by have:=HLS.out.2;omega)
  go_wp2_with (first | (at_builtin;refine wpList_append_own _ rfl _ _ 48 rfl w9.heap.size 9 i0 (.string ⟨#[]⟩) 1 16 Tryz.underlying48 hi hz0 hz1 hz2 rfl (by decide) _ _ _ rfl HROW.out _ _ _ [] rfl (by simp) (by intro j u h;simp at h) (by simp) (by unfold maxLen;omega) (by omega) (by simp) ?_;intro v' w10 hown2 hgrow hnil;refine hold ?_))
  have hb10:Below w9.heap.size w9 w10:=hA9.grown hgrow hA9.size (fun k hk=>by
   have e:some w9.heap.size=some k:=hk
   cases e
   omega)
  obtain ⟨ada,capa,rfl,hsa⟩:=strs_of_row (l:=sy::ss.drop 1) (by rw [hdrop];exact hown2) (by rw [hdrop];rfl)
  have HL11:=Lib.hid (HL9.out.keep hb10)
  have HSA:=Lib.hid hsa
  clear hown2 hgrow hnil hb10 hsa a0 a1 a2 a3 b0 b1 b2 b3
  obtain ⟨a0,a1,a2,a3⟩:=HL11.out.a.cell
  obtain ⟨b0,b1,b2,b3⟩:=HL11.out.b.cell
  obtain ⟨sq,eq,heq⟩:=EvalRes.ex s0 (tms q1) (sy::ss.drop 1)
  have HEQ:=Lib.hid heq
  clear heq
  refine go_on ?_
  go_wp2_with fail
  refine (Eval_all s0 (tms q1) (sy::ss.drop 1) x0 ada n0 c0 _ capa sq eq _ (HF.out _ HL11.out.fa) HSA.out (fun z hz=>by
   rcases List.mem_cons.1 hz with rfl | hz
   · have:=HSZ.out.2;omega
   · exact HSS.out.1 z (List.mem_of_mem_drop hz)) (by have:=HSL.out;rw [List.length_cons,List.length_drop];omega) HL11.out.tab HEQ).mono ?_
  rintro e w11 ⟨rfl,hb⟩
  have HL12:=Lib.hid (HL11.out.keep hb)
  clear hb a0 a1 a2 a3 b0 b1 b2 b3
  rcases HC8.out with ⟨rfl,_,_⟩ | ⟨rfl,g,hg,hgg,hgs,hgl⟩
  case inl =>
   go_wp2_with fail
   refine (lawake_any _ HL12.out.tab HL12.out.ers).mono ?_
   rintro e wz ⟨rfl,hb⟩
   have HZ:=Lib.hid (HL12.out.below.trans (hb.mono HL12.out.below.size))
   clear hb
   go_wp2
   go_ret
   exact ⟨rfl,HZ.out⟩
  subst hgs hgl
  have hput:=putRes_some HPA.out.2.2 HPB.out.2.2 hg
  have heu:=HEU.out
  rw [HVS.out.1] at heu
  have heu:=heu.is hput.1 (formOf_fo hgg) HVS.out.2
  have hfit:=heu.fits (put_in HPA.out.2.2 HPB.out.2.2 hg HI.out.1 HI.out.2)
  rcases hfit with rfl | rfl
  case inr =>
   clear heu hput hg hgg
   go_wp2_with fail
   refine (lawake_any _ HL12.out.tab HL12.out.ers).mono ?_
   rintro e wz ⟨rfl,hb⟩
   have HZ:=Lib.hid (HL12.out.below.trans (hb.mono HL12.out.below.size))
   clear hb
   go_wp2
   go_ret
   exact ⟨rfl,HZ.out⟩
  have hvl:vs.length=ss.length:=by rw [HVS.out.1];simp [valsQ]
  have heq:=HEQ.out
  have hss2:sy::ss.drop 1=valsQ (rb::vs.tail):=by
   rw [HVS.out.1,HRB.out.1]
   unfold valsQ
   rw [List.map_cons,List.map_tail,List.drop_one]
  rw [hss2, ← HPA.out.1] at heq
  have heq:=heq.is HPA.out.2.1 HPA.out.2.2 (fun z hz=>by
   rcases List.mem_cons.1 hz with rfl | hz
   · exact HRB.out.2.1
   · exact HVS.out.2 z (List.mem_of_mem_tail hz))
  have hfit:=heq.fits (fun z hz=>by
   have h:=HI.out.1 z hz
   have h3:=HLS.out.2
   rw [List.length_cons,List.length_tail]
   omega)
  rcases hfit with rfl | rfl
  case inr =>
   clear heu hput hg hgg heq hss2 hvl
   go_wp2_with fail
   refine (lawake_any _ HL12.out.tab HL12.out.ers).mono ?_
   rintro e wz ⟨rfl,hb⟩
   have HZ:=Lib.hid (HL12.out.below.trans (hb.mono HL12.out.below.size))
   clear hb
   go_wp2
   go_ret
   exact ⟨rfl,HZ.out⟩
  obtain ⟨_,ru,hsu,hru,hruv⟩:=heu.zero hput.1
  obtain ⟨_,rq,hsq,hrq,hrqv⟩:=heq.zero HPA.out.2.1
  have hrr:=put_value HPA.out.2.2 HPB.out.2.2 hg HRB.out.2.2 hruv hrqv
  obtain rfl:su=sq:=by rw [hsu,hsq,hrr]
  clear heu hput hg hgg heq hss2 hvl hsu hru hruv hsq hrq hrqv hrr
  go_wp2_with fail
  refine (lawake_any _ HL12.out.tab HL12.out.ers).mono ?_
  rintro e wz ⟨rfl,hb⟩
  have HZ:=Lib.hid (HL12.out.below.trans (hb.mono HL12.out.below.size))
  clear hb
  go_wp2
  go_ret
  exact ⟨rfl,HZ.out⟩
 have hc3:(c2:Int)-1≠0:=by omega
 have hc4:c2-1≠0:=by omega
 have hcells:∀ (j:Nat) (u:Value),((ss.drop 1).map Value.string)[j]?=some u→(w9.alloc (.cells #[.string sy] 9)).cell? ((⟨g2,o2+1,none⟩:Addr).add j)=some u:=by
  intro j u hu
  rw [List.getElem?_map,List.getElem?_drop,Option.map_eq_some_iff] at hu
  obtain ⟨y,hy,rfl⟩:=hu
  obtain ⟨hjl,rfl⟩:=List.getElem?_eq_some_iff.1 hy
  have h:=HCE.out.2 (1+j) hjl
  rw [show ((⟨g2,o2+1,none⟩:Addr).add j)=⟨g2,o2+(1+j),none⟩ from by simp [Addr.add,Nat.add_assoc]]
  exact (hA9.cell (p:=⟨g2,o2+(1+j),none⟩) HCE.out.1).trans h
 go_wp2_with (first | (at_builtin;refine wpList_append_own _ rfl _ _ 48 rfl w9.heap.size 9 i0 (.string ⟨#[]⟩) 1 16 Tryz.underlying48 hi hz0 hz1 hz2 rfl (by decide) _ _ _ rfl HROW.out _ _ _ ((ss.drop 1).map Value.string) rfl (by simp;have:=HLS.out.2;omega) (by exact hcells) (by intro u hu;obtain ⟨x,_,rfl⟩:=List.mem_map.1 hu;rfl) (by unfold maxLen;omega) (by omega) (by simp) ?_;intro v' w10 hown2 hgrow hnil;refine hold ?_))
 have hb10:Below w9.heap.size w9 w10:=hA9.grown hgrow hA9.size (fun k hk=>by
  have e:some w9.heap.size=some k:=hk
  cases e
  omega)
 obtain ⟨ada,capa,rfl,hsa⟩:=strs_of_row (l:=sy::ss.drop 1) (by exact hown2) (by simp;have:=HLS.out.2;omega)
 have HL11:=Lib.hid (HL9.out.keep hb10)
 have HSA:=Lib.hid hsa
 clear hown2 hgrow hnil hb10 hsa a0 a1 a2 a3 b0 b1 b2 b3
 obtain ⟨a0,a1,a2,a3⟩:=HL11.out.a.cell
 obtain ⟨b0,b1,b2,b3⟩:=HL11.out.b.cell
 obtain ⟨sq,eq,heq⟩:=EvalRes.ex s0 (tms q1) (sy::ss.drop 1)
 have HEQ:=Lib.hid heq
 clear heq
 refine go_on ?_
 go_wp2_with fail
 refine (Eval_all s0 (tms q1) (sy::ss.drop 1) x0 ada n0 c0 _ capa sq eq _ (HF.out _ HL11.out.fa) HSA.out (fun z hz=>by
  rcases List.mem_cons.1 hz with rfl | hz
  · have:=HSZ.out.2;omega
  · exact HSS.out.1 z (List.mem_of_mem_drop hz)) (by have:=HSL.out;rw [List.length_cons,List.length_drop];omega) HL11.out.tab HEQ).mono ?_
 rintro e w11 ⟨rfl,hb⟩
 have HL12:=Lib.hid (HL11.out.keep hb)
 clear hb a0 a1 a2 a3 b0 b1 b2 b3
 rcases HC8.out with ⟨rfl,_,_⟩ | ⟨rfl,g,hg,hgg,hgs,hgl⟩
 case inl =>
  go_wp2_with fail
  refine (lawake_any _ HL12.out.tab HL12.out.ers).mono ?_
  rintro e wz ⟨rfl,hb⟩
  have HZ:=Lib.hid (HL12.out.below.trans (hb.mono HL12.out.below.size))
  clear hb
  go_wp2
  go_ret
  exact ⟨rfl,HZ.out⟩
 subst hgs hgl
 have hput:=putRes_some HPA.out.2.2 HPB.out.2.2 hg
 have heu:=HEU.out
 rw [HVS.out.1] at heu
 have heu:=heu.is hput.1 (formOf_fo hgg) HVS.out.2
 have hfit:=heu.fits (put_in HPA.out.2.2 HPB.out.2.2 hg HI.out.1 HI.out.2)
 rcases hfit with rfl | rfl
 case inr =>
  clear heu hput hg hgg
  go_wp2_with fail
  refine (lawake_any _ HL12.out.tab HL12.out.ers).mono ?_
  rintro e wz ⟨rfl,hb⟩
  have HZ:=Lib.hid (HL12.out.below.trans (hb.mono HL12.out.below.size))
  clear hb
  go_wp2
  go_ret
  exact ⟨rfl,HZ.out⟩
 have hvl:vs.length=ss.length:=by rw [HVS.out.1];simp [valsQ]
 have heq:=HEQ.out
 have hss2:sy::ss.drop 1=valsQ (rb::vs.tail):=by
  rw [HVS.out.1,HRB.out.1]
  unfold valsQ
  rw [List.map_cons,List.map_tail,List.drop_one]
 rw [hss2, ← HPA.out.1] at heq
 have heq:=heq.is HPA.out.2.1 HPA.out.2.2 (fun z hz=>by
  rcases List.mem_cons.1 hz with rfl | hz
  · exact HRB.out.2.1
  · exact HVS.out.2 z (List.mem_of_mem_tail hz))
 have hfit:=heq.fits (fun z hz=>by
  have h:=HI.out.1 z hz
  have h3:=HLS.out.2
  rw [List.length_cons,List.length_tail]
  omega)
 rcases hfit with rfl | rfl
 case inr =>
  clear heu hput hg hgg heq hss2 hvl
  go_wp2_with fail
  refine (lawake_any _ HL12.out.tab HL12.out.ers).mono ?_
  rintro e wz ⟨rfl,hb⟩
  have HZ:=Lib.hid (HL12.out.below.trans (hb.mono HL12.out.below.size))
  clear hb
  go_wp2
  go_ret
  exact ⟨rfl,HZ.out⟩
 obtain ⟨_,ru,hsu,hru,hruv⟩:=heu.zero hput.1
 obtain ⟨_,rq,hsq,hrq,hrqv⟩:=heq.zero HPA.out.2.1
 have hrr:=put_value HPA.out.2.2 HPB.out.2.2 hg HRB.out.2.2 hruv hrqv
 obtain rfl:su=sq:=by rw [hsu,hsq,hrr]
 clear heu hput hg hgg heq hss2 hvl hsu hru hruv hsq hrq hrqv hrr
 go_wp2_with fail
 refine (lawake_any _ HL12.out.tab HL12.out.ers).mono ?_
 rintro e wz ⟨rfl,hb⟩
 have HZ:=Lib.hid (HL12.out.below.trans (hb.mono HL12.out.below.size))
 clear hb
 go_wp2
 go_ret
 exact ⟨rfl,HZ.out⟩
theorem law_LinearValues (x0:Option Addr) (n0 c0:Nat) (s0:ByteArray) (l0:List Tm) (x1:Option Addr) (n1 c1:Nat) (s1:ByteArray) (l1:List Tm) (x2:Option Addr) (g2 o2 c2:Nat) (ss:List ByteArray) (n2:Nat) (e2:ss.length=n2) (w:World)
 (ha0:TsAt w (.slice x0 n0 c0) l0) (hn0:x0=none→c0=0) (hm0:n0≤9223372036854775807) (ha1:TsAt w (.slice x1 n1 c1) l1) (hn1:x1=none→c1=0) (hm1:n1≤9223372036854775807)
 (ha2:n2=0∨x2=some ⟨g2,o2,none⟩∧g2<w.heap.size) (hk2:n2≤c2) (hc2:∀ (i:Nat) (h:i<ss.length),w.cell? ⟨g2,o2+i,none⟩=some (.string ss[i])) (htab:Tab w) (he:Ers w) :
 Calls Tryz.prog 8 #[.agg #[.slice x0 n0 c0,.string s0],.agg #[.slice x1 n1 c1,.string s1],.slice x2 n2 c2] w fun e w'=>e = .returned (.bool true)∧Below w.heap.size w w':=by
 have hss:SsAt w (.slice x2 n2 c2) ss:=⟨_,_,_,rfl,e2.symm,ha2.elim .inl (fun h => .inr ⟨g2,o2,h.1,h.2,hc2⟩)⟩
 cases hA:lightB s0 l0 with
 | false=>exact values_out1 x0 n0 c0 s0 l0 x1 n1 c1 s1 l1 x2 n2 c2 ss w htab he ha0 hn0 hm0 ha1 hn1 hm1 hss hA
 | true =>
  cases hB:lightB s1 l1 with
  | false=>exact values_out2 x0 n0 c0 s0 l0 x1 n1 c1 s1 l1 x2 n2 c2 ss w htab he ha0 hn0 hm0 ha1 hn1 hm1 hss hA hB
  | true =>
   by_cases h12:(12:Int)<n2
   · exact values_out3 x0 n0 c0 s0 l0 x1 n1 c1 s1 l1 x2 n2 c2 ss w htab he ha0 hn0 hm0 ha1 hn1 hm1 hss hA hB h12
   · cases hS:shortC ss with
     | false=>exact values_out4 x0 n0 c0 s0 l0 x1 n1 c1 s1 l1 x2 n2 c2 ss w htab he ha0 hn0 hm0 ha1 hn1 hm1 hss hA hB h12 hS
     | true=>exact values_in x0 n0 c0 s0 l0 x1 n1 c1 s1 l1 x2 n2 c2 ss w htab he ha0 hn0 hm0 ha1 hn1 hm1 hss hk2 hA hB h12 hS
end Go.Proofs.YtkhdocdddicgpaaGreatDoor
