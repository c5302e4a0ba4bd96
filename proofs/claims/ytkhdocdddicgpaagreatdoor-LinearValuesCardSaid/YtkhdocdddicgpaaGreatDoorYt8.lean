/- Part 8: what the law's walk leans on. -/
import Derived.Test.YtkhdocdddicgpaaGreatDoorYt7
import Derived.Deep.Cut
import Derived.Deep.CutRange
import Derived.Deep.DeepCutAuto
import Derived.Deep.LoopGhost
set_option linter.unusedVariables false
set_option linter.unusedSimpArgs false
namespace Go.Proofs.YtkhdocdddicgpaaGreatDoor
open Go.RowKit _root_.Go.Proofs.YtkhdocdddicgpaaGreatDoor.Nm
theorem abs_any (n m:Int) (h1 : -9000000000000000000≤n∧n≤9000000000000000000) (h:Hid (max n (-n)=m)) (w:World) :
 Calls Tryz.prog 214 #[.int .i64 n] w fun e w'=>e = .returned (.int .i64 m)∧w=w':=by
 have hw:IntKind.i64.wrap (-n) = -n:=IntWalk.i64_in _ (by omega)
 go_enter Tryz.func214,Tryz.ntmps214
 go_wp2
 rw [h.out]
 go_ret
 exact ⟨rfl,rfl⟩
theorem msum_vl (Z1 Z2 P:Nat) (c1 c2 A B R u v:Int) (h1:(Z1:Int)+(P:Int)*c1=0+u*A) (h2:(Z2:Int)+(P:Int)*c2=Z1+v*B) (hZ:Z2<P) (hR:R=u*A+v*B) (h0:0≤R) (h3:R<P):(Z2:Int)=R:=by
 have h:(Z2:Int)+(P:Int)*(c1+c2)=R:=by rw [Int.mul_add,hR];omega
 have:=no_carry Z2 P (c1+c2) R hZ h h0 h3
 rw [this] at h
 omega
set_option maxRecDepth 100000 in
set_option maxHeartbeats 1600000 in
theorem msum_to (aa ab:Option Addr) (ca cb:Nat) (u v R:Int) (xs ys:List Nat) (w:World) (hu : -1000000000≤u∧u≤1000000000) (hv : -1000000000≤v∧v≤1000000000) (ha:Rd .u32 w (.slice aa xs.length ca) xs) (hb:Rd .u32 w (.slice ab ys.length cb) ys)
 (hx:∀ x∈xs,x<1000000000) (hy:∀ y∈ys,y<1000000000) (la:xs.length≤1000) (lb:ys.length≤xs.length) (hR:R=u*Nm.vl 1000000000 xs+v*Nm.vl 1000000000 ys) (h0:0≤R) (hRx:R≤Nm.vl 1000000000 xs) :
 Calls Tryz.prog 191 #[.agg #[.int .i64 u,.int .i64 v],.slice aa xs.length ca,.slice ab ys.length cb] w (NatPost R.toNat w):=by
 have HA:=Lib.hid ha
 have HB:=Lib.hid hb
 have HX:=Lib.hid hx
 have HY:=Lib.hid hy
 have HRE:=Lib.hid hR
 have HRX:=Lib.hid hRx
 clear ha hb hx hy hR hRx
 obtain ⟨i0,hi,hz0,hz1,hz2⟩:=info_parts info32
 have HZ2:=Lib.hid hz2
 have HI:=Lib.hid hi
 have HZ0:=Lib.hid hz0
 have HZ1:=Lib.hid hz1
 clear hz2 hi hz0 hz1
 obtain ⟨n,hn⟩:∃ n,xs.length=n:=⟨_,rfl⟩
 have HN:=Lib.hid hn
 rw [hn] at la lb
 have HB0:=Lib.hid ((Below.refl w.heap.size w).alloc (Nat.le_refl _) (.cells #[.int .i64 u,.int .i64 v] 224))
 have hbx:=Bx.new w (.int .i64 u) (.int .i64 v) 224
 have HBX:=Lib.hid hbx
 clear hbx hn
 rw [HN.out]
 go_enter Tryz.func191,Tryz.ntmps191
 go_wp2_with (refine wpList_make_full _ rfl (.tmp 9) (.tmp 9) 176 rfl w.heap.size 199 i0 (.int .u32 0) 1 Tryz.underlying176 HI.out HZ0.out HZ1.out .i64 .i64 _ _ n rfl rfl (by simp) (by simp) (by rw [HZ2.out];omega) (by unfold maxLen;omega) (by simp) ?_;intro w1 hown hgrow;refine hold ?_)
 rw [made_zeros] at hown
 rw [show (w.alloc (.cells #[.int .i64 u,.int .i64 v] 224)).heap.size=w.heap.size+1 from World.size_alloc ..] at hown
 obtain ⟨hO,_⟩:=own_of_full (by simp) hown
 have hg1:=(Below.refl _ _).grown hgrow (Nat.le_refl _) (fun k hk=>by simp at hk)
 have HO:=Lib.hid hO
 have HW1:=Lib.hid (HB0.out.trans (hg1.mono HB0.out.size))
 have hbx:=HBX.out.below hg1 (Nat.lt_of_lt_of_le HBX.out.lt (Nat.le_refl _))
 obtain ⟨c0,c1,_,_⟩:=hbx.cell
 have HBX1:=Lib.hid hbx
 clear hown hgrow hO hg1 hbx HB0 HBX
 refine go_on ?_
 go_wp2_with fail
 have HA1:Hid (Rd .u32 w1 (.slice aa n ca) xs):=Lib.hid (by
  have h:=HA.out.keep HW1.out (Nat.le_refl _)
  rwa [HN.out] at h)
 have hcall:=addMultiple_any (w.heap.size+1) n [] (List.replicate n 0) [] xs (.slice aa n ca) u w1 (by omega) (by rw [HN.out,List.length_replicate];exact Nat.le_refl _) (by intro z hz;rw [List.mem_replicate] at hz;omega) HX.out (by rw [List.length_replicate];simp;omega)
  (by simpa using HO.out) HA1.out (fun hpos=>by have h:=Rd.apart HA.out (g:=w.heap.size+1) (by omega) hpos;rw [HN.out] at h;exact h)
 rw [List.length_replicate] at hcall
 refine hcall.mono ?_
 clear hcall
 rintro e w2 ⟨zs,k1,rfl,hz1,hz2,hz3,hz4,hz5⟩
 rw [List.length_replicate] at hz1 hz3
 rw [vl_zeros] at hz3
 have HZ3:=Lib.hid hz3
 have HZ2':=Lib.hid hz2
 have HZL:=Lib.hid hz1
 have HO2:=Lib.hid hz4
 have HB2:Hid (Rd .u32 w2 (.slice ab ys.length cb) ys):=Lib.hid ((HB.out.keep HW1.out (Nat.le_refl _)).only hz5 (fun ad m c e hpos=>Rd.apart HB.out (g:=w.heap.size+1) (by omega) (by cases e;exact hpos) ad m c e))
 have HW2:=Lib.hid (HW1.out.trans (hz5.below (by omega)))
 have HBX2:=Lib.hid (HBX1.out.only hz5 (by omega))
 obtain ⟨d0,d1,_,_⟩:=HBX2.out.cell
 clear hz1 hz2 hz3 hz4 hz5 c0 c1 HBX1 HA1
 go_wp2_with fail
 have hcall:=addMultiple_any (w.heap.size+1) n [] zs [] ys (.slice ab ys.length cb) v w2 (by omega) (by rw [HZL.out];exact lb) HZ2'.out HY.out (by rw [HZL.out];simp;omega)
  (by simpa using HO2.out) HB2.out (Rd.apart HB.out (by omega))
 rw [HZL.out] at hcall
 refine hcall.mono ?_
 clear hcall
 rintro e w3 ⟨us,k2,rfl,hz1,hz2,hz3,hz4,hz5⟩
 rw [HZL.out] at hz1 hz3
 have HV:Hid (vl 1000000000 us=R.toNat):=Lib.hid (by
  have h1:=vl_lt 1000000000 us hz2
  have h2:=vl_lt 1000000000 xs HX.out
  rw [hz1] at h1
  rw [HN.out] at h2
  have:=msum_vl _ _ _ _ _ _ _ R _ _ HZ3.out hz3 h1 HRE.out h0 (by have:=HRX.out;omega)
  omega)
 have HW3:=Lib.hid (HW2.out.trans (hz5.below (by omega)))
 have HR:Hid (Rd .u32 w3 (.slice (some ⟨w.heap.size+1,0,none⟩) n n) us):=Lib.hid (by
  have h:=hz4.rd n n (by simp;omega) (Nat.le_refl _) (by omega)
  rwa [List.nil_append,List.append_nil,List.take_of_length_le (by omega)] at h)
 have HU:=Lib.hid hz2
 clear hz1 hz2 hz3 hz4 hz5
 go_wp2_with fail
 refine (trim_any _ us HU.out _ HR.out).mono ?_
 rintro e w4 ⟨⟨v',rfl,hv,hsm⟩,rfl⟩
 rw [HV.out] at hv
 have HVV:=Lib.hid hv
 have HFR:=Lib.hid (Fr.of_same hsm (show w.heap.size≤w.heap.size+1 by omega))
 clear hv hsm
 go_wp2
 go_ret
 exact ⟨_,rfl,HVV.out,HFR.out,HW3.out⟩
theorem msum_any (u v R:Int) (a b:Nat) (va vb:Value) (w:World) (hu : -1000000000≤u∧u≤1000000000) (hv : -1000000000≤v∧v≤1000000000) (ha:IsNat w va a) (hb:IsNat w vb b) (la:(ds 1000000000 a).length≤1000) (hba:b≤a)
 (hR:R=u*a+v*b) (h0:0≤R) (hRa:R≤a) :
 Calls Tryz.prog 191 #[.agg #[.int .i64 u,.int .i64 v],va,vb] w (NatPost R.toNat w):=by
 obtain ⟨aa,ca,rfl,_⟩:=id ha
 obtain ⟨ab,cb,rfl,_⟩:=id hb
 exact msum_to aa ab ca cb u v R _ _ w hu hv ha hb (ds_lt _ (by omega) _) (ds_lt _ (by omega) _) la (ds_length_mono _ (by omega) _ _ hba) (by rwa [vl_ds _ (by omega),vl_ds _ (by omega)]) h0 (by rwa [vl_ds _ (by omega)])
end Go.Proofs.YtkhdocdddicgpaaGreatDoor
set_option linter.unusedVariables false
set_option linter.unusedSimpArgs false
namespace Go.Proofs.YtkhdocdddicgpaaGreatDoor
open Go.RowKit _root_.Go.Proofs.YtkhdocdddicgpaaGreatDoor.Nm
def Lead (X Y fA fB gA gB:Int):Prop:=fB=0∨∃ x y s p q p' q',Cof X Y x y s p q p' q'∧q'≤y∧q+q'≤x-y∧q≠0∧fA=s*p∧fB = -(s*q)∧gA = -(s*p')∧gB=s*q'
structure Steps (X Y x y fA fB gA gB hA hB:Int):Prop where
 lead:Lead X Y fA fB gA gB
 cof:∃ s p q p' q',Cof X Y x y s p q p' q'∧gA=s*p∧gB = -(s*q)∧hA = -(s*p')∧hB=s*q'
 bg : -1000000000000000000≤gA∧gA≤1000000000000000000 ∧ -1000000000000000000≤gB∧gB≤1000000000000000000
 bh : -1000000000000000000≤hA∧hA≤1000000000000000000 ∧ -1000000000000000000≤hB∧hB≤1000000000000000000
theorem Steps.start (X Y:Int) (h0:0≤Y) (h:Y≤X):Steps X Y X Y 0 0 1 0 0 1 :=
 ⟨.inl rfl,⟨1,1,0,0,1,Cof.start X Y h0 h,by omega,by omega,by omega,by omega⟩,by omega,by omega⟩
theorem Steps.xy {X Y x y fA fB gA gB hA hB:Int} (h:Steps X Y x y fA fB gA gB hA hB):0≤y∧y≤x∧x≤X:=by
 obtain ⟨s,p,q,p',q',hc,_⟩:=h.cof
 have h1:1*x≤q'*x:=Int.mul_le_mul_of_nonneg_right hc.q1' (by have:=hc.xy;have:=hc.y0;omega)
 have h2:0≤q*y:=Int.mul_nonneg hc.q0 hc.y0
 have:=hc.whole
 exact ⟨hc.y0,hc.xy,by omega⟩
theorem Steps.abs {X Y x y fA fB gA gB hA hB:Int} (h:Steps X Y x y fA fB gA gB hA hB):∃ q q':Int,max gB (-gB)=q∧max hB (-hB)=q'∧0≤q∧1≤q'∧q≤1000000000000000000∧q'≤1000000000000000000:=by
 obtain ⟨s,p,q,p',q',hc,h1,h2,h3,h4⟩:=h.cof
 have:=h.bg;have:=h.bh;have:=hc.q0;have:=hc.q1'
 refine ⟨q,q',?_⟩
 rcases hc.sign with rfl | rfl <;> omega
theorem Steps.next {X Y x y fA fB gA gB hA hB q q':Int} (h:Steps X Y x y fA fB gA gB hA hB) (hX:X<1000000000000000000) (hq:max gB (-gB)=q) (hq':max hB (-hB)=q') (c1:q'≤y) (c2:q+q'≤x-y) :
 0<y∧Steps X Y y (x%y) gA gB hA hB (gA-x/y*hA) (gB-x/y*hB)∧0≤x/y∧x/y≤1000000000000000000 ∧
 -1000000000000000000≤x/y*hA∧x/y*hA≤1000000000000000000 ∧ -1000000000000000000≤x/y*hB∧x/y*hB≤1000000000000000000:=by
 have hxy:=h.xy
 obtain ⟨s,p,r,p',r',hc,h1,h2,h3,h4⟩:=h.cof
 have e0:q=r∧q'=r':=by
  have:=hc.q0;have:=hc.q1'
  rcases hc.sign with rfl | rfl <;> omega
 obtain ⟨rfl,rfl⟩:=e0
 have hy:0<y:=by have:=hc.q1';omega
 obtain ⟨hn,b1,b2,b3,b4,b5,b6,b7⟩:=hc.step hy
 have b8:x/y≤x:=Int.ediv_le_self _ (by omega)
 have bh:=h.bh
 refine ⟨hy,⟨?_,⟨-s,p',q',p+x/y*p',q+x/y*q',hn,by rw [h3];grind,by rw [h4];grind,by rw [h1,h3];grind,by rw [h2,h4];grind⟩,bh,?_⟩,by omega,by omega,?_⟩
 · by_cases h0:q=0
   · left;rw [h2,h0];simp
   · right;exact ⟨x,y,s,p,q,p',q',hc,c1,c2,h0,h1,h2,h3,h4⟩
 · have e1:gA-x/y*hA=s*(p+x/y*p'):=by rw [h1,h3];grind
   have e2:gB-x/y*hB = -(s*(q+x/y*q')):=by rw [h2,h4];grind
   rw [e1,e2]
   have:=hc.p0;have:=hc.q0
   generalize x/y*p'=m at *
   generalize x/y*q'=n at *
   rcases hc.sign with rfl | rfl <;> omega
 · have e1:x/y*hA = -(s*(x/y*p')):=by rw [h3];grind
   have e2:x/y*hB=s*(x/y*q'):=by rw [h4];grind
   rw [e1,e2]
   generalize x/y*p'=m at *
   generalize x/y*q'=n at *
   rcases hc.sign with rfl | rfl <;> omega
theorem boxes5 (w:World) (x y z u v:Obj):Below w.heap.size w (((((w.alloc x).alloc y).alloc z).alloc u).alloc v):=(boxes4 w x y z u).alloc (by simp;omega) v
theorem fifth_new (w:World) (x y z u v:Obj):(((((w.alloc x).alloc y).alloc z).alloc u).alloc v).heap[w.heap.size+1+1+1+1]?=some v:=by
 have:=fourth_new (w.alloc x) y z u v
 rwa [World.size_alloc] at this
theorem Bs.five (w:World) (x0 x1 y0 y1 z0 z1 u0 u1 v0 v1:Value) (T:TypeId) :
 Bs (((((w.alloc (.cells #[x0,x1] T)).alloc (.cells #[y0,y1] T)).alloc (.cells #[z0,z1] T)).alloc (.cells #[u0,u1] T)).alloc (.cells #[v0,v1] T)) [(w.heap.size,x0,x1),(w.heap.size+1,y0,y1),(w.heap.size+1+1,z0,z1),(w.heap.size+1+1+1,u0,u1),(w.heap.size+1+1+1+1,v0,v1)]:=by
 have h:=(Bs.four w x0 x1 y0 y1 z0 z1 u0 u1 T T T T).next ((Below.refl _ _).alloc (Nat.le_refl _) (.cells #[v0,v1] T)) (Nat.le_refl _)
 exact .cons h.head (.cons h.tail.head (.cons h.tail.tail.head (.cons h.tail.tail.tail.head (.cons ⟨T,fifth_new _ _ _ _ _ _⟩ (.nil _)))))
theorem Bx.set0 {W:World} {g:Nat} {x y:Value} (h:Bx W g x y) (x':Value):Bx (W.setCell ⟨g,0,none⟩ x') g x' y:=by
 have hlt:=h.lt
 obtain ⟨T,h⟩:=h
 rw [Array.getElem?_eq_getElem hlt] at h
 have h:=Option.some.inj h
 refine ⟨T,?_⟩
 show (W.heap.modify g _)[g]?=_
 rw [Array.getElem?_eq_getElem (by simpa using hlt),Array.getElem_modify_self,h]
 simp
theorem Bx.set1 {W:World} {g:Nat} {x y:Value} (h:Bx W g x y) (y':Value):Bx (W.setCell ⟨g,1,none⟩ y') g x y':=by
 have hlt:=h.lt
 obtain ⟨T,h⟩:=h
 rw [Array.getElem?_eq_getElem hlt] at h
 have h:=Option.some.inj h
 refine ⟨T,?_⟩
 show (W.heap.modify g _)[g]?=_
 rw [Array.getElem?_eq_getElem (by simpa using hlt),Array.getElem_modify_self,h]
 simp
theorem Bx.store {W:World} {g:Nat} {x y:Value} (h:Bx W g x y) (x' y':Value):Bx ((W.setCell ⟨g,0,none⟩ x').setCell ⟨g,1,none⟩ y') g x' y':=(h.set0 x').set1 y'
theorem Bx.past {W:World} {g g':Nat} {x y:Value} (h:Bx W g x y) (x' y':Value) (hn:g≠g'):Bx ((W.setCell ⟨g',0,none⟩ x').setCell ⟨g',1,none⟩ y') g x y :=
 h.only (((Only.refl g' W).set 0 x').set 1 y') hn
theorem pair_set (W:World) (B g:Nat) (x y:Value) (hB:B≤g):Below B W ((W.setCell ⟨g,0,none⟩ x).setCell ⟨g,1,none⟩ y):=(((Only.refl g W).set 0 x).set 1 y).below hB
set_option maxRecDepth 100000 in
set_option maxHeartbeats 3200000 in
theorem leadingSteps_any (X Y:Int) (h0:0≤Y) (h1:Y≤X) (hX:X<1000000000000000000) (w:World) :
 Calls Tryz.prog 188 #[.int .i64 X,.int .i64 Y] w fun e w'=>∃ fA fB gA gB,e = .returned (.tuple #[.agg #[.int .i64 fA,.int .i64 fB],.agg #[.int .i64 gA,.int .i64 gB]])∧Lead X Y fA fB gA gB∧Below w.heap.size w w':=by
 have HS:=Lib.hid (Steps.start X Y h0 h1)
 go_enter Tryz.func188,Tryz.ntmps188
 go_wp2
 go_loopw [0,1,9,10] (fun x y _ _ wr=>∃ (m n fA fB gA gB hA hB:Int),x = .int .i64 m∧y = .int .i64 n∧Hid (Steps X Y m n fA fB gA gB hA hB)∧Hid (Below w.heap.size w wr) ∧
  Hid (Bs wr [(w.heap.size,.int .i64 0,.int .i64 0),(w.heap.size+1,.int .i64 0,.int .i64 0),(w.heap.size+1+1,.int .i64 fA,.int .i64 fB),(w.heap.size+1+1+1,.int .i64 gA,.int .i64 gB),(w.heap.size+1+1+1+1,.int .i64 hA,.int .i64 hB)])) (fun _ y _ _ _=>(intOf y).toNat)
 case atStart => 
  refine ⟨X,Y,0,0,1,0,0,1,rfl,rfl,HS,Lib.hid ?_,Lib.hid ?_⟩
  · exact boxes5 _ _ _ _ _ _
  · exact Bs.five _ _ _ _ _ _ _ _ _ _ _ _
 case round =>
  obtain ⟨m,n,fA,fB,gA,gB,hA,hB,rfl,rfl,HI,HB,HBX⟩:=hrel
  obtain ⟨q,q',e1,e2,k1,k2,k3,k4⟩:=HI.out.abs
  have HQ:=Lib.hid e1
  have HQ':=Lib.hid e2
  obtain ⟨x1,x2,x3⟩:=HI.out.xy
  obtain ⟨b1,b2,b3,b4⟩:=HI.out.bg
  obtain ⟨b5,b6,b7,b8⟩:=HI.out.bh
  clear e1 e2
  obtain ⟨c0,c1,c2,c3,c4,c5⟩:wr.cell? ⟨w.heap.size+1+1,0,none⟩=some (.int .i64 fA)∧wr.cell? ⟨w.heap.size+1+1,1,none⟩=some (.int .i64 fB)∧wr.cell? ⟨w.heap.size+1+1+1,0,none⟩=some (.int .i64 gA)∧wr.cell? ⟨w.heap.size+1+1+1,1,none⟩=some (.int .i64 gB) ∧
   wr.cell? ⟨w.heap.size+1+1+1+1,0,none⟩=some (.int .i64 hA)∧wr.cell? ⟨w.heap.size+1+1+1+1,1,none⟩=some (.int .i64 hB) :=
   ⟨HBX.out.tail.tail.head.cell.1,HBX.out.tail.tail.head.cell.2.1,HBX.out.tail.tail.tail.head.cell.1,HBX.out.tail.tail.tail.head.cell.2.1,HBX.out.tail.tail.tail.tail.head.cell.1,HBX.out.tail.tail.tail.tail.head.cell.2.1⟩
  by_cases hc:q'≤n∧q+q'≤m-n
  · have HN:=Lib.hid (HI.out.next hX HQ.out HQ'.out hc.1 hc.2)
    obtain ⟨hc1,hc2⟩:=hc
    go_wp2
    go_quiet ((go_at_call 214;first | exact Calls.quiet_of_same ((abs_any gB q (by omega) HQ _).mono fun _ _ h=>⟨h.1,h.2.symm⟩) | exact Calls.quiet_of_same ((abs_any hB q' (by omega) HQ' _).mono fun _ _ h=>⟨h.1,h.2.symm⟩)))
    obtain ⟨y0,hst,n1,n2,n3,n4,n5,n6⟩:=HN.out
    have HST:=Lib.hid hst
    have HB2:Hid (Below w.heap.size w (wr.drewN nq)):=Lib.hid (HB.out.trans ⟨rfl,rfl,rfl,Nat.le_refl _,fun _ _=>rfl⟩)
    have HBX2:=Lib.hid (show Bs (wr.drewN nq) _ from HBX.out)
    clear hst HN c0 c1 c2 c3 c4 c5 HB HBX hc1 hc2 HQ HQ' k1 k2 k3 k4
    generalize wr.drewN nq=W2 at *
    have hB3:=(HBX2.out.next ((Below.refl _ _).alloc (Nat.le_refl _) (.cells #[.int .i64 0,.int .i64 0] 224)) (Nat.le_refl _))
    have hB4:=Bs.cons (Bx.new W2 (.int .i64 0) (.int .i64 0) 224) hB3
    obtain ⟨c2,c3,_,_⟩:=HBX2.out.tail.tail.tail.head.cell
    obtain ⟨c4,c5,_,_⟩:=HBX2.out.tail.tail.tail.tail.head.cell
    obtain ⟨d0,d1,d2,d3⟩:=hB4.head.cell
    clear hB3 hB4
    go_wp2
    have hB3:=(HBX2.out.next ((Below.refl _ _).alloc (Nat.le_refl _) (.cells #[.int .i64 (gA-m/n*hA),.int .i64 (gB-m/n*hB)] 224)) (Nat.le_refl _))
    have hB4:=Lib.hid (Bs.cons (Bx.new W2 (.int .i64 (gA-m/n*hA)) (.int .i64 (gB-m/n*hB)) 224) hB3)
    have hlt:w.heap.size+1+1+1+1<W2.heap.size:=HBX2.out.tail.tail.tail.tail.head.lt
    have HB3:=Lib.hid (HB2.out.alloc HB2.out.size (.cells #[.int .i64 (gA-m/n*hA),.int .i64 (gB-m/n*hB)] 224))
    clear c2 c3 c4 c5 d0 d1 d2 d3 hB3
    go_quiet (fail)
    go_wp2
    have HB4:Hid (Bs ((W2.alloc (.cells #[.int .i64 (gA-m/n*hA),.int .i64 (gB-m/n*hB)] 224)).drewN nq) _):=Lib.hid hB4.out
    have HB5:Hid (Below w.heap.size w ((W2.alloc (.cells #[.int .i64 (gA-m/n*hA),.int .i64 (gB-m/n*hB)] 224)).drewN nq)):=Lib.hid (HB3.out.trans ⟨rfl,rfl,rfl,Nat.le_refl _,fun _ _=>rfl⟩)
    clear hB4 HB3
    generalize (W2.alloc (.cells #[.int .i64 (gA-m/n*hA),.int .i64 (gB-m/n*hB)] 224)).drewN nq=W3 at *
    obtain ⟨c0,c1,_,_⟩:=HB4.out.head.cell
    obtain ⟨c2,c3,f2,f3⟩:=HB4.out.tail.tail.tail.head.cell
    obtain ⟨c4,c5,f4,f5⟩:=HB4.out.tail.tail.tail.tail.head.cell
    obtain ⟨c6,c7,f6,f7⟩:=HB4.out.tail.tail.tail.tail.tail.head.cell
    obtain ⟨A,hA'⟩:∃ A,gA-m/n*hA=A:=⟨_,rfl⟩
    obtain ⟨B,hB'⟩:∃ A,gB-m/n*hB=A:=⟨_,rfl⟩
    rw [hA',hB'] at HST HB4
    rw [hA'] at c0
    rw [hB'] at c1
    clear hA' hB' n1 n2 n3 n4 n5 n6
    have a1:W2.heap.size≠w.heap.size+1+1:=by omega
    have a2:W2.heap.size≠w.heap.size+1+1+1:=by omega
    have a3:W2.heap.size≠w.heap.size+1+1+1+1:=by omega
    go_region
    go_wp2
    go_roundw
    case rel =>
     refine ⟨n,m%n,gA,gB,hA,hB,A,B,rfl,rfl,HST,Lib.hid ?_,Lib.hid ?_⟩
     · exact (HB5.out.trans (((pair_set W3 w.heap.size _ _ _ (by omega)).trans (pair_set _ w.heap.size _ _ _ (by omega))).trans (pair_set _ w.heap.size _ _ _ (by omega)))).drew
     · have h:=HB4.out.tail
       refine Bs.drew (.cons ?_ (.cons ?_ (.cons ?_ (.cons ?_ (.cons ?_ (.nil _))))))
       · exact ((h.head.past _ _ (by omega)).past _ _ (by omega)).past _ _ (by omega)
       · exact ((h.tail.head.past _ _ (by omega)).past _ _ (by omega)).past _ _ (by omega)
       · exact ((h.tail.tail.head.store _ _).past _ _ (by omega)).past _ _ (by omega)
       · exact ((h.tail.tail.tail.head.past _ _ (by omega)).store _ _).past _ _ (by omega)
       · exact ((h.tail.tail.tail.tail.head.past _ _ (by omega)).past _ _ (by omega)).store _ _
    case measure =>
     have:=Int.emod_lt_of_pos m y0
     have:=Int.emod_nonneg m (b:=n) (by omega)
     simp [intOf];omega
  · by_cases h1:q'≤n
    · have h2:¬ q+q'≤m-n:=fun h=>hc ⟨h1,h⟩
      clear hc
      obtain ⟨c2,c3,f2,f3⟩:=HBX.out.tail.tail.head.cell
      go_wp2
      go_quiet ((go_at_call 214;first | exact Calls.quiet_of_same ((abs_any gB q (by omega) HQ _).mono fun _ _ h=>⟨h.1,h.2.symm⟩) | exact Calls.quiet_of_same ((abs_any hB q' (by omega) HQ' _).mono fun _ _ h=>⟨h.1,h.2.symm⟩)))
      have HB2:Hid (Below w.heap.size w (wr.drewN nq)):=Lib.hid (HB.out.trans ⟨rfl,rfl,rfl,Nat.le_refl _,fun _ _=>rfl⟩)
      have HBX2:=Lib.hid (show Bs (wr.drewN nq) _ from HBX.out)
      clear c0 c1 c2 c3 c4 c5 HB HBX HQ HQ'
      generalize wr.drewN nq=W2 at *
      obtain ⟨d0,d1,f0,f1⟩:=HBX2.out.head.cell
      obtain ⟨d2,d3,f2,f3⟩:=HBX2.out.tail.head.cell
      obtain ⟨d4,d5,f4,f5⟩:=HBX2.out.tail.tail.head.cell
      obtain ⟨d6,d7,f6,f7⟩:=HBX2.out.tail.tail.tail.head.cell
      go_wp2
      go_region
      go_wp2
      have r1:Bx _ w.heap.size (.int .i64 fA) (.int .i64 fB):=(HBX2.out.head.store (.int .i64 fA) (.int .i64 fB)).past (.int .i64 gA) (.int .i64 gB) (show w.heap.size≠w.heap.size+1 by omega)
      have r2:Bx _ (w.heap.size+1) (.int .i64 gA) (.int .i64 gB):=(HBX2.out.tail.head.past (.int .i64 fA) (.int .i64 fB) (show w.heap.size+1≠w.heap.size by omega)).store (.int .i64 gA) (.int .i64 gB)
      have r3:=HB2.out.trans ((pair_set W2 w.heap.size w.heap.size (.int .i64 fA) (.int .i64 fB) (by omega)).trans (pair_set _ w.heap.size (w.heap.size+1) (.int .i64 gA) (.int .i64 gB) (by omega)))
      have R3:=Lib.hid r3.drew
      obtain ⟨l0,l1,_,_⟩:=r1.drew.cell
      obtain ⟨l2,l3,_,_⟩:=r2.drew.cell
      clear r1 r2 r3 d0 d1 d2 d3 d4 d5 d6 d7 f0 f1 f2 f3 f4 f5 f6 f7 HBX2 HB2
      generalize ((((W2.setCell ⟨w.heap.size,0,none⟩ (.int .i64 fA)).setCell ⟨w.heap.size,1,none⟩ (.int .i64 fB)).setCell ⟨w.heap.size+1,0,none⟩ (.int .i64 gA)).setCell ⟨w.heap.size+1,1,none⟩ (.int .i64 gB)).drew=W4 at *
      refine bodyPost_ret (v := .tuple #[.agg #[.int .i64 fA,.int .i64 fB],.agg #[.int .i64 gA,.int .i64 gB]]) (by simp [results,Tryz.results188,go_sem,l0,l1,l2,l3]) rfl ?_
      exact ⟨fA,fB,gA,gB,rfl,HI.out.lead,R3.out⟩
    · have hd1:decide (q'≤n)=false:=by simp;omega
      clear hc
      obtain ⟨c2,c3,f2,f3⟩:=HBX.out.tail.tail.head.cell
      go_wp2
      go_quiet ((go_at_call 214;first | exact Calls.quiet_of_same ((abs_any gB q (by omega) HQ _).mono fun _ _ h=>⟨h.1,h.2.symm⟩) | exact Calls.quiet_of_same ((abs_any hB q' (by omega) HQ' _).mono fun _ _ h=>⟨h.1,h.2.symm⟩)))
      have HB2:Hid (Below w.heap.size w (wr.drewN nq)):=Lib.hid (HB.out.trans ⟨rfl,rfl,rfl,Nat.le_refl _,fun _ _=>rfl⟩)
      have HBX2:=Lib.hid (show Bs (wr.drewN nq) _ from HBX.out)
      clear c0 c1 c2 c3 c4 c5 HB HBX HQ HQ'
      generalize wr.drewN nq=W2 at *
      obtain ⟨d0,d1,f0,f1⟩:=HBX2.out.head.cell
      obtain ⟨d2,d3,f2,f3⟩:=HBX2.out.tail.head.cell
      obtain ⟨d4,d5,f4,f5⟩:=HBX2.out.tail.tail.head.cell
      obtain ⟨d6,d7,f6,f7⟩:=HBX2.out.tail.tail.tail.head.cell
      go_wp2
      go_region
      go_wp2
      have r1:Bx _ w.heap.size (.int .i64 fA) (.int .i64 fB):=(HBX2.out.head.store (.int .i64 fA) (.int .i64 fB)).past (.int .i64 gA) (.int .i64 gB) (show w.heap.size≠w.heap.size+1 by omega)
      have r2:Bx _ (w.heap.size+1) (.int .i64 gA) (.int .i64 gB):=(HBX2.out.tail.head.past (.int .i64 fA) (.int .i64 fB) (show w.heap.size+1≠w.heap.size by omega)).store (.int .i64 gA) (.int .i64 gB)
      have r3:=HB2.out.trans ((pair_set W2 w.heap.size w.heap.size (.int .i64 fA) (.int .i64 fB) (by omega)).trans (pair_set _ w.heap.size (w.heap.size+1) (.int .i64 gA) (.int .i64 gB) (by omega)))
      have R3:=Lib.hid r3.drew
      obtain ⟨l0,l1,_,_⟩:=r1.drew.cell
      obtain ⟨l2,l3,_,_⟩:=r2.drew.cell
      clear r1 r2 r3 d0 d1 d2 d3 d4 d5 d6 d7 f0 f1 f2 f3 f4 f5 f6 f7 HBX2 HB2
      generalize ((((W2.setCell ⟨w.heap.size,0,none⟩ (.int .i64 fA)).setCell ⟨w.heap.size,1,none⟩ (.int .i64 fB)).setCell ⟨w.heap.size+1,0,none⟩ (.int .i64 gA)).setCell ⟨w.heap.size+1,1,none⟩ (.int .i64 gB)).drew=W4 at *
      refine bodyPost_ret (v := .tuple #[.agg #[.int .i64 fA,.int .i64 fB],.agg #[.int .i64 gA,.int .i64 gB]]) (by simp [results,Tryz.results188,go_sem,l0,l1,l2,l3]) rfl ?_
      exact ⟨fA,fB,gA,gB,rfl,HI.out.lead,R3.out⟩
end Go.Proofs.YtkhdocdddicgpaaGreatDoor
set_option linter.unusedVariables false
set_option linter.unusedSimpArgs false
namespace Go.Proofs.YtkhdocdddicgpaaGreatDoor
open Go.RowKit _root_.Go.Proofs.YtkhdocdddicgpaaGreatDoor.Nm
def Bo (w:World) (g:Nat) (x:Value):Prop:=∃ T,w.heap[g]?=some (.cells #[x] T (0,0))
theorem Bo.cell {w:World} {g:Nat} {x:Value} (h:Bo w g x):w.cell? ⟨g,0,none⟩=some x∧w.frozen? ⟨g,0,none⟩=false:=by
 obtain ⟨T,h⟩:=h
 simp [World.cell?,World.frozen?,h]
theorem Bo.lt {w:World} {g:Nat} {x:Value} (h:Bo w g x):g<w.heap.size:=by
 rcases Nat.lt_or_ge g w.heap.size with h' | h'
 · exact h'
 · obtain ⟨T,h⟩:=h
   simp [Array.getElem?_eq_none h'] at h
theorem Bo.below {w w':World} {g B:Nat} {x:Value} (h:Bo w g x) (hb:Below B w w') (hg:g<B):Bo w' g x:=by
 obtain ⟨T,h⟩:=h
 exact ⟨T,(hb.block g hg).trans h⟩
theorem Bo.only {w w':World} {g b:Nat} {x:Value} (h:Bo w g x) (hb:Only b w w') (hg:g≠b):Bo w' g x:=by
 obtain ⟨T,h⟩:=h
 exact ⟨T,(hb.block g hg).trans h⟩
theorem Bo.new (w:World) (x:Value) (T:TypeId):Bo (w.alloc (.cells #[x] T)) w.heap.size x:=⟨T,heap_alloc_new _ _⟩
theorem Bo.alloc {w:World} {g:Nat} {x:Value} (h:Bo w g x) (o:Obj):Bo (w.alloc o) g x:=h.below ((Below.refl _ _).alloc (Nat.le_refl _) o) h.lt
theorem Bo.set {W:World} {g:Nat} {x:Value} (h:Bo W g x) (x':Value):Bo (W.setCell ⟨g,0,none⟩ x') g x':=by
 have hlt:=h.lt
 obtain ⟨T,h⟩:=h
 rw [Array.getElem?_eq_getElem hlt] at h
 have h:=Option.some.inj h
 refine ⟨T,?_⟩
 show (W.heap.modify g _)[g]?=_
 rw [Array.getElem?_eq_getElem (by simpa using hlt),Array.getElem_modify_self,h]
 simp
theorem Bo.past {W:World} {g g':Nat} {x:Value} (h:Bo W g x) (i:Nat) (x':Value) (hn:g≠g'):Bo (W.setCell ⟨g',i,none⟩ x') g x:=h.only ((Only.refl g' W).set i x') hn
def lb (xs:List Nat) (i:Nat):Nat:=xs.getD i 0
theorem lb_lt (xs:List Nat) (hx:∀ x∈xs,x<1000000000) (i:Nat):lb xs i<1000000000:=by
 unfold lb
 by_cases h:i<xs.length
 · rw [List.getD_eq_getElem?_getD,List.getElem?_eq_getElem h];exact hx _ (List.getElem_mem h)
 · rw [List.getD_eq_getElem?_getD,List.getElem?_eq_none (by omega)];simp
theorem three (ys:List Nat) (h:ys.length≤3):vl 1000000000 ys=lb ys 0+1000000000*(lb ys 1+1000000000*lb ys 2):=by
 match ys,h with
 | [],_=>rfl
 | [a],_=>simp [vl,lb]
 | [a,b],_=>simp [vl,lb]
 | [a,b,c],_=>simp [vl,lb]
theorem lb_drop (xs:List Nat) (t i:Nat):lb (xs.drop t) i=lb xs (t+i):=by
 unfold lb;rw [List.getD_eq_getElem?_getD,List.getD_eq_getElem?_getD,List.getElem?_drop]
theorem vl_div (xs:List Nat) (hx:∀ x∈xs,x<1000000000) (t:Nat):vl 1000000000 xs/1000000000 ^ t=vl 1000000000 (xs.drop t):=by
 have e:vl 1000000000 xs=vl 1000000000 (xs.take t)+1000000000 ^ (xs.take t).length*vl 1000000000 (xs.drop t):=by
  conv=>lhs;rw [← List.take_append_drop t xs]
  rw [vl_append]
 have h1:=vl_lt 1000000000 (xs.take t) (fun x h=>hx x (List.mem_of_mem_take h))
 by_cases ht:t≤xs.length
 · rw [List.length_take,Nat.min_eq_left ht] at e h1
   rw [e,Nat.add_mul_div_left _ _ (Nat.pow_pos (by omega)),Nat.div_eq_of_lt h1,Nat.zero_add]
 · rw [List.drop_of_length_le (by omega)]
   have h2:=vl_lt 1000000000 xs hx
   rw [Nat.div_eq_of_lt (Nat.lt_of_lt_of_le h2 (Nat.pow_le_pow_right (by omega) (by omega)))]
   rfl
theorem lead_div (xs:List Nat) (hx:∀ x∈xs,x<1000000000) (t s D:Nat) (hl:xs.length≤t+3) (hD:s*D=1000000000) :
 (lb xs (t+2)*1000000000+lb xs (t+1))*s+lb xs t/D=vl 1000000000 xs/(1000000000 ^ t*D):=by
 have hD0:0<D:=by rcases Nat.eq_zero_or_pos D with h | h;(rw [h] at hD;omega);exact h
 rw [← Nat.div_div_eq_div_mul,vl_div xs hx,three _ (by rw [List.length_drop];omega),lb_drop,lb_drop,lb_drop,Nat.add_zero]
 rw [show 1000000000*(lb xs (t+1)+1000000000*lb xs (t+2))=D*(s*(lb xs (t+1)+1000000000*lb xs (t+2))) from by rw [← Nat.mul_assoc,Nat.mul_comm D s,hD]]
 rw [Nat.add_mul_div_left _ _ hD0,Nat.add_comm,Nat.mul_comm s,Nat.mul_comm 1000000000,Nat.add_comm (lb xs (t+1))]
 rfl
theorem lead_lt (n0 n1 n2 s D:Nat) (h0:n0<1000000000) (h1:n1<1000000000) (hs:n2*s<1000000000) (hD:s*D=1000000000):(n2*1000000000+n1)*s+n0/D<1000000000000000000:=by
 have hD0:0<D:=by rcases Nat.eq_zero_or_pos D with h | h;(rw [h] at hD;omega);exact h
 have hs0:0<s:=by rcases Nat.eq_zero_or_pos s with h | h;(rw [h] at hD;omega);exact h
 have e1:n2<D:=by
  rcases Nat.lt_or_ge n2 D with h | h
  · exact h
  · have:=Nat.mul_le_mul_right s h
    rw [Nat.mul_comm D s] at this;omega
 have e2:(n2+1)*s≤D*s:=Nat.mul_le_mul_right s e1
 have e3:n0/D<s:=by rw [Nat.div_lt_iff_lt_mul hD0,hD];exact h0
 have e4:n1*s≤999999999*s:=Nat.mul_le_mul_right s (by omega)
 rw [Nat.mul_comm D s,hD,Nat.add_mul] at e2
 rw [Nat.add_mul,Nat.mul_right_comm]
 generalize n2*s=k at *
 generalize n1*s=m at *
 generalize n0/D=q at *
 omega
theorem limb_any (i g:Nat) (v:Value) (xs:List Nat) (w:World) (hi:i≤60000) (hc:w.cell? ⟨g,0,none⟩=some v) (hr:Rd .u32 w v xs) (hx:∀ x∈xs,x<1000000000) :
 Calls Tryz.prog 216 #[.int .i64 i,.pointer (some ⟨g,0,none⟩)] w fun e w'=>e = .returned (.int .i64 (lb xs i:Nat))∧w'=w:=by
 have hlb:=lb_lt xs hx i
 rcases hr.cases with ⟨rfl,a,c,rfl,hcap⟩ | ⟨h0,g2,off,c,rfl,hxc,hcap,hg,hrow⟩
 · clear hr hx
   go_enter Tryz.func216,Tryz.ntmps216
   go_wp2
   go_ret
   exact ⟨rfl,rfl⟩
 · by_cases hlt:i<xs.length
   · have hc2:=hrow i hlt
     have hx1:=hx _ (List.getElem_mem hlt)
     have hlt':(i:Int)<xs.length:=by omega
     have HL:Hid (lb xs i=xs[i]):=Lib.hid (by unfold lb;rw [List.getD_eq_getElem?_getD,List.getElem?_eq_getElem hlt];rfl)
     clear hr hx hrow hlb
     go_enter Tryz.func216,Tryz.ntmps216
     go_wp2
     go_ret
     exact ⟨by rw [HL.out];rfl,rfl⟩
   · have hlt':¬ (i:Int)<xs.length:=by omega
     have HL:Hid (lb xs i=0):=Lib.hid (by unfold lb;rw [List.getD_eq_getElem?_getD,List.getElem?_eq_none (by omega)];rfl)
     clear hr hx hrow hlb
     go_enter Tryz.func216,Tryz.ntmps216
     go_wp2
     go_ret
     exact ⟨by rw [HL.out];rfl,rfl⟩
theorem limb_to (i g n:Nat) (z:Int) (v:Value) (xs:List Nat) (w:World) (hz:z=(i:Nat)) (hi:i≤60000) (hc:w.cell? ⟨g,0,none⟩=some v) (hr:Rd .u32 w v xs) (hx:∀ x∈xs,x<1000000000) (hn:Hid (lb xs i=n)) :
 Calls Tryz.prog 216 #[.int .i64 z,.pointer (some ⟨g,0,none⟩)] w fun e w'=>e = .returned (.int .i64 n)∧w'=w:=by
 rw [← hn.out,hz];exact limb_any i g v xs w hi hc hr hx
set_option maxRecDepth 100000 in
set_option maxHeartbeats 1600000 in
theorem digits_any (t s D gT gS:Nat) (v:Value) (xs:List Nat) (w:World) (ht:t≤50000) (hT:w.cell? ⟨gT,0,none⟩=some (.int .i64 ((t:Int)+2))) (hS:w.cell? ⟨gS,0,none⟩=some (.int .i64 (s:Nat))) (lT:gT<w.heap.size) (lS:gS<w.heap.size)
 (hr:Rd .u32 w v xs) (hx:∀ x∈xs,x<1000000000) (hD:s*D=1000000000) (hs:lb xs (t+2)*s<1000000000) :
 Calls Tryz.prog 215 #[v,.pointer (some ⟨gT,0,none⟩),.pointer (some ⟨gS,0,none⟩)] w fun e w'=>e = .returned (.int .i64 (((lb xs (t+2)*1000000000+lb xs (t+1))*s+lb xs t/D:Nat):Int))∧Below w.heap.size w w':=by
 have hl:=hr.length
 obtain ⟨n0,h0⟩:∃ n,lb xs t=n:=⟨_,rfl⟩
 obtain ⟨n1,h1⟩:∃ n,lb xs (t+1)=n:=⟨_,rfl⟩
 obtain ⟨n2,h2⟩:∃ n,lb xs (t+2)=n:=⟨_,rfl⟩
 have b0:n0<1000000000:=by rw [← h0];exact lb_lt xs hx _
 have b1:n1<1000000000:=by rw [← h1];exact lb_lt xs hx _
 have b2:n2<1000000000:=by rw [← h2];exact lb_lt xs hx _
 rw [h2] at hs
 have hlt:=lead_lt n0 n1 n2 s D b0 b1 hs hD
 rw [h0,h1,h2]
 have H0:=Lib.hid h0
 have H1:=Lib.hid h1
 have H2:=Lib.hid h2
 clear h0 h1 h2
 have hD0:0<D:=by rcases Nat.eq_zero_or_pos D with h | h;(rw [h] at hD;omega);exact h
 have hs0:0<s:=by rcases Nat.eq_zero_or_pos s with h | h;(rw [h] at hD;omega);exact h
 have hs1:s≤1000000000:=by rw [← hD];exact Nat.le_mul_of_pos_right _ hD0
 have hDe:1000000000/s=D:=by rw [← hD,Nat.mul_div_cancel_left _ hs0]
 obtain ⟨A,hA⟩:∃ n,n2*1000000000=n:=⟨_,rfl⟩
 obtain ⟨B,hB⟩:∃ n,A+n1=n:=⟨_,rfl⟩
 obtain ⟨C,hC⟩:∃ n,B*s=n:=⟨_,rfl⟩
 obtain ⟨E,hE⟩:∃ n,n0/D=n:=⟨_,rfl⟩
 obtain ⟨F,hF⟩:∃ n,C+E=n:=⟨_,rfl⟩
 rw [hA,hB,hC,hE,hF] at hlt
 rw [hA,hB,hC,hE,hF]
 have e1:IntKind.i64.wrap ((t:Int)+2-1)=(t:Int)+1:=by rw [IntWalk.i64_in _ (by omega)];omega
 have e2:IntKind.i64.wrap ((t:Int)+2-2)=t:=by rw [IntWalk.i64_in _ (by omega)];omega
 have p1:IntKind.i64.wrap ((n2:Int)*1000000000)=(A:Nat):=by rw [IntWalk.i64_in _ (by omega), ← hA];omega
 have p2:IntKind.i64.wrap ((A:Int)+(n1:Int))=(B:Nat):=by rw [IntWalk.i64_in _ (by omega), ← hB];omega
 have p3:IntKind.i64.wrap ((B:Int)*(s:Int))=(C:Nat):=by
  have e:((B:Int)*(s:Int))=(C:Nat):=by rw [← hC];simp
  rw [IntWalk.i64_in _ (by omega),e]
 have p4:IntKind.i64.wrap ((1000000000:Int).tdiv (s:Int))=(D:Nat):=by
  have e:((1000000000:Int).tdiv (s:Int))=(D:Nat):=by rw [← hDe];exact (Int.ofNat_tdiv 1000000000 s).symm
  have:D≤1000000000:=by rw [← hDe];exact Nat.div_le_self _ _
  rw [e,IntWalk.i64_in _ (by omega)]
 have Q5:Hid (wrap64 ((n0:Int)/(D:Int))=(E:Nat)):=Lib.hid (by
  have:E≤n0:=by rw [← hE];exact Nat.div_le_self _ _
  rw [← Int.natCast_ediv,hE];exact wrap_in _ (by omega) (by omega))
 have Q6:Hid (wrap64 ((C:Int)+(E:Int))=(F:Nat)):=Lib.hid (by rw [wrap_in _ (by omega) (by omega), ← hF];omega)
 have z1:((s:Int)==0)=false:=by rw [beq_eq_false_iff_ne];omega
 have z2:((D:Int)==0)=false:=by rw [beq_eq_false_iff_ne];omega
 have z3:¬ (s:Int)=0:=by omega
 have z4:¬ (D:Int)=0:=by omega
 have HR:=Lib.hid hr
 have HX:=Lib.hid hx
 obtain ⟨a,c,rfl,_⟩:=id hr
 have hbo:=Bo.new w (.slice a xs.length c) 176
 have hbl:=(Below.refl w.heap.size w).alloc (Nat.le_refl _) (.cells #[.slice a xs.length c] 176)
 have c0:=hbo.cell.1
 have c1:=(hbl.cell (p:=⟨gT,0,none⟩) lT).trans hT
 have c2:=(hbl.cell (p:=⟨gS,0,none⟩) lS).trans hS
 have HR1:=Lib.hid (hr.keep hbl (Nat.le_refl _))
 have HBL:=Lib.hid hbl
 clear hr hx hbo hbl hA hB hC hE hF hD hDe hs hlt hT hS
 go_enter Tryz.func215,Tryz.ntmps215
 go_wp2
 go_quiet ((go_at_call 216;first | exact Calls.quiet_of_same (limb_to (t+2) w.heap.size n2 _ _ xs _ (by omega) (by omega) c0 HR1.out HX.out H2) | exact Calls.quiet_of_same (limb_to (t+1) w.heap.size n1 _ _ xs _ (by omega) (by omega) c0 HR1.out HX.out H1) | exact Calls.quiet_of_same (limb_to t w.heap.size n0 _ _ xs _ (by omega) (by omega) c0 HR1.out HX.out H0)))
 rw [Q5.out,Q6.out]
 go_wp2
 go_ret
 exact ⟨rfl,HBL.out.trans ⟨rfl,rfl,rfl,Nat.le_refl _,fun _ _=>rfl⟩⟩
end Go.Proofs.YtkhdocdddicgpaaGreatDoor
set_option linter.unusedVariables false
set_option linter.unusedSimpArgs false
namespace Go.Proofs.YtkhdocdddicgpaaGreatDoor
open Go.RowKit _root_.Go.Proofs.YtkhdocdddicgpaaGreatDoor.Nm
def Shift (x s D:Nat):Prop:=s*D=1000000000∧x*s<1000000000∧∃ j,D=10 ^ j
theorem Shift.start (x:Nat) (hx:x<1000000000):Shift x 1 1000000000:=⟨by omega,by omega,9,by decide⟩
theorem Shift.next {x s D:Nat} (h:Shift x s D) (h0:0<x) (hl:x*s*10<1000000000):∃ D',Shift x (s*10) D':=by
 obtain ⟨h1,h2,j,rfl⟩:=h
 match j with
 | 0 =>
  have:1*s≤x*s:=Nat.mul_le_mul_right _ h0
  simp at h1;omega
 | j+1 =>
  refine ⟨10 ^ j,?_,by rw [← Nat.mul_assoc];exact hl,j,rfl⟩
  rw [Nat.pow_succ] at h1
  rw [Nat.mul_assoc,Nat.mul_comm 10];exact h1
theorem Shift.pos {x s D:Nat} (h:Shift x s D):0<s∧0<D:=by
 obtain ⟨h1,_⟩:=h
 constructor
 · rcases Nat.eq_zero_or_pos s with h | h
   · rw [h] at h1;omega
   · exact h
 · rcases Nat.eq_zero_or_pos D with h | h
   · rw [h] at h1;omega
   · exact h
theorem Shift.le {x s D:Nat} (h:Shift x s D):s≤1000000000:=by
 have hp:=h.pos
 obtain ⟨h1,_⟩:=h
 rw [← h1];exact Nat.le_mul_of_pos_right _ hp.2
theorem top_vl (xs:List Nat) (hx:∀ x∈xs,x<1000000000) (t:Nat) (hl:xs.length≤t+3):lb xs (t+2)=vl 1000000000 xs/1000000000 ^ (t+2):=by
 rw [vl_div xs hx,three _ (by rw [List.length_drop];omega),lb_drop,lb_drop,lb_drop]
 have e1:lb xs (t+2+1)=0:=by unfold lb;rw [List.getD_eq_getElem?_getD,List.getElem?_eq_none (by omega)];rfl
 have e2:lb xs (t+2+2)=0:=by unfold lb;rw [List.getD_eq_getElem?_getD,List.getElem?_eq_none (by omega)];rfl
 rw [e1,e2]
 simp
theorem top_le (xs ys:List Nat) (hx:∀ x∈xs,x<1000000000) (hy:∀ y∈ys,y<1000000000) (t:Nat) (hl:xs.length≤t+3) (hm:ys.length≤t+3) (h:vl 1000000000 ys≤vl 1000000000 xs):lb ys (t+2)≤lb xs (t+2):=by
 rw [top_vl xs hx t hl,top_vl ys hy t hm]
 exact Nat.div_le_div_right h
def ldg (xs:List Nat) (t s D:Nat):Nat:=(lb xs (t+2)*1000000000+lb xs (t+1))*s+lb xs t/D
theorem lead_all (xs ys:List Nat) (hx:∀ x∈xs,x<1000000000) (hy:∀ y∈ys,y<1000000000) (t s D a b:Nat) (hl:xs.length≤t+3) (hm:ys.length≤t+3) (hD:s*D=1000000000) (hs:lb xs (t+2)*s<1000000000) (hD0:0<D)
 (ha:vl 1000000000 xs=a) (hb:vl 1000000000 ys=b):∃ T,0<T∧ldg xs t s D=a/T∧ldg ys t s D=b/T∧a/T<1000000000000000000:=by
 refine ⟨1000000000 ^ t*D,Nat.mul_pos (Nat.pow_pos (by omega)) hD0,?_,?_,?_⟩
 · rw [← ha];exact lead_div xs hx t s D hl hD
 · rw [← hb];exact lead_div ys hy t s D hm hD
 · rw [← ha, ← lead_div xs hx t s D hl hD];exact lead_lt _ _ _ s D (lb_lt xs hx t) (lb_lt xs hx (t+1)) hs hD
theorem digits_to (q t s D gT gS:Nat) (v:Value) (xs:List Nat) (w:World) (ht:t≤50000) (hT:Bo w gT (.int .i64 ((t:Int)+2))) (hS:Bo w gS (.int .i64 (s:Nat)))
 (hr:Rd .u32 w v xs) (hx:∀ x∈xs,x<1000000000) (hD:s*D=1000000000) (hs:lb xs (t+2)*s<1000000000) (hq:Hid (True∧ldg xs t s D=q)) :
 Calls Tryz.prog 215 #[v,.pointer (some ⟨gT,0,none⟩),.pointer (some ⟨gS,0,none⟩)] w fun e w'=>e = .returned (.int .i64 (q:Nat))∧Below w.heap.size w w':=by
 rw [← hq.out.2];exact digits_any t s D gT gS v xs w ht hT.cell.1 hS.cell.1 hT.lt hS.lt hr hx hD hs
set_option maxRecDepth 100000 in
set_option maxHeartbeats 3200000 in
theorem leadingDigits_row (a b t g off c:Nat) (vb:Value) (xs ys:List Nat) (w:World) (ht:t≤50000) (hn:xs.length=t+3) (hg:g<w.heap.size) (hrow:Row .u32 w g off xs) (hcap:Cap (t+3) c) (hc:t+3≤c) (hb:Rd .u32 w vb ys)
 (hx:∀ x∈xs,x<1000000000) (hy:∀ y∈ys,y<1000000000) (hyl:ys.length≤t+3) (hva:vl 1000000000 xs=a) (hvb:vl 1000000000 ys=b) (hba:b≤a) (htop:0<lb xs (t+2)) :
 Calls Tryz.prog 189 #[.slice (some ⟨g,off,none⟩) (t+3) c,vb] w fun e w'=>∃ T:Nat,0<T∧e = .returned (.tuple #[.int .i64 ((a/T:Nat):Int),.int .i64 ((b/T:Nat):Int)])∧a/T<1000000000000000000∧Below w.heap.size w w':=by
 have HX:=Lib.hid hx
 have HY:=Lib.hid hy
 have HRow:=Lib.hid hrow
 have HB:=Lib.hid hb
 obtain ⟨x,hxt⟩:∃ x,lb xs (t+2)=x:=⟨_,rfl⟩
 have hx1:x<1000000000:=by rw [← hxt];exact lb_lt xs hx _
 rw [hxt] at htop
 have hct:w.cell? ⟨g,off+(t+2),none⟩=some (.int .u32 (x:Nat)):=by
  have h:=hrow (t+2) (by omega)
  rw [h]
  have e:xs[t+2]=x:=by rw [← hxt];unfold lb;rw [List.getD_eq_getElem?_getD,List.getElem?_eq_getElem (by omega)];rfl
  rw [e]
 have HXT:=Lib.hid hxt
 have HN:=Lib.hid hn
 have HA:=Lib.hid hva
 have HVB:=Lib.hid hvb
 have HCT:=Lib.hid hct
 have e0:IntKind.i64.wrap ((t:Int)+3-1)=(t:Int)+2:=by rw [IntWalk.i64_in _ (by omega)];omega
 clear hx hy hrow hb hxt hn hva hvb hct
 go_enter Tryz.func189,Tryz.ntmps189
 go_wp2
 go_loopw [] (fun wr=>∃ s D:Nat,Hid (Shift x s D)∧Hid (Bo wr w.heap.size (.int .i64 ((t:Int)+2)))∧Hid (Bo wr (w.heap.size+1) (.int .i64 (s:Nat)))∧Hid (Below w.heap.size w wr)) (fun wr=>2000000000-(intOf ((wr.cell? ⟨w.heap.size+1,0,none⟩).getD .nilIface)).toNat)
 case atStart =>
  refine ⟨1,1000000000,Lib.hid (Shift.start x hx1),Lib.hid ?_,Lib.hid ?_,Lib.hid ?_⟩
  · exact (Bo.new w _ _).alloc _
  · exact ⟨_,second_new _ _ _⟩
  · exact boxes2 _ _ _
 case round =>
  obtain ⟨s,D,HS,HT,HSB,HBL⟩:=hrel
  have hsp:=HS.out.pos
  have hsl:=HS.out.le
  have hxs:=HS.out.2.1
  obtain ⟨P,hP⟩:∃ P,x*s=P:=⟨_,rfl⟩
  rw [hP] at hxs
  have p1:IntKind.i64.wrap ((x:Int)*(s:Int))=(P:Nat):=by
   have e:((x:Int)*(s:Int))=(P:Nat):=by rw [← hP];simp
   rw [IntWalk.i64_in _ (by omega),e]
  obtain ⟨R,hR⟩:∃ R,P*10=R:=⟨_,rfl⟩
  have p2:IntKind.i64.wrap ((P:Int)*10)=(R:Nat):=by rw [IntWalk.i64_in _ (by omega)];omega
  have HR:=Lib.hid (And.intro trivial hR)
  have c0:=HT.out.cell.1
  have c1:=HSB.out.cell.1
  have f1:=HSB.out.cell.2
  have c2:=(HBL.out.cell (p:=⟨g,off+(t+2),none⟩) hg).trans HCT.out
  have HP:=Lib.hid (And.intro trivial hP)
  clear hP hR
  have n1:(0:Int)≤(t:Int)+2:=by omega
  have n2:((t:Int)+2).toNat=t+2:=by omega
  by_cases hlt:R<1000000000
  · have hlt':decide ((R:Int)<1000000000)=true:=by simp;omega
    obtain ⟨D',HS'⟩:=HS.out.next htop (by rw [HP.out.2,HR.out.2];exact hlt)
    go_wp2
    go_quiet (fail)
    have HT2:=Lib.hid (show Bo (wr.drewN nq) _ _ from HT.out)
    have HSB2:=Lib.hid (show Bo (wr.drewN nq) _ _ from HSB.out)
    have HBL2:Hid (Below w.heap.size w (wr.drewN nq)):=Lib.hid (HBL.out.trans ⟨rfl,rfl,rfl,Nat.le_refl _,fun _ _=>rfl⟩)
    have q1:IntKind.i64.wrap ((s:Int)*10)=(s:Int)*10:=IntWalk.i64_in _ (by omega)
    have HS2:=Lib.hid HS'
    have hc1:=c1
    clear c0 c1 f1 c2 HT HSB HBL p1 p2 n1 n2 HS'
    have HC1:Hid ((wr.drewN nq).cell? ⟨w.heap.size+1,0,none⟩=some (.int .i64 (s:Nat))∧wr.cell? ⟨w.heap.size+1,0,none⟩=some (.int .i64 (s:Nat))):=Lib.hid ⟨hc1,hc1⟩
    clear hc1
    generalize wr.drewN nq=W2 at *
    obtain ⟨d0,d1⟩:=HSB2.out.cell
    go_wp2
    go_roundw
    case rel =>
     refine ⟨s*10,D',HS2,Lib.hid (HT2.out.past 0 _ (by omega)),Lib.hid ?_,Lib.hid ?_⟩
     · have:=HSB2.out.set (.int .i64 ((s:Int)*10))
       rwa [show ((s:Int)*10)=((s*10:Nat):Int) from by omega] at this
     · exact HBL2.out.trans (((Only.refl (w.heap.size+1) _).set 0 _).below (by omega))
    case measure =>
     have e:=(HSB2.out.set (.int .i64 ((s:Int)*10))).cell.1
     rw [e,HC1.out.2]
     simp [intOf];omega
  · have hlt':decide ((R:Int)<1000000000)=false:=by simp;omega
    go_wp2
    go_quiet (fail)
    have HT2:=Lib.hid (show Bo (wr.drewN nq) _ _ from HT.out)
    have HSB2:=Lib.hid (show Bo (wr.drewN nq) _ _ from HSB.out)
    have HBL2:Hid (Below w.heap.size w (wr.drewN nq)):=Lib.hid (HBL.out.trans ⟨rfl,rfl,rfl,Nat.le_refl _,fun _ _=>rfl⟩)
    clear c0 c1 f1 c2 HT HSB HBL p1 p2 n1 n2
    generalize wr.drewN nq=W2 at *
    have hsa:lb xs (t+2)*s<1000000000:=by rw [HXT.out];exact HS.out.2.1
    have hsb:lb ys (t+2)*s<1000000000:=by
     have h1:=top_le xs ys HX.out HY.out t (by rw [HN.out];exact Nat.le_refl _) hyl (by rw [HA.out,HVB.out];exact hba)
     exact Nat.lt_of_le_of_lt (Nat.mul_le_mul_right _ h1) hsa
    have HSA:=Lib.hid hsa
    have HSBB:=Lib.hid hsb
    obtain ⟨T,hT0,hT1,hT2,hT3⟩:=lead_all xs ys HX.out HY.out t s D a b (by rw [HN.out];exact Nat.le_refl _) hyl HS.out.1 hsa hsp.2 HA.out HVB.out
    have HRA:Hid (Rd .u32 w (.slice (some ⟨g,off,none⟩) (t+3) c) xs):=Lib.hid (by
     have h:=Rd.mk (k := .u32) (w:=w) (g:=g) (off:=off) (c:=c) (xs:=xs) (by rw [HN.out];exact hc) (by rw [HN.out];exact hcap) hg HRow.out
     rwa [HN.out] at h)
    obtain ⟨qa,hqa⟩:∃ q,a/T=q:=⟨_,rfl⟩
    obtain ⟨qb,hqb⟩:∃ q,b/T=q:=⟨_,rfl⟩
    rw [hqa] at hT1 hT3
    rw [hqb] at hT2
    have HQA:=Lib.hid (And.intro trivial hqa)
    have HQB:=Lib.hid (And.intro trivial hqb)
    have HT1:=Lib.hid (And.intro trivial hT1)
    have HTT2:=Lib.hid (And.intro trivial hT2)
    have HT3:=Lib.hid (And.intro trivial hT3)
    have HT0:=Lib.hid (And.intro trivial hT0)
    clear hsa hsb hT0 hT1 hT2 hT3 hqa hqb
    go_wp2_with fail
    refine (digits_to qa t s D w.heap.size (w.heap.size+1) _ xs W2 ht HT2.out HSB2.out (HRA.out.keep HBL2.out (Nat.le_refl _)) HX.out HS.out.1 HSA.out HT1).mono ?_
    rintro e w3 ⟨rfl,hb3⟩
    have HB3:=Lib.hid hb3
    have HBL3:=Lib.hid (HBL2.out.trans (hb3.mono HBL2.out.size))
    clear hb3
    go_wp2_with fail
    refine (digits_to qb t s D w.heap.size (w.heap.size+1) _ ys w3 ht (HT2.out.below HB3.out HT2.out.lt) (HSB2.out.below HB3.out HSB2.out.lt) (HB.out.keep HBL3.out (Nat.le_refl _)) HY.out HS.out.1 HSBB.out HTT2).mono ?_
    rintro e w4 ⟨rfl,hb4⟩
    have HBL4:=Lib.hid (HBL3.out.trans (hb4.mono HBL3.out.size))
    clear hb4
    go_wp2
    go_ret2
    exact ⟨T,HT0.out.2,by rw [HQA.out.2,HQB.out.2];rfl,by rw [HQA.out.2];exact HT3.out.2,HBL4.out⟩
theorem leadingDigits_any (a b:Nat) (va vb:Value) (w:World) (ha:IsNat w va a) (hb:IsNat w vb b) (hba:b≤a) (hl:2<(ds 1000000000 a).length) (la:(ds 1000000000 a).length≤1000) :
 Calls Tryz.prog 189 #[va,vb] w fun e w'=>∃ T:Nat,0<T∧e = .returned (.tuple #[.int .i64 ((a/T:Nat):Int),.int .i64 ((b/T:Nat):Int)])∧a/T<1000000000000000000∧Below w.heap.size w w':=by
 rcases Rd.cases ha with ⟨h0,_⟩ | ⟨h0,g,off,c,rfl,hxc,hcap,hg,hrow⟩
 · rw [h0] at hl;simp at hl
 · obtain ⟨t,ht⟩:∃ t,(ds 1000000000 a).length=t+3:=⟨(ds 1000000000 a).length-3,by omega⟩
   have htop:0<lb (ds 1000000000 a) (t+2):=by
    have h1:=getLast_ne 1000000000 (by omega) a
    rw [List.getLast?_eq_getElem?,show (ds 1000000000 a).length-1=t+2 from by omega] at h1
    unfold lb
    rw [List.getD_eq_getElem?_getD]
    rw [List.getElem?_eq_getElem (by omega)] at h1 ⊢
    rcases Nat.eq_zero_or_pos ((ds 1000000000 a)[t+2]) with h2 | h2
    · rw [h2] at h1;exact absurd rfl h1
    · exact h2
   have hm:=ds_length_mono 1000000000 (by omega) b a hba
   have h:=leadingDigits_row a b t g off c vb _ _ w (by omega) ht hg hrow (by rw [← ht];exact hcap) (by omega) hb (ds_lt _ (by omega) _) (ds_lt _ (by omega) _) (by omega) (vl_ds _ (by omega) _) (vl_ds _ (by omega) _) hba htop
   rw [ht]
   exact h
end Go.Proofs.YtkhdocdddicgpaaGreatDoor
set_option linter.unusedVariables false
set_option linter.unusedSimpArgs false
namespace Go.Proofs.YtkhdocdddicgpaaGreatDoor
open Go.RowKit _root_.Go.Proofs.YtkhdocdddicgpaaGreatDoor.Nm
def Sums (x y:Nat) (fA fB gA gB:Int) (R R':Nat):Prop :=
 (R:Int)=fA*x+fB*y∧(R':Int)=gA*x+gB*y∧R'≤R∧R≤x∧R+R'<x+y∧Nat.gcd R R'=Nat.gcd x y ∧
 (-1000000000≤fA∧fA≤1000000000)∧(-1000000000≤fB∧fB≤1000000000)∧(-1000000000≤gA∧gA≤1000000000)∧(-1000000000≤gB∧gB≤1000000000)
theorem lead_sums (x y T:Nat) (fA fB gA gB:Int) (hT:0<T) (hy:0<y) (hX:x/T<1000000000000000000) (h:Lead ((x/T:Nat):Int) ((y/T:Nat):Int) fA fB gA gB) (hf:fB≠0):∃ R R',Sums x y fA fB gA gB R R':=by
 rcases h with h | ⟨u,v,s,p,q,p',q',hc,c1,c2,hq,e1,e2,e3,e4⟩
 · exact absurd h hf
 · have hs:=hc.short c1 c2 (by omega)
   have ex:(x:Int)=((x/T:Nat):Int)*(T:Int)+((x%T:Nat):Int):=by
    have h1:=Nat.div_add_mod x T
    have h2:((T*(x/T)+x%T:Nat):Int)=x:=by rw [h1]
    rw [← h2];push_cast;rw [Int.mul_comm]
   have ey:(y:Int)=((y/T:Nat):Int)*(T:Int)+((y%T:Nat):Int):=by
    have h1:=Nat.div_add_mod y T
    have h2:((T*(y/T)+y%T:Nat):Int)=y:=by rw [h1]
    rw [← h2];push_cast;rw [Int.mul_comm]
   have m1:=Nat.mod_lt x hT
   have m2:=Nat.mod_lt y hT
   obtain ⟨R,R',r1,r2,r3,r4,r5,r6,r7,r8⟩:=hc.lehmer c1 c2 hq T ((x%T:Nat):Int) ((y%T:Nat):Int) x y (by omega) (by omega) (by omega) (by omega) (by omega) ex ey (by omega)
   have g:=gcd_of x y R R' _ _ _ _ _ _ _ _ r1 r2 r7 r8
   have p0:=hc.p0;have p1:=hc.q0;have p2:=hc.p0';have p3:=hc.q1'
   have k1:(R.toNat:Int)=R:=by omega
   have k2:(R'.toNat:Int)=R':=by omega
   have k3 : -1000000000≤fA∧fA≤1000000000:=by rcases hc.sign with h | h <;> rw [h] at e1 <;> omega
   have k4 : -1000000000≤fB∧fB≤1000000000:=by rcases hc.sign with h | h <;> rw [h] at e2 <;> omega
   have k5 : -1000000000≤gA∧gA≤1000000000:=by rcases hc.sign with h | h <;> rw [h] at e3 <;> omega
   have k6 : -1000000000≤gB∧gB≤1000000000:=by rcases hc.sign with h | h <;> rw [h] at e4 <;> omega
   have k7:R.gcd R'=Nat.gcd R.toNat R'.toNat:=by
    have h1:R=((R.toNat:Nat):Int):=k1.symm
    have h2:R'=((R'.toNat:Nat):Int):=k2.symm
    conv=>lhs;rw [h1,h2]
    rfl
   refine ⟨R.toNat,R'.toNat,by rw [k1,r1,e1,e2],by rw [k2,r2,e3,e4],by omega,by omega,by omega,?_,k3,k4,k5,k6⟩
   rw [← k7,g]
   rfl
theorem two_lt (x:Nat) (h:(ds 1000000000 x).length≤2):x<1000000000000000000:=by
 have h1:=lt_pow_length 1000000000 (by omega) x
 have h2:1000000000 ^ (ds 1000000000 x).length≤1000000000 ^ 2:=Nat.pow_le_pow_right (by omega) h
 omega
structure Two2 (P:Nat→Prop) (a b:Nat) (W:World) (s0 s1:Value) (x y:Nat):Prop where
 n0:IsNat W s0 x
 n1:IsNat W s1 y
 i0:In P s0
 i1:In P s1
 le:y≤x
 gcd:Nat.gcd x y=Nat.gcd a b
 len:(ds 1000000000 x).length≤900
theorem Two2.kept {P:Nat→Prop} {a b:Nat} {W W':World} {s0 s1:Value} {x y:Nat} (h:Two2 P a b W s0 s1 x y) (hk:Kept P W W'):Two2 P a b W' s0 s1 x y :=
 ⟨h.n0.kept h.i0 hk,h.n1.kept h.i1 hk,h.i0,h.i1,h.le,h.gcd,h.len⟩
theorem Two2.form {P:Nat→Prop} {a b:Nat} {W:World} {s0 s1:Value} {x y:Nat} (h:Two2 P a b W s0 s1 x y):∃ a0 c0 a1 c1,s0 = .slice a0 (ds 1000000000 x).length c0∧s1 = .slice a1 (ds 1000000000 y).length c1:=by
 obtain ⟨a0,c0,e0,_⟩:=h.n0
 obtain ⟨a1,c1,e1,_⟩:=h.n1
 exact ⟨a0,c0,a1,c1,e0,e1⟩
theorem len_zero (y:Nat) (h:(ds 1000000000 y).length=0):y=0:=(ds_eq_nil 1000000000 (by omega) y).1 (List.length_eq_zero_iff.1 h)
theorem len_pos (y:Nat) (h:0<(ds 1000000000 y).length):0<y:=by
 rcases Nat.eq_zero_or_pos y with h1 | h1
 · rw [h1,ds_zero] at h;simp at h
 · exact h1
set_option maxRecDepth 100000 in
set_option maxHeartbeats 6400000 in
theorem commonDivisor_nat (P:Nat→Prop) (aa ab:Option Addr) (ma mb ca cb:Nat) (a b:Nat) (w:World) (hP:∀ k,w.heap.size≤k→P k) (ha:IsNat w (.slice aa ma ca) a) (hb:IsNat w (.slice ab mb cb) b) (ia:In P (.slice aa ma ca)) (ib:In P (.slice ab mb cb))
 (la:(ds 1000000000 a).length≤900) (lb:(ds 1000000000 b).length≤900) :
 Calls Tryz.prog 157 #[.slice aa ma ca,.slice ab mb cb] w (SizePost P (Nat.gcd a b) w):=by
 have HA:=Lib.hid ha
 have HB:=Lib.hid hb
 have IA:=Lib.hid ia
 have IB:=Lib.hid ib
 have HP:=Lib.hid hP
 clear ha hb ia ib hP
 go_enter Tryz.func157,Tryz.ntmps157
 go_wp2_with fail
 refine (compare_any _ _ a b _ HA.out HB.out).mono ?_
 rintro e w1 ⟨rfl,n1,rfl⟩
 go_upto_if 12 with fail
 go_cut [0,1] (fun s0 s1 wx=>∃ x y,Hid (Two2 P a b wx s0 s1 x y)∧wx=w.drewN n1)
 case first =>
  by_cases hab:a<b
  · rw [sgn_lt (show (a:Int)<(b:Int) by omega)]
    have H2:Hid (Two2 P a b (w.drewN n1) (.slice ab mb cb) (.slice aa ma ca) b a):=Lib.hid ⟨HB.out.kept IB.out (.drewN _ _ _),HA.out.kept IA.out (.drewN _ _ _),IB.out,IA.out,by omega,Nat.gcd_comm _ _,lb⟩
    go_wp2_with fail
    go_meet
    case rel=>exact ⟨b,a,H2,rfl⟩
  · obtain ⟨r,hr,hr0⟩:∃ r,sgn (a:Int) (b:Int)=r∧¬ r<0:=⟨_,rfl,by unfold sgn;rw [if_neg (by omega)];split <;> omega⟩
    rw [hr]
    clear hr
    have H2:Hid (Two2 P a b (w.drewN n1) (.slice aa ma ca) (.slice ab mb cb) a b):=Lib.hid ⟨HA.out.kept IA.out (.drewN _ _ _),HB.out.kept IB.out (.drewN _ _ _),IA.out,IB.out,by omega,rfl,la⟩
    go_wp2_with fail
    go_meet
    case rel=>exact ⟨a,b,H2,rfl⟩
 case rest =>
 obtain ⟨x0,y0,H0,rfl⟩:=hcut
 have HW0:Hid (Below w.heap.size w (w.drewN n1)):=Lib.hid ⟨rfl,rfl,rfl,Nat.le_refl _,fun _ _=>rfl⟩
 clear HA HB IA IB la lb
 go_wp2_with fail
 go_loopg [0,1,5,6,7,8] (x0+y0) (fun k s0 s1 _ _ _ _ wr=>∃ x y,Hid (k=x+y)∧Hid (Two2 P a b wr s0 s1 x y)∧Hid (Below w.heap.size w wr))
 case atStart=>exact ⟨x0,y0,Lib.hid rfl,H0,HW0⟩
 case round =>
  obtain ⟨x,y,HK,H2,HBL⟩:=hrel
  obtain ⟨a0,c0,a1,c1,rfl,rfl⟩:=H2.out.form
  obtain ⟨l0,hl0⟩:∃ l,(ds 1000000000 x).length=l:=⟨_,rfl⟩
  obtain ⟨l1,hl1⟩:∃ l,(ds 1000000000 y).length=l:=⟨_,rfl⟩
  rw [hl0,hl1] at H2 ⊢
  have HL0:=Lib.hid hl0
  have HL1:=Lib.hid hl1
  clear hl0 hl1
  by_cases hb0:0<l1
  · have hy0:=len_pos y (by rw [HL1.out];exact hb0)
    have hb0':(0:Int)<(l1:Int):=by omega
    by_cases hb1:2<l0
    · have hb1':(2:Int)<(l0:Int):=by omega
      have HZ:=Lib.hid (HBL.out.size)
      go_wp2_with fail
      refine (leadingDigits_any x y _ _ wr H2.out.n0 H2.out.n1 H2.out.le (by rw [HL0.out];exact hb1) (by have:=H2.out.len;omega)).mono ?_
      rintro e w2 ⟨T,hT,rfl,hX,hb⟩
      have HX:=Lib.hid (And.intro hT hX)
      have H3:=Lib.hid (H2.out.kept (.all hb))
      have HBL3:=Lib.hid (HBL.out.trans (hb.mono HBL.out.size))
      clear hT hX hb H2 HBL HZ
      obtain ⟨X,hXX⟩:∃ X,x/T=X:=⟨_,rfl⟩
      obtain ⟨Y,hYY⟩:∃ X,y/T=X:=⟨_,rfl⟩
      rw [hXX] at HX
      rw [hXX,hYY]
      have HXX:=Lib.hid (And.intro trivial hXX)
      have HYY:=Lib.hid (And.intro trivial hYY)
      have HYX:Hid (Y≤X):=Lib.hid (by rw [← hXX, ← hYY];exact Nat.div_le_div_right H3.out.le)
      clear hXX hYY
      go_wp2_with fail
      refine (leadingSteps_any X Y (by omega) (by have:=HYX.out;omega) (by have:=HX.out.2;omega) w2).mono ?_
      rintro e w3 ⟨fA,fB,gA,gB,rfl,hld,hb⟩
      have HLD:=Lib.hid hld
      have H4:=Lib.hid (H3.out.kept (.all hb))
      have HBL4:=Lib.hid (HBL3.out.trans (hb.mono HBL3.out.size))
      clear hld hb H3 HBL3
      by_cases hf:fB=0
      · subst hf
        have H5:=Lib.hid (H4.out.kept (.all (boxes2 w3 (.cells #[.int .i64 fA,.int .i64 0] 224) (.cells #[.int .i64 gA,.int .i64 gB] 224))))
        have HBL5:=Lib.hid (HBL4.out.trans ((boxes2 w3 (.cells #[.int .i64 fA,.int .i64 0] 224) (.cells #[.int .i64 gA,.int .i64 gB] 224)).mono HBL4.out.size))
        go_wp2_with fail
        refine (divide_nat _ _ x y _ H5.out.n0 H5.out.n1 hy0 H5.out.len).mono ?_
        rintro e w6 hq
        obtain ⟨a3,m3,k3,a4,m4,k4,rfl,hv3,hf3,hv4,hf4,hb3⟩:=quo_form hq
        have HN:Hid (Two2 P a b w6 (.slice a1 l1 c1) (.slice a4 m4 k4) y (x%y)):=Lib.hid ⟨H5.out.n1.kept H5.out.i1 (.all hb3),hv4,H5.out.i1,In.fresh hf4 (fun k hk=>HP.out k (Nat.le_trans HBL5.out.size hk)),Nat.le_of_lt (Nat.mod_lt _ hy0),by
         rw [← H5.out.gcd,Nat.gcd_comm x y,Nat.gcd_rec y x,Nat.gcd_comm],by have h1:=ds_length_mono 1000000000 (by omega) y x H5.out.le;have:=H5.out.len;omega⟩
        have HBL6:=Lib.hid (HBL5.out.trans (hb3.mono HBL5.out.size))
        have HM:Hid (True∧y+x%y<gk):=Lib.hid ⟨trivial,by
         have h1:=Nat.mod_lt x hy0
         have h2:=H5.out.le
         have h3:=HK.out
         omega⟩
        clear hq hv3 hf3 hv4 hf4 hb3 H4 H5 HBL4 HBL5
        go_wp2_with fail
        go_roundg (y+x%y)
        case measure=>exact HM.out.2
        case rel=>exact ⟨y,x%y,Lib.hid rfl,HN,HBL6⟩
      · have hfb:(fB==0)=false:=by simp [hf]
        have HBX:=Lib.hid (St2.start w3 (.int .i64 fA) (.int .i64 fB) (.int .i64 gA) (.int .i64 gB) 224 224)
        obtain ⟨R,R',hsm⟩:=lead_sums x y T fA fB gA gB HX.out.1 hy0 (by rw [HXX.out.2];exact HX.out.2) (by rw [HXX.out.2,HYY.out.2];exact HLD.out) hf
        have HSM:=Lib.hid hsm
        clear hsm HLD HXX HYY HX HYX
        have hS0:=HBX.out
        have H5:=Lib.hid (H4.out.kept (.all (boxes2 w3 (.cells #[.int .i64 fA,.int .i64 fB] 224) (.cells #[.int .i64 gA,.int .i64 gB] 224))))
        have HBL5:=Lib.hid (HBL4.out.trans ((boxes2 w3 (.cells #[.int .i64 fA,.int .i64 fB] 224) (.cells #[.int .i64 gA,.int .i64 gB] 224)).mono HBL4.out.size))
        clear HBX H4 HBL4
        obtain ⟨c0,c1,c2,c3,c4,c5,c6,c7⟩:=hS0.drew.cells
        go_wp2_with fail
        go_region_held3 (fun w'=>w'.cell? ⟨w3.heap.size,0,none⟩=some (.int .i64 fA)∧w'.cell? ⟨w3.heap.size,1,none⟩=some (.int .i64 fB)∧w'.cell? ⟨w3.heap.size+1,0,none⟩=some (.int .i64 gA)∧w'.cell? ⟨w3.heap.size+1,1,none⟩=some (.int .i64 gB)) (first | ((try dsimp only);(repeat' apply And.intro);all_goals with_reducible assumption) | go_keep) (first | (go_at_call 191;have hgd:=hT1;clear hgd;refine (msum_any gA gB R' x y _ _ _ HSM.out.2.2.2.2.2.2.2.2.1 HSM.out.2.2.2.2.2.2.2.2.2 (by exact (H5.out.kept (.drew _ _)).n0.kept H5.out.i0 (.all hb8)) (by exact (H5.out.kept (.drew _ _)).n1.kept H5.out.i1 (.all hb8)) (by have:=H5.out.len;omega) H5.out.le HSM.out.2.1 (by omega) (by have h1:=HSM.out.2.2.1;have h2:=HSM.out.2.2.2.1;omega)).mono ?_;rintro e w9 ⟨v2,rfl,hv2,hf2,hb9⟩;have hT2:=hT1.next hb9 (Nat.le_refl _);clear d0 d1 d2 d3 d4 d5 d6 d7;obtain ⟨e0,e1,e2,e3,e4,e5,e6,e7⟩:=hT2.cells;obtain ⟨a2,m2,k2,rfl⟩:=IsNat.slice hv2) | (go_at_call 191;refine (msum_any fA fB R x y _ _ _ HSM.out.2.2.2.2.2.2.1 HSM.out.2.2.2.2.2.2.2.1 (by exact (H5.out.kept (.drew _ _)).n0) (by exact (H5.out.kept (.drew _ _)).n1) (by have:=H5.out.len;omega) H5.out.le HSM.out.1 (by omega) (by have h2:=HSM.out.2.2.2.1;omega)).mono ?_;rintro e w8 ⟨v1,rfl,hv1,hf1,hb8⟩;have hT1:=hS0.drew.next hb8 (Nat.le_refl _);clear c0 c1 c2 c3 c4 c5 c6 c7;obtain ⟨d0,d1,d2,d3,d4,d5,d6,d7⟩:=hT1.cells;obtain ⟨a9,m9,k9,rfl⟩:=IsNat.slice hv1))
        have hv1':IsNat w9 (.slice a9 m9 k9) R:=by
         have h:=Rd.keep hv1 hb9 (Nat.le_refl _)
         rwa [Int.toNat_natCast] at h
        have hv2':IsNat w9 (.slice a2 m2 k2) R':=by
         have h:=hv2
         rwa [Int.toNat_natCast] at h
        have HBL8:Hid (Below w.heap.size w _):=Lib.hid (HBL5.out.drew.trans (hb8.mono HBL5.out.size))
        have HN:Hid (Two2 P a b w9 (.slice a9 m9 k9) (.slice a2 m2 k2) R R'):=Lib.hid ⟨hv1',hv2',In.fresh hf1 (fun k hk=>HP.out k (Nat.le_trans HBL5.out.size hk)),In.fresh hf2 (fun k hk=>HP.out k (Nat.le_trans HBL8.out.size hk)),HSM.out.2.2.1,by
         rw [← H5.out.gcd];exact HSM.out.2.2.2.2.2.1,by have h1:=ds_length_mono 1000000000 (by omega) R x HSM.out.2.2.2.1;have:=H5.out.len;omega⟩
        have HBL9:=Lib.hid (HBL8.out.trans (hb9.mono HBL8.out.size))
        have HM:Hid (True∧R+R'<gk):=Lib.hid ⟨trivial,by
         have h1:=HSM.out.2.2.2.2.1
         have h3:=HK.out
         omega⟩
        clear hv1 hv2 hv1' hv2' hf1 hf2 hb8 hb9 hS0 hT1 hT2 H5 HBL5 HBL8 HSM e0 e1 e2 e3 e4 e5 e6 e7
        go_wp2_with fail
        go_roundg (R+R')
        case measure=>exact HM.out.2
        case rel=>exact ⟨R,R',Lib.hid rfl,HN,HBL9⟩
    · have hb1':¬ (2:Int)<(l0:Int):=by omega
      have hz1:((l1:Int)==0)=false:=by rw [beq_eq_false_iff_ne];omega
      have hx18:=two_lt x (by rw [HL0.out];omega)
      have hle:=H2.out.le
      have HG:Hid (True∧Nat.gcd x y=Nat.gcd a b∧Nat.gcd x y<18446744073709551616):=Lib.hid ⟨trivial,H2.out.gcd,by
       have:=Nat.le_of_dvd hy0 (Nat.gcd_dvd_right x y);omega⟩
      have HX1:Hid (True∧x<18446744073709551616∧y<18446744073709551616):=Lib.hid ⟨trivial,by omega,by omega⟩
      clear hx18 hle
      go_wp2_with fail
      refine (word_any _ x _ H2.out.n0 (by rw [HL0.out];omega)).mono ?_
      rintro e w2 ⟨rfl,rfl⟩
      go_wp2_with fail
      refine (word_any _ y _ H2.out.n1 (by have h1:=ds_length_mono 1000000000 (by omega) y x H2.out.le;rw [HL0.out] at h1;omega)).mono ?_
      rintro e w2 ⟨rfl,rfl⟩
      go_wp2_with fail
      refine (words_any x y HX1.out.2.1 HX1.out.2.2 _).mono ?_
      rintro e w3 ⟨rfl,n3,rfl⟩
      obtain ⟨G,hG⟩:∃ G,Nat.gcd x y=G:=⟨_,rfl⟩
      rw [hG] at HG ⊢
      clear hG
      go_wp2_with fail
      refine (naturalOf_any G HG.out.2.2 _).mono ?_
      rintro e w4 ⟨v4,rfl,hv4,hf4,hb4⟩
      have HV:Hid (IsNat w4 v4 (Nat.gcd a b)):=Lib.hid (by rw [← HG.out.2.1];exact hv4)
      have HI:Hid (In P v4):=Lib.hid (In.fresh hf4 (fun k hk=>HP.out k (Nat.le_trans HBL.out.size hk)))
      have HB4:Hid (Below w.heap.size w w4):=Lib.hid (HBL.out.trans ((⟨rfl,rfl,rfl,Nat.le_refl _,fun _ _=>rfl⟩:Below w.heap.size wr (wr.drewN n3)).trans (hb4.mono HBL.out.size)))
      obtain ⟨a5,m5,k5,rfl⟩:=IsNat.slice hv4
      clear hv4 hf4 hb4
      go_wp2
      go_ret
      exact ⟨_,rfl,HV.out,HI.out,HB4.out⟩
  · have hb0':¬ (0:Int)<(l1:Int):=by omega
    have h1:l1=0:=by omega
    have hy0:=len_zero y (by rw [HL1.out];exact h1)
    have hz1:((l1:Int)==0)=true:=by rw [beq_iff_eq];omega
    have HG:Hid (True∧Nat.gcd a b=x):=Lib.hid ⟨trivial,by rw [← H2.out.gcd,hy0,Nat.gcd_zero_right]⟩
    clear hy0 h1
    go_wp2
    go_ret
    exact ⟨_,rfl,by rw [HG.out.2];exact H2.out.n0,H2.out.i0,HBL.out⟩
end Go.Proofs.YtkhdocdddicgpaaGreatDoor
set_option linter.unusedVariables false
set_option linter.unusedSimpArgs false
namespace Go.Proofs.YtkhdocdddicgpaaGreatDoor
open Go.RowKit _root_.Go.Proofs.YtkhdocdddicgpaaGreatDoor.Nm
theorem gcd_sz (a b:Int):sz false (Nat.gcd a.natAbs b.natAbs)=(Int.gcd a b:Nat):=by unfold sz;simp [Int.gcd]
set_option maxRecDepth 100000 in
set_option maxHeartbeats 6400000 in
theorem CommonDivisor_long (P:Nat→Prop) (s1 s2:Int) (p1 p2:Option Addr) (a b:Int) (w:World) (hP:∀ k,w.heap.size≤k→P k) (ha:IsInt P w (.agg #[.int .i64 s1,.pointer p1]) a) (hb:IsInt P w (.agg #[.int .i64 s2,.pointer p2]) b)
 (hp:(p1.isNone&&p2.isNone)=false) (la:(ds 1000000000 a.natAbs).length≤900) (lb:(ds 1000000000 b.natAbs).length≤900) :
 Calls Tryz.prog 125 #[.agg #[.int .i64 s1,.pointer p1],.agg #[.int .i64 s2,.pointer p2]] w (IntPost P (Int.gcd a b:Nat) w):=by
 have HA:=Lib.hid ha
 have HB:=Lib.hid hb
 have HP:=Lib.hid hP
 have HG:=Lib.hid (And.intro trivial (gcd_sz a b))
 clear ha hb hP
 cases h1:p1.isNone <;> cases h2:p2.isNone
 case true.true=>rw [h1,h2] at hp;cases hp
 all_goals
  clear hp
  go_enter Tryz.func125,Tryz.ntmps125
  go_wp2_with fail
  have hS0:=St.of HA.out HB.out (.int .i64 0) (.pointer none) 107 107 107
  have HAQ:=Lib.hid (HA.out.bar3 hS0.1.drew)
  obtain ⟨c0,c1,c2,c3,c4,c5,c6,c7⟩:=hS0.drew.cells
  go_region_held3 (fun w'=>w'.cell? ⟨w.heap.size,0,none⟩=some (.int .i64 s1)∧w'.cell? ⟨w.heap.size,1,none⟩=some (.pointer p1)∧w'.cell? ⟨w.heap.size+1,0,none⟩=some (.int .i64 s2)∧w'.cell? ⟨w.heap.size+1,1,none⟩=some (.pointer p2)) (first | ((try dsimp only);(repeat' apply And.intro);all_goals (first | (rw [cell_set2 _ _ _ _ _ _ (by omega)];with_reducible assumption) | with_reducible assumption)) | go_keep) (first | (go_at_call 130;refine (signed_any (Bar3 P w) false _ _ _ (by intro k hk;exact Bar3.new HP.out k (Nat.le_trans hS3.2.1 hk)) (by exact hv3) hi3).mono ?_;rintro e w4 ⟨v4,rfl,hv4,hb4⟩;have hS4:=hS3.next hb4 (Nat.le_refl _);clear f0 f1 f2 f3 f4 f5 f6 f7;obtain ⟨g0,g1,g2,g3,g4,g5,g6,g7⟩:=hS4.cells;obtain ⟨s4,p4,rfl⟩:=hv4.form) | (go_at_call 157;refine (commonDivisor_nat (Bar3 P w) _ _ _ _ _ _ a.natAbs b.natAbs _ (by intro k hk;exact Bar3.new HP.out k (Nat.le_trans hS2.2.1 hk)) (by exact hv1.kept hi1 (.all hb2)) (by exact hv2) hi1 hi2 la lb).mono ?_;rintro e w3 ⟨v3,rfl,hv3,hi3,hb3⟩;have hS3:=hS2.next hb3 (Nat.le_refl _);clear e0 e1 e2 e3 e4 e5 e6 e7;obtain ⟨f0,f1,f2,f3,f4,f5,f6,f7⟩:=hS3.cells;obtain ⟨a3,m3,k3,rfl⟩:=hv3.slice) | (go_at_call 133;have hgd:=hS1;clear hgd;refine (limbs_any (Bar3 P w) _ b _ (by intro k hk;exact Bar3.new HP.out k (Nat.le_trans hS1.2.1 hk)) (by exact HB.out.bar3 hS1.1)).mono ?_;rintro e w2 ⟨v2,rfl,hv2,hi2,hb2⟩;have hS2:=hS1.next hb2 (Nat.le_refl _);clear d0 d1 d2 d3 d4 d5 d6 d7;obtain ⟨e0,e1,e2,e3,e4,e5,e6,e7⟩:=hS2.cells;obtain ⟨a2,m2,k2,rfl⟩:=hv2.slice) | (go_at_call 133;refine (limbs_any (Bar3 P w) _ a _ (by intro k hk;exact Bar3.new HP.out k (Nat.le_trans hS0.2.1 hk)) (by exact HAQ.out)).mono ?_;rintro e w1 ⟨v1,rfl,hv1,hi1,hb1⟩;have hS1:=hS0.drew.next hb1 (Nat.le_refl _);clear c0 c1 c2 c3 c4 c5 c6 c7;obtain ⟨d0,d1,d2,d3,d4,d5,d6,d7⟩:=hS1.cells;obtain ⟨a1,m1,k1,rfl⟩:=hv1.slice))
  rw [HG.out.2] at hv4
  have HV:=Lib.hid hv4
  have HW:=Lib.hid hS4.1
  clear hv1 hv2 hv3 hv4 hi1 hi2 hi3 hb1 hb2 hb3 hb4 hS0 hS1 hS2 hS3 HAQ
  go_wp2
  refine bodyPost_ret (v := .agg #[.int .i64 s4,.pointer p4]) (by simp [results,Tryz.results125,go_sem,g4,g5]) rfl ?_
  exact IntPost.three HW.out HV.out
theorem gcdIs (a b:Int) (la:(ds 1000000000 a.natAbs).length≤900) (lb:(ds 1000000000 b.natAbs).length≤900):GcdIs a b:=by
 intro P x y w hP hx hy
 obtain ⟨s1,p1,rfl⟩:=hx.form
 obtain ⟨s2,p2,rfl⟩:=hy.form
 cases hp:(p1.isNone&&p2.isNone)
 · exact CommonDivisor_long P s1 s2 p1 p2 a b w hP hx hy hp la lb
 · obtain ⟨h1,h2⟩:=Bool.and_eq_true_iff.1 hp
   rcases hx.ptr with ⟨k1,k2,k3⟩ | ⟨k1,g,k2⟩
   · rcases hy.ptr with ⟨k4,k5,k6⟩ | ⟨k4,g,k5⟩
     · subst k2 k3 k5 k6
       exact CommonDivisor_short P _ _ k1 k4 w
     · rw [k5] at h2;cases h2
   · rw [k2] at h1;cases h1
end Go.Proofs.YtkhdocdddicgpaaGreatDoor
