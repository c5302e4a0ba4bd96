/- Part 13: what the law's walk leans on. -/
import Derived.Test.YtkhdocdddicgpaaGreatDoorYt11
import Derived.Test.YtkhdocdddicgpaaGreatDoorYt12
import Derived.RegionTactic
set_option linter.unusedVariables false
set_option linter.unusedSimpArgs false
namespace Go.Proofs.YtkhdocdddicgpaaGreatDoor
open Go.RowKit _root_.Go.Proofs.YtkhdocdddicgpaaGreatDoor.Nm
theorem sum_div (p q:Rat):Rat.divInt (p.num*q.den+q.num*p.den) (p.den*q.den)=p+q:=by
 rw [Rat.add_def']
 have h:((p.den:Int)*q.den)=((p.den*q.den:Nat):Int):=by simp
 rw [h,Rat.divInt_ofNat]
theorem mul_div (p q:Rat):Rat.divInt (p.num*q.num) (p.den*q.den)=p*q:=by
 have h:((p.den:Int)*q.den)=((p.den*q.den:Nat):Int):=by simp
 rw [h,Rat.divInt_ofNat,Rat.mul_def']
theorem den_ne (p q:Rat):(p.den:Int)*q.den≠0:=by
 have h1:=p.den_pos
 have h2:=q.den_pos
 exact Int.mul_ne_zero (by omega) (by omega)
theorem Ten.one {K:Nat} (h:1≤K):Ten K 1:=⟨1,h,by decide⟩
def RT (K:Nat) (q:Rat):Prop:=Ten K q.num∧Ten K (q.den:Int)
theorem RT.divInt {K:Nat} {a b:Int} (hb:b≠0) (ha:Ten K a) (hb':Ten K b):RT K (Rat.divInt a b):=by
 obtain ⟨h1,h2⟩:=divInt_le a b hb
 exact ⟨ha.le h1,hb'.le (by simpa using h2)⟩
theorem RT.neg {K:Nat} {q:Rat} (h:RT K q):RT K (-q):=⟨h.1.neg,h.2⟩
theorem RT.short {K:Nat} {q:Rat} (h:RT K q) (hK:K≤400):rshort q=true:=by
 unfold rshort
 rw [h.1.canon hK,h.2.canon hK];rfl
theorem RT.of {q:Rat} (h:rshort q=true):RT 400 q:=by
 unfold rshort at h
 simp only [Bool.and_eq_true] at h
 have h1:=zv_ten _ h.1
 have h2:=zv_ten _ h.2
 rw [zv_itoa] at h1 h2
 exact ⟨h1,h2⟩
theorem RT.limbs {K:Nat} {q:Rat} (h:RT K q) (m:Nat) (hK:K≤9*m):(ds 1000000000 q.num.natAbs).length≤m∧(ds 1000000000 q.den).length≤m:=by
 obtain ⟨⟨k,h1,h2⟩,l,h3,h4⟩:=h
 exact ⟨ds_ten m k _ h2 (by omega),ds_ten m l _ (by simpa using h4) (by omega)⟩
theorem RIs.size {s:ByteArray} {q:Rat} (h:RIs s q):s.size≤1000:=by
 obtain ⟨rfl,h2⟩:=h
 unfold rshort at h2
 simp only [Bool.and_eq_true] at h2
 have h3:=canon_size ⟨(Lib.itoa q.num).toArray⟩ (by simpa using h2.1)
 have h4:=canon_size ⟨(Lib.itoa (q.den:Int)).toArray⟩ (by simpa using h2.2)
 rw [← len_size] at h3 h4 ⊢
 simp only [List.toList_toArray] at h3 h4 ⊢
 unfold rt
 split
 · omega
 · rw [List.length_append,List.length_cons];omega
def OpRes (f g:Rat→Rat→Int) (a b s:ByteArray) (e:Int):Prop :=
 match rval a.data.toList,rval b.data.toList with
 | some p,some q=>QuoIs (f p q) (g p q) s e
 | _,_=>s=⟨#[]⟩∧e=3
theorem OpRes.bad1 {f g:Rat→Rat→Int} {a b s:ByteArray} {e:Int} (h:OpRes f g a b s e) (ha:rval a.data.toList=none):s=⟨#[]⟩∧e=3:=by
 unfold OpRes at h;rw [ha] at h;exact h
theorem OpRes.bad2 {f g:Rat→Rat→Int} {a b s:ByteArray} {e:Int} (h:OpRes f g a b s e) (hb:rval b.data.toList=none):s=⟨#[]⟩∧e=3:=by
 unfold OpRes at h;rw [hb] at h
 split at h
 · next h1=>cases h1
 · exact h
theorem OpRes.good {f g:Rat→Rat→Int} {a b s:ByteArray} {e:Int} {p q:Rat} (h:OpRes f g a b s e) (ha:rval a.data.toList=some p) (hb:rval b.data.toList=some q):QuoIs (f p q) (g p q) s e:=by
 unfold OpRes at h;rw [ha,hb] at h;exact h
theorem OpRes.mk {f g:Rat→Rat→Int} {a b s:ByteArray} {e:Int} {p q:Rat} (ha:RIs a p) (hb:RIs b q) (h:QuoIs (f p q) (g p q) s e):OpRes f g a b s e:=by
 unfold OpRes;rw [ha.val,hb.val];exact h
theorem QuoIs.short {a b:Int} {s:ByteArray} {r:Rat} (hb:b≠0) (h:Rat.divInt a b=r) (hs:RIs s r):QuoIs a b s 0:=by
 obtain ⟨h1,h2⟩:=hs
 exact .inr (.inl ⟨hb,by rw [h];exact h2,by rw [h];exact h1,rfl⟩)
theorem QuoIs.long {a b:Int} {r:Rat} (hb:b≠0) (h:Rat.divInt a b=r) (hs:rshort r=false):QuoIs a b ⟨#[]⟩ 5 := .inr (.inr ⟨hb,by rw [h];exact hs,rfl,rfl⟩)
def fAdd (p q:Rat):Int:=p.num*q.den+q.num*p.den
def fSub (p q:Rat):Int:=p.num*q.den+(-q.num)*p.den
def fMul (p q:Rat):Int:=p.num*q.num
def fDiv (p q:Rat):Int:=p.num*q.den
def gAdd (p q:Rat):Int:=p.den*q.den
def gDiv (p q:Rat):Int:=p.den*q.num
theorem Add_res {a b s:ByteArray} {p q r:Rat} (ha:RIs a p) (hb:RIs b q) (hs:RIs s r) (hr:p+q=r):OpRes fAdd gAdd a b s 0 := .mk ha hb (.short (den_ne p q) ((sum_div p q).trans hr) hs)
theorem Mul_res {a b s:ByteArray} {p q r:Rat} (ha:RIs a p) (hb:RIs b q) (hs:RIs s r) (hr:p*q=r):OpRes fMul gAdd a b s 0 := .mk ha hb (.short (den_ne p q) ((mul_div p q).trans hr) hs)
theorem Mul_long {a b:ByteArray} {p q r:Rat} (ha:RIs a p) (hb:RIs b q) (hr:p*q=r) (hs:rshort r=false):OpRes fMul gAdd a b ⟨#[]⟩ 5 := .mk ha hb (.long (den_ne p q) ((mul_div p q).trans hr) hs)
theorem ops_ten {p q:Rat} (hp:RT 400 p) (hq:RT 400 q):Ten 801 (fAdd p q)∧Ten 801 (fSub p q)∧Ten 801 (fMul p q)∧Ten 801 (fDiv p q)∧Ten 801 (gAdd p q)∧Ten 801 (gDiv p q) :=
 ⟨(hp.1.mul hq.2).add (hq.1.mul hp.2),(hp.1.mul hq.2).add (hq.1.neg.mul hp.2),(hp.1.mul hq.1).mono (by omega),(hp.1.mul hq.2).mono (by omega),(hp.2.mul hq.2).mono (by omega),(hp.2.mul hq.1).mono (by omega)⟩
theorem limbs_of_ten {K:Nat} {z:Int} (h:Ten K z) (m:Nat) (hK:K≤9*m):(ds 1000000000 z.natAbs).length≤m:=by
 obtain ⟨k,h1,h2⟩:=h
 exact ds_ten m k _ h2 (by omega)
end Go.Proofs.YtkhdocdddicgpaaGreatDoor
set_option linter.unusedVariables false
set_option linter.unusedSimpArgs false
namespace Go.Proofs.YtkhdocdddicgpaaGreatDoor
open Go.RowKit _root_.Go.Proofs.YtkhdocdddicgpaaGreatDoor.Nm
def BothQ (P:Nat→Prop) (o1 o2:Option Rat) (r:Bool) (w:World) (e:Ending) (w':World):Prop :=
 ∃ s1 p1 s2 p2 s3 p3 s4 p4,e = .returned (.tuple #[.agg #[.int .i64 s1,.pointer p1,.int .i64 s2,.pointer p2],.agg #[.int .i64 s3,.pointer p3,.int .i64 s4,.pointer p4],.bool r]) ∧
  (∀ q,o1=some q→IsFr P w' (.agg #[.int .i64 s1,.pointer p1,.int .i64 s2,.pointer p2]) q)∧(∀ q,o2=some q→IsFr P w' (.agg #[.int .i64 s3,.pointer p3,.int .i64 s4,.pointer p4]) q)∧Below w.heap.size w w'
def MayFr (P:Nat→Prop) (w:World) (v:Value) (o:Option Rat):Prop:=∀ q,o=some q→IsFr P w v q
theorem MayFr.kept {P:Nat→Prop} {w w':World} {v:Value} {o:Option Rat} (h:MayFr P w v o) (hk:Kept P w w'):MayFr P w' v o:=fun q hq=>(h q hq).kept hk
theorem MayFr.mono {P Q:Nat→Prop} {w:World} {v:Value} {o:Option Rat} (h:MayFr P w v o) (hq:∀ k,k<w.heap.size→P k→Q k):MayFr Q w v o:=fun q hq'=>(h q hq').mono hq
theorem BothQ.two {P:Nat→Prop} {o1 o2:Option Rat} {r:Bool} {w W:World} {s1 s2 s3 s4:Int} {p1 p2 p3 p4:Option Addr} {a b c d a' b' c' d':Value}
 (hb:Below w.heap.size w W) (h1:MayFr (Bar 2 P w) W (.agg #[.int .i64 s1,.pointer p1,.int .i64 s2,.pointer p2]) o1) (h2:MayFr (Bar 2 P w) W (.agg #[.int .i64 s3,.pointer p3,.int .i64 s4,.pointer p4]) o2) :
 BothQ P o1 o2 r w (.returned (.tuple #[.agg #[.int .i64 s1,.pointer p1,.int .i64 s2,.pointer p2],.agg #[.int .i64 s3,.pointer p3,.int .i64 s4,.pointer p4],.bool r])) (set4 (set4 W w.heap.size a b c d) (w.heap.size+1) a' b' c' d').drew:=by
 have k1:=Kept.only (P:=Bar 2 P w) (set4_only W w.heap.size a b c d) (fun h=>by have:=h.2;omega)
 have k2:=Kept.only (P:=Bar 2 P w) (set4_only (set4 W w.heap.size a b c d) (w.heap.size+1) a' b' c' d') (fun h=>by have:=h.2;omega)
 exact ⟨s1,p1,s2,p2,s3,p3,s4,p4,rfl,MayFr.kept (((h1.kept k1).kept k2).mono (fun k _ h=>h.1)) (.drew _ _),MayFr.kept (((h2.kept k1).kept k2).mono (fun k _ h=>h.1)) (.drew _ _),((hb.trans ((set4_only _ _ _ _ _ _).below (Nat.le_refl _))).trans ((set4_only _ _ _ _ _ _).below (Nat.le_succ _))).drew⟩
set_option maxRecDepth 100000 in
set_option maxHeartbeats 6400000 in
theorem readBoth_any (P:Nat→Prop) (s t:ByteArray) (o1 o2:Option Rat) (r:Bool) (w:World) (hP:∀ k,w.heap.size≤k→P k) (ho1:Hid (rval s.data.toList=o1)) (ho2:Hid (rval t.data.toList=o2)) (hr:Hid ((o1.isSome&&o2.isSome)=r)) (hs:s.size≤100000) (ht:t.size≤100000) :
 Calls Tryz.prog 107 #[.string s,.string t] w (BothQ P o1 o2 r w):=by
 have HP:=Lib.hid hP
 have hA:Below w.heap.size w ((w.alloc (.cells #[.int .i64 0,.pointer none,.int .i64 0,.pointer none] 109)).alloc (.cells #[.int .i64 0,.pointer none,.int .i64 0,.pointer none] 109)):=boxes2 _ _ _
 have HW0:=Lib.hid hA
 have HX4:=Lib.hid ((B4.new w (.int .i64 0) (.pointer none) (.int .i64 0) (.pointer none) 109).below ((Below.refl _ _).alloc (Nat.le_refl _) (.cells #[.int .i64 0,.pointer none,.int .i64 0,.pointer none] 109)) (by simp))
 have hx5:=B4.new (w.alloc (.cells #[.int .i64 0,.pointer none,.int .i64 0,.pointer none] 109)) (.int .i64 0) (.pointer none) (.int .i64 0) (.pointer none) 109
 rw [World.size_alloc] at hx5
 have HX5:=Lib.hid hx5
 have HZ0:Hid (True∧w.heap.size+2≤((w.alloc (.cells #[.int .i64 0,.pointer none,.int .i64 0,.pointer none] 109)).alloc (.cells #[.int .i64 0,.pointer none,.int .i64 0,.pointer none] 109)).heap.size):=Lib.hid ⟨trivial,by simp⟩
 clear hA hx5 hP
 obtain ⟨b1,hb1⟩:∃ b,o1.isSome=b:=⟨_,rfl⟩
 obtain ⟨b2,hb2⟩:∃ b,o2.isSome=b:=⟨_,rfl⟩
 have HB1:=Lib.hid (And.intro trivial hb1)
 have HB2:=Lib.hid (And.intro trivial hb2)
 have hr2:=hr.out
 rw [hb1,hb2] at hr2
 clear hb1 hb2 hr
 cases b1
 · obtain rfl:r=false:=by rw [← hr2];rfl
   clear hr2
   go_enter Tryz.func107,Tryz.ntmps107
   go_wp2_with fail
   refine (read_any (Bar 2 P w) s o1 _ (fun k hk=>Bar.new HP.out k (Nat.le_trans HZ0.out.2 hk)) ho1 hs).mono ?_
   rintro e w1 ⟨s1,p1,s2,p2,rfl,hv,hb⟩
   rw [HB1.out.2]
   have hA:=(Below.refl w1.heap.size w1).alloc (Nat.le_refl _) (.cells #[.int .i64 s1,.pointer p1,.int .i64 s2,.pointer p2] 109)
   have HV1:Hid (MayFr (Bar 2 P w) (w1.alloc (.cells #[.int .i64 s1,.pointer p1,.int .i64 s2,.pointer p2] 109)) _ o1):=Lib.hid (MayFr.kept hv (.all hA))
   have HW1:=Lib.hid (HW0.out.trans (hb.mono HW0.out.size))
   have HW2:=Lib.hid (HW1.out.trans (hA.mono HW1.out.size))
   have HY4:=Lib.hid ((HX4.out.below hb HX4.out.lt).below hA (Nat.lt_of_lt_of_le HX4.out.lt hb.size))
   have HY5:=Lib.hid ((HX5.out.below hb HX5.out.lt).below hA (Nat.lt_of_lt_of_le HX5.out.lt hb.size))
   have HY7:=Lib.hid (B4.new w1 (.int .i64 s1) (.pointer p1) (.int .i64 s2) (.pointer p2) 109)
   have HZ1:Hid (True∧w.heap.size+2≤w1.heap.size):=Lib.hid ⟨trivial,Nat.le_trans HZ0.out.2 hb.size⟩
   clear hv hb hA HX4 HX5 HW0 HZ0 HW1
   go_wp2_with fail
   refine (read_any (Bar 2 P w) t o2 _ (fun k hk=>Bar.new HP.out k (Nat.le_trans HZ1.out.2 (Nat.le_trans (by simp) hk))) ho2 ht).mono ?_
   rintro e w2 ⟨s3,p3,s4,p4,rfl,hv,hb⟩
   rw [HB2.out.2]
   have hA:=(Below.refl w2.heap.size w2).alloc (Nat.le_refl _) (.cells #[.int .i64 s3,.pointer p3,.int .i64 s4,.pointer p4] 109)
   have HV2:Hid (MayFr (Bar 2 P w) (w2.alloc (.cells #[.int .i64 s3,.pointer p3,.int .i64 s4,.pointer p4] 109)) _ o2):=Lib.hid (MayFr.kept hv (.all hA))
   have HV3:=Lib.hid ((HV1.out.kept (.all hb)).kept (.all hA))
   have HW3:=Lib.hid ((HW2.out.trans (hb.mono HW2.out.size)).trans (hA.mono (Nat.le_trans HW2.out.size hb.size)))
   have HU4:=Lib.hid ((HY4.out.below hb HY4.out.lt).below hA (Nat.lt_of_lt_of_le HY4.out.lt hb.size))
   have HU5:=Lib.hid ((HY5.out.below hb HY5.out.lt).below hA (Nat.lt_of_lt_of_le HY5.out.lt hb.size))
   have HU7:=Lib.hid ((HY7.out.below hb HY7.out.lt).below hA (Nat.lt_of_lt_of_le HY7.out.lt hb.size))
   have HU9:=Lib.hid (B4.new w2 (.int .i64 s3) (.pointer p3) (.int .i64 s4) (.pointer p4) 109)
   have hz2:w.heap.size+2<w2.heap.size:=by have h1:=HY7.out.lt;have h2:=hb.size;have h3:=HZ1.out.2;omega
   have hz3:w1.heap.size<w2.heap.size:=by have h1:=HY7.out.lt;have h2:=hb.size;omega
   have hz1:=HZ1.out.2
   clear hv hb hA HY4 HY5 HY7 HV1 HW2 HZ1
   have n1:w.heap.size≠w1.heap.size:=by omega
   have n2:w.heap.size≠w2.heap.size:=by omega
   have n3:w.heap.size+1≠w1.heap.size:=by omega
   have n4:w.heap.size+1≠w2.heap.size:=by omega
   have n5:w1.heap.size≠w2.heap.size:=by omega
   clear hz1 hz2 hz3
   skip
   go_wp2_with fail
   obtain ⟨a0,a1,a2,a3⟩:=HU4.out.cell
   obtain ⟨a4,a5,a6,a7⟩:=HU4.out.froz
   obtain ⟨b0,b1,b2,b3⟩:=HU5.out.cell
   obtain ⟨b4,b5,b6,b7⟩:=HU5.out.froz
   obtain ⟨c0,c1,c2,c3⟩:=HU7.out.cell
   obtain ⟨d0,d1,d2,d3⟩:=HU9.out.cell
   go_region
   go_wp2
   have k5:=((HU5.out.only (set4_only (w2.alloc (.cells #[.int .i64 s3,.pointer p3,.int .i64 s4,.pointer p4] 109)) w.heap.size (.int .i64 s1) (.pointer p1) (.int .i64 s2) (.pointer p2)) (by omega)).put (.int .i64 s3) (.pointer p3) (.int .i64 s4) (.pointer p4)).cell
   have k4:=((HU4.out.put (.int .i64 s1) (.pointer p1) (.int .i64 s2) (.pointer p2)).only (set4_only (set4 (w2.alloc (.cells #[.int .i64 s3,.pointer p3,.int .i64 s4,.pointer p4] 109)) w.heap.size (.int .i64 s1) (.pointer p1) (.int .i64 s2) (.pointer p2)) (w.heap.size+1) (.int .i64 s3) (.pointer p3) (.int .i64 s4) (.pointer p4)) (by omega)).cell
   obtain ⟨l0,l1,l2,l3⟩:=k4
   obtain ⟨m0,m1,m2,m3⟩:=k5
   clear a0 a1 a2 a3 a4 a5 a6 a7 b0 b1 b2 b3 b4 b5 b6 b7 c0 c1 c2 c3 d0 d1 d2 d3
   refine bodyPost_ret (v := .tuple #[.agg #[.int .i64 s1,.pointer p1,.int .i64 s2,.pointer p2],.agg #[.int .i64 s3,.pointer p3,.int .i64 s4,.pointer p4],.bool false]) (by simp only [results,Tryz.results107];simp [go_sem,drew_cell,l0,l1,l2,l3,m0,m1,m2,m3]) rfl ?_
   exact BothQ.two HW3.out HV3.out HV2.out
 · obtain rfl:r=b2:=by rw [← hr2];rfl
   clear hr2
   go_enter Tryz.func107,Tryz.ntmps107
   go_wp2_with fail
   refine (read_any (Bar 2 P w) s o1 _ (fun k hk=>Bar.new HP.out k (Nat.le_trans HZ0.out.2 hk)) ho1 hs).mono ?_
   rintro e w1 ⟨s1,p1,s2,p2,rfl,hv,hb⟩
   rw [HB1.out.2]
   have hA:=(Below.refl w1.heap.size w1).alloc (Nat.le_refl _) (.cells #[.int .i64 s1,.pointer p1,.int .i64 s2,.pointer p2] 109)
   have HV1:Hid (MayFr (Bar 2 P w) (w1.alloc (.cells #[.int .i64 s1,.pointer p1,.int .i64 s2,.pointer p2] 109)) _ o1):=Lib.hid (MayFr.kept hv (.all hA))
   have HW1:=Lib.hid (HW0.out.trans (hb.mono HW0.out.size))
   have HW2:=Lib.hid (HW1.out.trans (hA.mono HW1.out.size))
   have HY4:=Lib.hid ((HX4.out.below hb HX4.out.lt).below hA (Nat.lt_of_lt_of_le HX4.out.lt hb.size))
   have HY5:=Lib.hid ((HX5.out.below hb HX5.out.lt).below hA (Nat.lt_of_lt_of_le HX5.out.lt hb.size))
   have HY7:=Lib.hid (B4.new w1 (.int .i64 s1) (.pointer p1) (.int .i64 s2) (.pointer p2) 109)
   have HZ1:Hid (True∧w.heap.size+2≤w1.heap.size):=Lib.hid ⟨trivial,Nat.le_trans HZ0.out.2 hb.size⟩
   clear hv hb hA HX4 HX5 HW0 HZ0 HW1
   go_wp2_with fail
   refine (read_any (Bar 2 P w) t o2 _ (fun k hk=>Bar.new HP.out k (Nat.le_trans HZ1.out.2 (Nat.le_trans (by simp) hk))) ho2 ht).mono ?_
   rintro e w2 ⟨s3,p3,s4,p4,rfl,hv,hb⟩
   rw [HB2.out.2]
   have hA:=(Below.refl w2.heap.size w2).alloc (Nat.le_refl _) (.cells #[.int .i64 s3,.pointer p3,.int .i64 s4,.pointer p4] 109)
   have HV2:Hid (MayFr (Bar 2 P w) (w2.alloc (.cells #[.int .i64 s3,.pointer p3,.int .i64 s4,.pointer p4] 109)) _ o2):=Lib.hid (MayFr.kept hv (.all hA))
   have HV3:=Lib.hid ((HV1.out.kept (.all hb)).kept (.all hA))
   have HW3:=Lib.hid ((HW2.out.trans (hb.mono HW2.out.size)).trans (hA.mono (Nat.le_trans HW2.out.size hb.size)))
   have HU4:=Lib.hid ((HY4.out.below hb HY4.out.lt).below hA (Nat.lt_of_lt_of_le HY4.out.lt hb.size))
   have HU5:=Lib.hid ((HY5.out.below hb HY5.out.lt).below hA (Nat.lt_of_lt_of_le HY5.out.lt hb.size))
   have HU7:=Lib.hid ((HY7.out.below hb HY7.out.lt).below hA (Nat.lt_of_lt_of_le HY7.out.lt hb.size))
   have HU9:=Lib.hid (B4.new w2 (.int .i64 s3) (.pointer p3) (.int .i64 s4) (.pointer p4) 109)
   have hz2:w.heap.size+2<w2.heap.size:=by have h1:=HY7.out.lt;have h2:=hb.size;have h3:=HZ1.out.2;omega
   have hz3:w1.heap.size<w2.heap.size:=by have h1:=HY7.out.lt;have h2:=hb.size;omega
   have hz1:=HZ1.out.2
   clear hv hb hA HY4 HY5 HY7 HV1 HW2 HZ1
   have n1:w.heap.size≠w1.heap.size:=by omega
   have n2:w.heap.size≠w2.heap.size:=by omega
   have n3:w.heap.size+1≠w1.heap.size:=by omega
   have n4:w.heap.size+1≠w2.heap.size:=by omega
   have n5:w1.heap.size≠w2.heap.size:=by omega
   clear hz1 hz2 hz3
   skip
   go_wp2_with fail
   obtain ⟨a0,a1,a2,a3⟩:=HU4.out.cell
   obtain ⟨a4,a5,a6,a7⟩:=HU4.out.froz
   obtain ⟨b0,b1,b2,b3⟩:=HU5.out.cell
   obtain ⟨b4,b5,b6,b7⟩:=HU5.out.froz
   obtain ⟨c0,c1,c2,c3⟩:=HU7.out.cell
   obtain ⟨d0,d1,d2,d3⟩:=HU9.out.cell
   go_region
   go_wp2
   have k5:=((HU5.out.only (set4_only (w2.alloc (.cells #[.int .i64 s3,.pointer p3,.int .i64 s4,.pointer p4] 109)) w.heap.size (.int .i64 s1) (.pointer p1) (.int .i64 s2) (.pointer p2)) (by omega)).put (.int .i64 s3) (.pointer p3) (.int .i64 s4) (.pointer p4)).cell
   have k4:=((HU4.out.put (.int .i64 s1) (.pointer p1) (.int .i64 s2) (.pointer p2)).only (set4_only (set4 (w2.alloc (.cells #[.int .i64 s3,.pointer p3,.int .i64 s4,.pointer p4] 109)) w.heap.size (.int .i64 s1) (.pointer p1) (.int .i64 s2) (.pointer p2)) (w.heap.size+1) (.int .i64 s3) (.pointer p3) (.int .i64 s4) (.pointer p4)) (by omega)).cell
   obtain ⟨l0,l1,l2,l3⟩:=k4
   obtain ⟨m0,m1,m2,m3⟩:=k5
   clear a0 a1 a2 a3 a4 a5 a6 a7 b0 b1 b2 b3 b4 b5 b6 b7 c0 c1 c2 c3 d0 d1 d2 d3
   refine bodyPost_ret (v := .tuple #[.agg #[.int .i64 s1,.pointer p1,.int .i64 s2,.pointer p2],.agg #[.int .i64 s3,.pointer p3,.int .i64 s4,.pointer p4],.bool r]) (by simp only [results,Tryz.results107];simp [go_sem,drew_cell,l0,l1,l2,l3,m0,m1,m2,m3]) rfl ?_
   exact BothQ.two HW3.out HV3.out HV2.out
end Go.Proofs.YtkhdocdddicgpaaGreatDoor
set_option linter.unusedVariables false
set_option linter.unusedSimpArgs false
namespace Go.Proofs.YtkhdocdddicgpaaGreatDoor
open Go.RowKit _root_.Go.Proofs.YtkhdocdddicgpaaGreatDoor.Nm
def Ms (w W:World) (x0 x1 x2 x3 y0 y1 y2 y3:Value):Prop :=
 Below w.heap.size w W∧w.heap.size+4≤W.heap.size∧B4 W w.heap.size x0 x1 x2 x3∧B4 W (w.heap.size+1) y0 y1 y2 y3∧Bx W (w.heap.size+1+1) (.int .i64 0) (.pointer none)∧Bx W (w.heap.size+1+1+1) (.int .i64 0) (.pointer none)
theorem Ms.start (w:World) (x0 x1 x2 x3 y0 y1 y2 y3:Value) (T1 T2 T3 T4:TypeId) :
 Ms w ((((w.alloc (.cells #[x0,x1,x2,x3] T1)).alloc (.cells #[y0,y1,y2,y3] T2)).alloc (.cells #[.int .i64 0,.pointer none] T3)).alloc (.cells #[.int .i64 0,.pointer none] T4)) x0 x1 x2 x3 y0 y1 y2 y3:=by
 have h1:=B4.new w x0 x1 x2 x3 T1
 have h2:=B4.new (w.alloc (.cells #[x0,x1,x2,x3] T1)) y0 y1 y2 y3 T2
 rw [World.size_alloc] at h2
 have a1:=(Below.refl _ (w.alloc (.cells #[x0,x1,x2,x3] T1))).alloc (Nat.le_refl _) (.cells #[y0,y1,y2,y3] T2)
 have a2:=(Below.refl _ ((w.alloc (.cells #[x0,x1,x2,x3] T1)).alloc (.cells #[y0,y1,y2,y3] T2))).alloc (Nat.le_refl _) (.cells #[.int .i64 0,.pointer none] T3)
 have a3:=(Below.refl _ (((w.alloc (.cells #[x0,x1,x2,x3] T1)).alloc (.cells #[y0,y1,y2,y3] T2)).alloc (.cells #[.int .i64 0,.pointer none] T3))).alloc (Nat.le_refl _) (.cells #[.int .i64 0,.pointer none] T4)
 exact ⟨boxes4 _ _ _ _ _,by simp,((h1.below a1 (by simp)).below a2 (by simp <;> omega)).below a3 (by simp <;> omega),(h2.below a2 (by simp)).below a3 (by simp <;> omega),Bx.alloc ⟨T3,third_new _ _ _ _⟩ _,⟨T4,fourth_new _ _ _ _ _⟩⟩
theorem Ms.next {w W W':World} {x0 x1 x2 x3 y0 y1 y2 y3:Value} {B:Nat} (h:Ms w W x0 x1 x2 x3 y0 y1 y2 y3) (hb:Below B W W') (hB:W.heap.size≤B):Ms w W' x0 x1 x2 x3 y0 y1 y2 y3:=by
 obtain ⟨h1,h2,h3,h4,h5,h6⟩:=h
 exact ⟨h1.trans (hb.mono (by omega)),Nat.le_trans h2 hb.size,h3.below hb (by have:=h3.lt;omega),h4.below hb (by have:=h4.lt;omega),h5.below hb (by have:=h5.lt;omega),h6.below hb (by have:=h6.lt;omega)⟩
theorem Ms.drew {w W:World} {x0 x1 x2 x3 y0 y1 y2 y3:Value} (h:Ms w W x0 x1 x2 x3 y0 y1 y2 y3):Ms w W.drew x0 x1 x2 x3 y0 y1 y2 y3:=⟨h.1.drew,h.2.1,h.2.2.1.drew,h.2.2.2.1.drew,h.2.2.2.2.1.drew,h.2.2.2.2.2.drew⟩
theorem Ms.cells {w W:World} {x0 x1 x2 x3 y0 y1 y2 y3:Value} (h:Ms w W x0 x1 x2 x3 y0 y1 y2 y3) :
 W.cell? ⟨w.heap.size,0,none⟩=some x0∧W.cell? ⟨w.heap.size,1,none⟩=some x1∧W.cell? ⟨w.heap.size,2,none⟩=some x2∧W.cell? ⟨w.heap.size,3,none⟩=some x3 ∧
 W.cell? ⟨w.heap.size+1,0,none⟩=some y0∧W.cell? ⟨w.heap.size+1,1,none⟩=some y1∧W.cell? ⟨w.heap.size+1,2,none⟩=some y2∧W.cell? ⟨w.heap.size+1,3,none⟩=some y3 :=
 ⟨h.2.2.1.cell.1,h.2.2.1.cell.2.1,h.2.2.1.cell.2.2.1,h.2.2.1.cell.2.2.2,h.2.2.2.1.cell.1,h.2.2.2.1.cell.2.1,h.2.2.2.1.cell.2.2.1,h.2.2.2.1.cell.2.2.2⟩
theorem Ms.res {w W:World} {x0 x1 x2 x3 y0 y1 y2 y3:Value} (h:Ms w W x0 x1 x2 x3 y0 y1 y2 y3) :
 W.cell? ⟨w.heap.size+1+1,0,none⟩=some (.int .i64 0)∧W.cell? ⟨w.heap.size+1+1,1,none⟩=some (.pointer none)∧W.cell? ⟨w.heap.size+1+1+1,0,none⟩=some (.int .i64 0)∧W.cell? ⟨w.heap.size+1+1+1,1,none⟩=some (.pointer none) ∧
 W.frozen? ⟨w.heap.size+1+1,0,none⟩=false∧W.frozen? ⟨w.heap.size+1+1,1,none⟩=false∧W.frozen? ⟨w.heap.size+1+1+1,0,none⟩=false∧W.frozen? ⟨w.heap.size+1+1+1,1,none⟩=false :=
 ⟨h.2.2.2.2.1.cell.1,h.2.2.2.2.1.cell.2.1,h.2.2.2.2.2.cell.1,h.2.2.2.2.2.cell.2.1,h.2.2.2.2.1.cell.2.2.1,h.2.2.2.2.1.cell.2.2.2,h.2.2.2.2.2.cell.2.2.1,h.2.2.2.2.2.cell.2.2.2⟩
def OpC (k:Nat) (f g:Rat→Rat→Int):Prop:=∀ (P:Nat→Prop) (x y:Value) (p q:Rat) (w:World),(∀ k,w.heap.size≤k→P k)→IsFr P w x p→IsFr P w y q→RT 400 p→RT 400 q→Calls Tryz.prog k #[x,y] w (DivPost P (f p q) (g p q) w)
set_option maxRecDepth 100000 in
set_option maxHeartbeats 6400000 in
theorem mul_any:OpC 89 fMul gAdd:=by
 intro P x y p q w hP hx hy hp hq
 obtain ⟨s1,p1,s2,p2,rfl,hn1,hd1⟩:=hx
 obtain ⟨s3,p3,s4,p4,rfl,hn2,hd2⟩:=hy
 have hM:Ms w ((((w.alloc (.cells #[.int .i64 s1,.pointer p1,.int .i64 s2,.pointer p2] 109)).alloc (.cells #[.int .i64 s3,.pointer p3,.int .i64 s4,.pointer p4] 109)).alloc (.cells #[.int .i64 0,.pointer none] 107)).alloc (.cells #[.int .i64 0,.pointer none] 107)) (.int .i64 s1) (.pointer p1) (.int .i64 s2) (.pointer p2) (.int .i64 s3) (.pointer p3) (.int .i64 s4) (.pointer p4):=Ms.start w _ _ _ _ _ _ _ _ _ _ _ _
 have HP:=Lib.hid hP
 have HM0:=Lib.hid hM.drew
 have HN1:=Lib.hid ((hn1.bar (m:=4) hM.1).kept (.drew _ _))
 have HD1:=Lib.hid ((hd1.bar (m:=4) hM.1).kept (.drew _ _))
 have HN2:=Lib.hid ((hn2.bar (m:=4) hM.1).kept (.drew _ _))
 have HD2:=Lib.hid ((hd2.bar (m:=4) hM.1).kept (.drew _ _))
 have HRP:=Lib.hid hp
 have HRQ:=Lib.hid hq
 have HLP:=Lib.hid (hp.limbs 45 (by omega))
 have HLQ:=Lib.hid (hq.limbs 45 (by omega))
 clear hP hM hn1 hd1 hn2 hd2 hp hq
 obtain ⟨c0,c1,c2,c3,c4,c5,c6,c7⟩:=HM0.out.cells
 obtain ⟨r0,r1,r2,r3,r4,r5,r6,r7⟩:=HM0.out.res
 go_enter Tryz.func89,Tryz.ntmps89
 go_wp2_with fail
 go_region_held3 (fun w'=>w'.cell? ⟨w.heap.size,0,none⟩=some (.int .i64 s1)∧w'.cell? ⟨w.heap.size,1,none⟩=some (.pointer p1)∧w'.cell? ⟨w.heap.size,2,none⟩=some (.int .i64 s2)∧w'.cell? ⟨w.heap.size,3,none⟩=some (.pointer p2)∧w'.cell? ⟨w.heap.size+1,0,none⟩=some (.int .i64 s3)∧w'.cell? ⟨w.heap.size+1,1,none⟩=some (.pointer p3)∧w'.cell? ⟨w.heap.size+1,2,none⟩=some (.int .i64 s4)∧w'.cell? ⟨w.heap.size+1,3,none⟩=some (.pointer p4)) (first | ((try dsimp only);(repeat' apply And.intro);all_goals (first | (rw [cell_set2 _ _ _ _ _ _ (by omega),cell_set2 _ _ _ _ _ _ (by omega)];with_reducible assumption) | (rw [cell_set2 _ _ _ _ _ _ (by omega)];with_reducible assumption) | with_reducible assumption)) | go_keep) (first | (go_at_call 90;have hgd:=hM1;clear hgd;refine (Times_any (Bar 4 P w) _ _ p.den q.den _ (by intro k hk;exact Bar.new HP.out k (Nat.le_trans hM1.2.1 hk)) (by exact (HD1.out.kept (.all hb1))) (by exact (HD2.out.kept (.all hb1))) (Nat.le_trans HLP.out.2 (by omega)) (Nat.le_trans HLQ.out.2 (by omega))).mono ?_;rintro e w2 ⟨v2,rfl,hv2,hb2⟩;obtain ⟨a2,b2,rfl⟩:=hv2.form;have hM2:=hM1.next hb2 (Nat.le_refl _);clear c1_0 c1_1 c1_2 c1_3 c1_4 c1_5 c1_6 c1_7 r1_0 r1_1 r1_2 r1_3 r1_4 r1_5 r1_6 r1_7;obtain ⟨c2_0,c2_1,c2_2,c2_3,c2_4,c2_5,c2_6,c2_7⟩:=hM2.cells;obtain ⟨r2_0,r2_1,r2_2,r2_3,r2_4,r2_5,r2_6,r2_7⟩:=hM2.res) | (go_at_call 90;refine (Times_any (Bar 4 P w) _ _ p.num q.num _ (by intro k hk;exact Bar.new HP.out k (Nat.le_trans HM0.out.2.1 hk)) (by exact HN1.out) (by exact HN2.out) (Nat.le_trans HLP.out.1 (by omega)) (Nat.le_trans HLQ.out.1 (by omega))).mono ?_;rintro e w1 ⟨v1,rfl,hv1,hb1⟩;obtain ⟨a1,b1,rfl⟩:=hv1.form;have hM1:=HM0.out.next hb1 (Nat.le_refl _);clear c0 c1 c2 c3 c4 c5 c6 c7 r0 r1 r2 r3 r4 r5 r6 r7;obtain ⟨c1_0,c1_1,c1_2,c1_3,c1_4,c1_5,c1_6,c1_7⟩:=hM1.cells;obtain ⟨r1_0,r1_1,r1_2,r1_3,r1_4,r1_5,r1_6,r1_7⟩:=hM1.res))
 have HV1:=Lib.hid ((hv1.kept (.all hb2)))
 have HV2:=Lib.hid (hv2)
 have HW:=Lib.hid hM2.1
 clear c2_0 c2_1 c2_2 c2_3 c2_4 c2_5 c2_6 c2_7 r2_4 r2_5 r2_6 r2_7
 go_wp2
 refine bodyPost_ret (v := .tuple #[.agg #[.int .i64 a1,.pointer b1],.agg #[.int .i64 a2,.pointer b2]]) (by simp [results,Tryz.results89,go_sem,r2_0,r2_1,r2_2,r2_3]) rfl ?_
 obtain ⟨e1,e2,e3⟩:=four_in (x0 := .int .i64 a1) (x1 := .pointer b1) (y0 := .int .i64 a2) (y1 := .pointer b2) HV1.out HV2.out HW.out
 exact ⟨a1,b1,a2,b2,rfl,e1,e2,e3⟩
set_option maxRecDepth 100000 in
set_option maxHeartbeats 6400000 in
theorem qplus_any:OpC 70 fAdd gAdd:=by
 intro P x y p q w hP hx hy hp hq
 obtain ⟨s1,p1,s2,p2,rfl,hn1,hd1⟩:=hx
 obtain ⟨s3,p3,s4,p4,rfl,hn2,hd2⟩:=hy
 have hM:Ms w ((((w.alloc (.cells #[.int .i64 s1,.pointer p1,.int .i64 s2,.pointer p2] 109)).alloc (.cells #[.int .i64 s3,.pointer p3,.int .i64 s4,.pointer p4] 109)).alloc (.cells #[.int .i64 0,.pointer none] 107)).alloc (.cells #[.int .i64 0,.pointer none] 107)) (.int .i64 s1) (.pointer p1) (.int .i64 s2) (.pointer p2) (.int .i64 s3) (.pointer p3) (.int .i64 s4) (.pointer p4):=Ms.start w _ _ _ _ _ _ _ _ _ _ _ _
 have HP:=Lib.hid hP
 have HM0:=Lib.hid hM.drew
 have HN1:=Lib.hid ((hn1.bar (m:=4) hM.1).kept (.drew _ _))
 have HD1:=Lib.hid ((hd1.bar (m:=4) hM.1).kept (.drew _ _))
 have HN2:=Lib.hid ((hn2.bar (m:=4) hM.1).kept (.drew _ _))
 have HD2:=Lib.hid ((hd2.bar (m:=4) hM.1).kept (.drew _ _))
 have HRP:=Lib.hid hp
 have HRQ:=Lib.hid hq
 have HLP:=Lib.hid (hp.limbs 45 (by omega))
 have HLQ:=Lib.hid (hq.limbs 45 (by omega))
 clear hP hM hn1 hd1 hn2 hd2 hp hq
 obtain ⟨c0,c1,c2,c3,c4,c5,c6,c7⟩:=HM0.out.cells
 obtain ⟨r0,r1,r2,r3,r4,r5,r6,r7⟩:=HM0.out.res
 go_enter Tryz.func70,Tryz.ntmps70
 go_wp2_with fail
 have HLS:Hid ((ds 1000000000 (p.num*(q.den:Int)).natAbs).length≤1000∧(ds 1000000000 (q.num*(p.den:Int)).natAbs).length≤1000):=Lib.hid ⟨limbs_of_ten (HRP.out.1.mul HRQ.out.2) 1000 (by omega),limbs_of_ten (HRQ.out.1.mul HRP.out.2) 1000 (by omega)⟩
 go_region_held3 (fun w'=>w'.cell? ⟨w.heap.size,0,none⟩=some (.int .i64 s1)∧w'.cell? ⟨w.heap.size,1,none⟩=some (.pointer p1)∧w'.cell? ⟨w.heap.size,2,none⟩=some (.int .i64 s2)∧w'.cell? ⟨w.heap.size,3,none⟩=some (.pointer p2)∧w'.cell? ⟨w.heap.size+1,0,none⟩=some (.int .i64 s3)∧w'.cell? ⟨w.heap.size+1,1,none⟩=some (.pointer p3)∧w'.cell? ⟨w.heap.size+1,2,none⟩=some (.int .i64 s4)∧w'.cell? ⟨w.heap.size+1,3,none⟩=some (.pointer p4)) (first | ((try dsimp only);(repeat' apply And.intro);all_goals (first | (rw [cell_set2 _ _ _ _ _ _ (by omega),cell_set2 _ _ _ _ _ _ (by omega)];with_reducible assumption) | (rw [cell_set2 _ _ _ _ _ _ (by omega)];with_reducible assumption) | with_reducible assumption)) | go_keep) (first | (go_at_call 90;have hgd:=hM3;clear hgd;refine (Times_any (Bar 4 P w) _ _ p.den q.den _ (by intro k hk;exact Bar.new HP.out k (Nat.le_trans hM3.2.1 hk)) (by exact (((HD1.out.kept (.all hb1)).kept (.all hb2)).kept (.all hb3))) (by exact (((HD2.out.kept (.all hb1)).kept (.all hb2)).kept (.all hb3))) (Nat.le_trans HLP.out.2 (by omega)) (Nat.le_trans HLQ.out.2 (by omega))).mono ?_;rintro e w4 ⟨v4,rfl,hv4,hb4⟩;obtain ⟨a4,b4,rfl⟩:=hv4.form;have hM4:=hM3.next hb4 (Nat.le_refl _);clear c3_0 c3_1 c3_2 c3_3 c3_4 c3_5 c3_6 c3_7 r3_0 r3_1 r3_2 r3_3 r3_4 r3_5 r3_6 r3_7;obtain ⟨c4_0,c4_1,c4_2,c4_3,c4_4,c4_5,c4_6,c4_7⟩:=hM4.cells;obtain ⟨r4_0,r4_1,r4_2,r4_3,r4_4,r4_5,r4_6,r4_7⟩:=hM4.res) | (go_at_call 109;have hgd:=hM2;clear hgd;refine (Plus_any (Bar 4 P w) _ _ (p.num*(q.den:Int)) (q.num*(p.den:Int)) _ (by intro k hk;exact Bar.new HP.out k (Nat.le_trans hM2.2.1 hk)) (by exact hv1.kept (.all hb2)) (by exact hv2) HLS.out.1 HLS.out.2).mono ?_;rintro e w3 ⟨v3,rfl,hv3,hb3⟩;obtain ⟨a3,b3,rfl⟩:=hv3.form;have hM3:=hM2.next hb3 (Nat.le_refl _);clear c2_0 c2_1 c2_2 c2_3 c2_4 c2_5 c2_6 c2_7 r2_0 r2_1 r2_2 r2_3 r2_4 r2_5 r2_6 r2_7;obtain ⟨c3_0,c3_1,c3_2,c3_3,c3_4,c3_5,c3_6,c3_7⟩:=hM3.cells;obtain ⟨r3_0,r3_1,r3_2,r3_3,r3_4,r3_5,r3_6,r3_7⟩:=hM3.res) | (go_at_call 90;have hgd:=hM1;clear hgd;refine (Times_any (Bar 4 P w) _ _ q.num p.den _ (by intro k hk;exact Bar.new HP.out k (Nat.le_trans hM1.2.1 hk)) (by exact (HN2.out.kept (.all hb1))) (by exact (HD1.out.kept (.all hb1))) (Nat.le_trans HLQ.out.1 (by omega)) (Nat.le_trans HLP.out.2 (by omega))).mono ?_;rintro e w2 ⟨v2,rfl,hv2,hb2⟩;obtain ⟨a2,b2,rfl⟩:=hv2.form;have hM2:=hM1.next hb2 (Nat.le_refl _);clear c1_0 c1_1 c1_2 c1_3 c1_4 c1_5 c1_6 c1_7 r1_0 r1_1 r1_2 r1_3 r1_4 r1_5 r1_6 r1_7;obtain ⟨c2_0,c2_1,c2_2,c2_3,c2_4,c2_5,c2_6,c2_7⟩:=hM2.cells;obtain ⟨r2_0,r2_1,r2_2,r2_3,r2_4,r2_5,r2_6,r2_7⟩:=hM2.res) | (go_at_call 90;refine (Times_any (Bar 4 P w) _ _ p.num q.den _ (by intro k hk;exact Bar.new HP.out k (Nat.le_trans HM0.out.2.1 hk)) (by exact HN1.out) (by exact HD2.out) (Nat.le_trans HLP.out.1 (by omega)) (Nat.le_trans HLQ.out.2 (by omega))).mono ?_;rintro e w1 ⟨v1,rfl,hv1,hb1⟩;obtain ⟨a1,b1,rfl⟩:=hv1.form;have hM1:=HM0.out.next hb1 (Nat.le_refl _);clear c0 c1 c2 c3 c4 c5 c6 c7 r0 r1 r2 r3 r4 r5 r6 r7;obtain ⟨c1_0,c1_1,c1_2,c1_3,c1_4,c1_5,c1_6,c1_7⟩:=hM1.cells;obtain ⟨r1_0,r1_1,r1_2,r1_3,r1_4,r1_5,r1_6,r1_7⟩:=hM1.res))
 have HV1:=Lib.hid ((hv3.kept (.all hb4)))
 have HV2:=Lib.hid (hv4)
 have HW:=Lib.hid hM4.1
 clear c4_0 c4_1 c4_2 c4_3 c4_4 c4_5 c4_6 c4_7 r4_4 r4_5 r4_6 r4_7
 go_wp2
 refine bodyPost_ret (v := .tuple #[.agg #[.int .i64 a3,.pointer b3],.agg #[.int .i64 a4,.pointer b4]]) (by simp [results,Tryz.results70,go_sem,r4_0,r4_1,r4_2,r4_3]) rfl ?_
 obtain ⟨e1,e2,e3⟩:=four_in (x0 := .int .i64 a3) (x1 := .pointer b3) (y0 := .int .i64 a4) (y1 := .pointer b4) HV1.out HV2.out HW.out
 exact ⟨a3,b3,a4,b4,rfl,e1,e2,e3⟩
end Go.Proofs.YtkhdocdddicgpaaGreatDoor
set_option linter.unusedVariables false
set_option linter.unusedSimpArgs false
namespace Go.Proofs.YtkhdocdddicgpaaGreatDoor
open Go.RowKit _root_.Go.Proofs.YtkhdocdddicgpaaGreatDoor.Nm
theorem OpRes.none {f g:Rat→Rat→Int} {a b s:ByteArray} {e:Int} (h:OpRes f g a b s e) (hn:((rval a.data.toList).isSome&&(rval b.data.toList).isSome)=false):s=⟨#[]⟩∧e=3:=by
 cases h1:rval a.data.toList with
 | none=>exact h.bad1 h1
 | some p =>
  cases h2:rval b.data.toList with
  | none=>exact h.bad2 h2
  | some q=>rw [h1,h2] at hn;cases hn
theorem both_some {o1 o2:Option Rat} (h:(o1.isSome&&o2.isSome)=true):∃ p q,o1=some p∧o2=some q:=by
 cases o1 with
 | none=>cases h
 | some p =>
  cases o2 with
  | none=>cases h
  | some q=>exact ⟨p,q,rfl,rfl⟩
theorem RT.val {s:ByteArray} {q:Rat} (h:rval s.data.toList=some q):RT 400 q := .of (RIs.of h).2
set_option maxRecDepth 100000 in
set_option maxHeartbeats 1600000 in
theorem combine_add (a b s:ByteArray) (ec:Int) (w:World) (hr:Hid (OpRes fAdd gAdd a b s ec))
 (hl:Hid (∀ p q,RT 400 p→RT 400 q→Ten 801 (fAdd p q)∧Ten 801 (gAdd p q))) (hsa:a.size≤100000) (hsb:b.size≤100000) (htab:Tab w) :
 Calls Tryz.prog 69 #[.string a,.string b,.func (.func 70) #[] #[]] w fun e w'=>e = .returned (.tuple #[.string s,.int .i64 ec])∧Below w.heap.size w w':=by
 have HOP:=Lib.hid qplus_any
 have HT:=Lib.hid htab
 obtain ⟨o1,ho1⟩:∃ o,rval a.data.toList=o:=⟨_,rfl⟩
 obtain ⟨o2,ho2⟩:∃ o,rval b.data.toList=o:=⟨_,rfl⟩
 have HO1:=Lib.hid ho1
 have HO2:=Lib.hid ho2
 clear htab
 cases hbo:(o1.isSome&&o2.isSome)
 · have hse:=hr.out.none (by rw [ho1,ho2];exact hbo)
   obtain ⟨rfl,rfl⟩:=hse
   have HBO:=Lib.hid hbo
   clear hbo ho1 ho2
   go_enter Tryz.func69,Tryz.ntmps69
   go_wp2_with fail
   refine (readBoth_any Ev a b o1 o2 false _ Ev.all HO1 HO2 HBO hsa hsb).mono ?_
   rintro e w1 ⟨s1,p1,s2,p2,s3,p3,s4,p4,rfl,h1,h2,hb⟩
   have HB:=Lib.hid hb
   clear h1 h2 hb
   go_wp2
   go_ret2
   exact ⟨rfl,((HB.out.alloc HB.out.size _).alloc (by have:=HB.out.size;simp;omega) _)⟩
 · obtain ⟨p,q,rfl,rfl⟩:=both_some hbo
   have HBO:=Lib.hid hbo
   have HQ:=Lib.hid (hr.out.good ho1 ho2)
   have HRP:=Lib.hid (RT.val ho1)
   have HRQ:=Lib.hid (RT.val ho2)
   have HLF:=Lib.hid (hl.out p q HRP.out HRQ.out)
   clear hbo ho1 ho2
   go_enter Tryz.func69,Tryz.ntmps69
   go_wp2_with fail
   refine (readBoth_any Ev a b (some p) (some q) true _ Ev.all HO1 HO2 HBO hsa hsb).mono ?_
   rintro e w1 ⟨s1,p1,s2,p2,s3,p3,s4,p4,rfl,h1,h2,hb⟩
   have H1:=Lib.hid (h1 p rfl)
   have H2:=Lib.hid (h2 q rfl)
   have HB:=Lib.hid hb
   clear h1 h2 hb
   go_wp2_with fail
   refine (HOP.out Ev _ _ p q _ Ev.all (H1.out.kept (.all (boxes2 w1 _ _))) (H2.out.kept (.all (boxes2 w1 _ _))) HRP.out HRQ.out).mono ?_
   rintro e w2 ⟨a1,b1,a2,b2,rfl,hv1,hv2,hb2⟩
   have HB2:=Lib.hid (HB.out.trans ((boxes2 w1 _ _).trans (hb2.mono (by simp;omega)) |>.mono HB.out.size))
   have HV1:=Lib.hid hv1
   have HV2:=Lib.hid hv2
   clear hv1 hv2 hb2 H1 H2
   go_wp2_with fail
   refine (quotientText_any Ev _ _ (fAdd p q) (gAdd p q) s ec _ Ev.all HV1.out HV2.out HQ (limbs_of_ten HLF.out.1 900 (by omega)) (limbs_of_ten HLF.out.2 900 (by omega)) (tab_keep HT.out HB2.out)).mono ?_
   rintro e w3 ⟨rfl,hb3⟩
   have HB3:=Lib.hid (HB2.out.trans (hb3.mono HB2.out.size))
   clear hb3
   go_wp2
   go_ret2
   exact ⟨rfl,HB3.out⟩
set_option maxRecDepth 100000 in
set_option maxHeartbeats 1600000 in
theorem combine_mul (a b s:ByteArray) (ec:Int) (w:World) (hr:Hid (OpRes fMul gAdd a b s ec))
 (hl:Hid (∀ p q,RT 400 p→RT 400 q→Ten 801 (fMul p q)∧Ten 801 (gAdd p q))) (hsa:a.size≤100000) (hsb:b.size≤100000) (htab:Tab w) :
 Calls Tryz.prog 69 #[.string a,.string b,.func (.func 89) #[] #[]] w fun e w'=>e = .returned (.tuple #[.string s,.int .i64 ec])∧Below w.heap.size w w':=by
 have HOP:=Lib.hid mul_any
 have HT:=Lib.hid htab
 obtain ⟨o1,ho1⟩:∃ o,rval a.data.toList=o:=⟨_,rfl⟩
 obtain ⟨o2,ho2⟩:∃ o,rval b.data.toList=o:=⟨_,rfl⟩
 have HO1:=Lib.hid ho1
 have HO2:=Lib.hid ho2
 clear htab
 cases hbo:(o1.isSome&&o2.isSome)
 · have hse:=hr.out.none (by rw [ho1,ho2];exact hbo)
   obtain ⟨rfl,rfl⟩:=hse
   have HBO:=Lib.hid hbo
   clear hbo ho1 ho2
   go_enter Tryz.func69,Tryz.ntmps69
   go_wp2_with fail
   refine (readBoth_any Ev a b o1 o2 false _ Ev.all HO1 HO2 HBO hsa hsb).mono ?_
   rintro e w1 ⟨s1,p1,s2,p2,s3,p3,s4,p4,rfl,h1,h2,hb⟩
   have HB:=Lib.hid hb
   clear h1 h2 hb
   go_wp2
   go_ret2
   exact ⟨rfl,((HB.out.alloc HB.out.size _).alloc (by have:=HB.out.size;simp;omega) _)⟩
 · obtain ⟨p,q,rfl,rfl⟩:=both_some hbo
   have HBO:=Lib.hid hbo
   have HQ:=Lib.hid (hr.out.good ho1 ho2)
   have HRP:=Lib.hid (RT.val ho1)
   have HRQ:=Lib.hid (RT.val ho2)
   have HLF:=Lib.hid (hl.out p q HRP.out HRQ.out)
   clear hbo ho1 ho2
   go_enter Tryz.func69,Tryz.ntmps69
   go_wp2_with fail
   refine (readBoth_any Ev a b (some p) (some q) true _ Ev.all HO1 HO2 HBO hsa hsb).mono ?_
   rintro e w1 ⟨s1,p1,s2,p2,s3,p3,s4,p4,rfl,h1,h2,hb⟩
   have H1:=Lib.hid (h1 p rfl)
   have H2:=Lib.hid (h2 q rfl)
   have HB:=Lib.hid hb
   clear h1 h2 hb
   go_wp2_with fail
   refine (HOP.out Ev _ _ p q _ Ev.all (H1.out.kept (.all (boxes2 w1 _ _))) (H2.out.kept (.all (boxes2 w1 _ _))) HRP.out HRQ.out).mono ?_
   rintro e w2 ⟨a1,b1,a2,b2,rfl,hv1,hv2,hb2⟩
   have HB2:=Lib.hid (HB.out.trans ((boxes2 w1 _ _).trans (hb2.mono (by simp;omega)) |>.mono HB.out.size))
   have HV1:=Lib.hid hv1
   have HV2:=Lib.hid hv2
   clear hv1 hv2 hb2 H1 H2
   go_wp2_with fail
   refine (quotientText_any Ev _ _ (fMul p q) (gAdd p q) s ec _ Ev.all HV1.out HV2.out HQ (limbs_of_ten HLF.out.1 900 (by omega)) (limbs_of_ten HLF.out.2 900 (by omega)) (tab_keep HT.out HB2.out)).mono ?_
   rintro e w3 ⟨rfl,hb3⟩
   have HB3:=Lib.hid (HB2.out.trans (hb3.mono HB2.out.size))
   clear hb3
   go_wp2
   go_ret2
   exact ⟨rfl,HB3.out⟩
set_option maxRecDepth 100000 in
set_option maxHeartbeats 800000 in
theorem qAdd_any (a b s:ByteArray) (ec:Int) (w:World) (hr:Hid (OpRes fAdd gAdd a b s ec)) (hsa:a.size≤100000) (hsb:b.size≤100000) (htab:Tab w) :
 Calls Tryz.prog 32 #[.string a,.string b] w fun e w'=>e = .returned (.tuple #[.string s,.int .i64 ec])∧Below w.heap.size w w':=by
 have H:=Lib.hid (combine_add a b s ec w hr (Lib.hid (fun p q hp hq=>⟨ops_ten hp hq |>.1,(ops_ten hp hq).2.2.2.2.1⟩)) hsa hsb htab)
 go_enter Tryz.func32,Tryz.ntmps32
 go_wp2_with fail
 refine H.out.mono ?_
 rintro e w1 ⟨rfl,hb⟩
 go_wp2
 go_ret2
 exact ⟨rfl,hb⟩
set_option maxRecDepth 100000 in
set_option maxHeartbeats 800000 in
theorem qMul_any (a b s:ByteArray) (ec:Int) (w:World) (hr:Hid (OpRes fMul gAdd a b s ec)) (hsa:a.size≤100000) (hsb:b.size≤100000) (htab:Tab w) :
 Calls Tryz.prog 55 #[.string a,.string b] w fun e w'=>e = .returned (.tuple #[.string s,.int .i64 ec])∧Below w.heap.size w w':=by
 have H:=Lib.hid (combine_mul a b s ec w hr (Lib.hid (fun p q hp hq=>⟨(ops_ten hp hq).2.2.1,(ops_ten hp hq).2.2.2.2.1⟩)) hsa hsb htab)
 go_enter Tryz.func55,Tryz.ntmps55
 go_wp2_with fail
 refine H.out.mono ?_
 rintro e w1 ⟨rfl,hb⟩
 go_wp2
 go_ret2
 exact ⟨rfl,hb⟩
set_option maxRecDepth 100000 in
set_option maxHeartbeats 800000 in
theorem qValid_any (s:ByteArray) (r:Bool) (w:World) (hr:Hid ((rval s.data.toList).isSome=r)) (hs:s.size≤100000) :
 Calls Tryz.prog 45 #[.string s] w fun e w'=>e = .returned (.bool r)∧Below w.heap.size w w':=by
 obtain ⟨o,ho⟩:∃ o,rval s.data.toList=o:=⟨_,rfl⟩
 have HO:=Lib.hid ho
 have hr2:=hr.out
 rw [ho] at hr2
 have HR:=Lib.hid (And.intro trivial hr2)
 clear ho hr2
 go_enter Tryz.func45,Tryz.ntmps45
 go_wp2_with fail
 refine (read_any Ev s o _ Ev.all HO hs).mono ?_
 rintro e w1 ⟨s1,p1,s2,p2,rfl,hv,hb⟩
 rw [HR.out.2]
 have HB:=Lib.hid hb
 clear hv hb
 go_wp2
 go_ret
 exact ⟨rfl,HB.out.alloc HB.out.size _⟩
end Go.Proofs.YtkhdocdddicgpaaGreatDoor
