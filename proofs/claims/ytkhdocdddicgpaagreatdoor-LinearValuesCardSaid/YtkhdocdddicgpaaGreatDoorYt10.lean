/- Part 10: what the law's walk leans on. -/
import Derived.Test.YtkhdocdddicgpaaGreatDoorYt6
import Derived.Lib.IndexMore
import Derived.Lib.IndexBytes
import Derived.Lib.IndexLaws
import Derived.Test.YtkhdocdddicgpaaGreatDoorYt8
import Derived.Test.YtkhdocdddicgpaaGreatDoorYt7
import Derived.Test.YtkhdocdddicgpaaGreatDoorYt9
import Derived.BigQuiet
set_option linter.unusedVariables false
set_option linter.unusedSimpArgs false
namespace Go.Proofs.YtkhdocdddicgpaaGreatDoor
open Go.RowKit _root_.Go.Proofs.YtkhdocdddicgpaaGreatDoor.Nm
theorem indexByte_miss:∀ (l:List UInt8) (c:UInt8),c∉l→Lib.indexByte l c = -1
 | [],_,_=>rfl
 | b::l,c,h=>by
  have h1:=indexByte_miss l c (fun k=>h (List.mem_cons_of_mem _ k))
  unfold Lib.indexByte
  rw [if_neg (by intro e;exact h (by rw [← eq_of_beq e];exact List.mem_cons_self)),h1]
  rfl
theorem indexByte_hit:∀ (a b:List UInt8) (c:UInt8),c∉a→Lib.indexByte (a++c::b) c=a.length
 | [],b,c,_=>by simp [Lib.indexByte]
 | x::a,b,c,h=>by
  have h1:=indexByte_hit a b c (fun k=>h (List.mem_cons_of_mem _ k))
  rw [List.cons_append]
  unfold Lib.indexByte
  rw [if_neg (by intro e;exact h (by rw [← eq_of_beq e];exact List.mem_cons_self)),h1,if_neg (by rw [beq_iff_eq];omega)]
  simp
theorem cut_none (l:List UInt8) (h:(47:UInt8)∉l):Lib.cut l [47]=(l,[],false):=by
 unfold Lib.cut
 rw [Lib.index_one,indexByte_miss l 47 h]
 rfl
theorem cut_some (a b:List UInt8) (h:(47:UInt8)∉a):Lib.cut (a++47::b) [47]=(a,b,true):=by
 unfold Lib.cut
 rw [Lib.index_one,indexByte_hit a b 47 h,if_pos (by omega)]
 have e:a++47::b=(a++[47])++b:=by simp
 simp only [Int.toNat_natCast,List.length_singleton,Prod.mk.injEq,and_true]
 refine ⟨by simp,?_⟩
 rw [e,show a.length+1=(a++[47]).length from by simp,List.drop_left]
theorem split_ex:∀ l:List UInt8,(47:UInt8)∉l∨∃ a b,l=a++47::b∧(47:UInt8)∉a
 | [] => .inl (by simp)
 | x::l=>by
  by_cases hx:x=47
  · exact .inr ⟨[],l,by rw [hx];rfl,by simp⟩
  · rcases split_ex l with h | ⟨a,b,rfl,h⟩
    · exact .inl (by simp only [List.mem_cons,not_or];exact ⟨fun e=>hx e.symm,h⟩)
    · exact .inr ⟨x::a,b,rfl,by simp only [List.mem_cons,not_or];exact ⟨fun e=>hx e.symm,h⟩⟩
theorem no_slash_digits (l:List UInt8) (h:l.all isDig=true):(47:UInt8)∉l:=by
 intro k
 have:=List.all_eq_true.1 h _ k
 revert this
 decide
theorem no_slash (l:List UInt8) (h:canon l=true):(47:UInt8)∉l:=by
 by_cases h45:l.head?=some 45
 · match l,h45 with
   | c::r,h45 =>
    have hc:c=45:=by simpa using h45
    subst hc
    rw [canon_neg] at h
    simp only [Bool.and_eq_true] at h
    have h2:=h.1.1
    unfold canonN at h2
    simp only [Bool.and_eq_true] at h2
    have h3:=no_slash_digits r h2.1.1
    simp only [List.mem_cons,not_or]
    exact ⟨by decide,h3⟩
 · rw [canon_pos l h45] at h
   simp only [Bool.and_eq_true] at h
   have h2:=h.1
   unfold canonN at h2
   simp only [Bool.and_eq_true] at h2
   exact no_slash_digits l h2.1.1
def rt (q:Rat):List UInt8:=if q.den=1 then Lib.itoa q.num else Lib.itoa q.num++47::Lib.itoa (q.den:Int)
def rshort (q:Rat):Bool:=canon (Lib.itoa q.num)&&canon (Lib.itoa (q.den:Int))
def RIs (s:ByteArray) (q:Rat):Prop:=s=⟨(rt q).toArray⟩∧rshort q=true
theorem canon_one:canon (Lib.itoa 1)=true:=by decide +kernel
def rval (l:List UInt8):Option Rat :=
 match Lib.cut l [47] with
 | (a,_,false)=>if canon a then some (zv a:Rat) else none
 | (a,b,true)=>if canon a&&canon b&&decide (1<zv b)&&(Int.gcd (zv a) (zv b)==1) then some (Rat.divInt (zv a) (zv b)) else none
theorem rval_int (l:List UInt8) (h:(47:UInt8)∉l):rval l=if canon l then some (zv l:Rat) else none:=by
 unfold rval;rw [cut_none l h]
theorem rval_frac (a b:List UInt8) (h:(47:UInt8)∉a):rval (a++47::b)=if canon a&&canon b&&decide (1<zv b)&&(Int.gcd (zv a) (zv b)==1) then some (Rat.divInt (zv a) (zv b)) else none:=by
 unfold rval;rw [cut_some a b h]
theorem divInt_low (a b:Int) (hb:0<b) (hg:Int.gcd a b=1):(Rat.divInt a b).num=a∧((Rat.divInt a b).den:Int)=b:=by
 rw [Rat.num_divInt,Rat.den_divInt,if_neg (by omega),Int.gcd_comm b a,hg,Int.sign_eq_one_of_pos hb]
 refine ⟨by simp,by simp;omega⟩
theorem rt_int (z:Int):rt (z:Rat)=Lib.itoa z:=by unfold rt;rw [Rat.den_intCast,Rat.num_intCast,if_pos rfl]
theorem rat_gcd (q:Rat):Int.gcd q.num q.den=1:=by
 have:=q.reduced
 unfold Nat.Coprime at this
 rw [Int.gcd]
 simpa using this
theorem rval_rt (q:Rat) (h:rshort q=true):rval (rt q)=some q:=by
 unfold rshort at h
 simp only [Bool.and_eq_true] at h
 unfold rt
 by_cases hd:q.den=1
 · rw [if_pos hd,rval_int _ (no_slash _ h.1),if_pos h.1,zv_itoa]
   exact congrArg some (Rat.ext (Rat.num_intCast _) ((Rat.den_intCast _).trans hd.symm))
 · rw [if_neg hd,rval_frac _ _ (no_slash _ h.1),zv_itoa,zv_itoa,if_pos,Rat.num_divInt_den]
   have h1:=q.den_pos
   rw [h.1,h.2,rat_gcd]
   simp
   omega
theorem rval_some (l:List UInt8) (q:Rat) (h:rval l=some q):l=rt q∧rshort q=true:=by
 rcases split_ex l with hs | ⟨a,b,rfl,hs⟩
 · rw [rval_int l hs] at h
   split at h
   · next hc =>
     have e:=Option.some.inj h
     subst e
     refine ⟨by rw [rt_int,itoa_zv l hc],?_⟩
     unfold rshort
     rw [Rat.num_intCast,Rat.den_intCast,itoa_zv l hc,hc]
     exact canon_one
   · cases h
 · rw [rval_frac a b hs] at h
   split at h
   · next hc =>
     simp only [Bool.and_eq_true,decide_eq_true_eq,beq_iff_eq] at hc
     obtain ⟨⟨⟨ha,hb⟩,h1⟩,hg⟩:=hc
     have e:=Option.some.inj h
     obtain ⟨e1,e2⟩:=divInt_low (zv a) (zv b) (by omega) hg
     rw [e] at e1 e2
     refine ⟨?_,?_⟩
     · unfold rt
       rw [if_neg (by omega),e1,e2,itoa_zv a ha,itoa_zv b hb]
     · unfold rshort
       rw [e1,e2,itoa_zv a ha,itoa_zv b hb,ha,hb];rfl
   · cases h
theorem RIs.val {s:ByteArray} {q:Rat} (h:RIs s q):rval s.data.toList=some q:=by
 rw [h.1];exact rval_rt q h.2
theorem RIs.of {s:ByteArray} {q:Rat} (h:rval s.data.toList=some q):RIs s q:=by
 obtain ⟨h1,h2⟩:=rval_some _ _ h
 refine ⟨?_,h2⟩
 rw [← h1]
end Go.Proofs.YtkhdocdddicgpaaGreatDoor
set_option linter.unusedVariables false
set_option linter.unusedSimpArgs false
namespace Go.Proofs.YtkhdocdddicgpaaGreatDoor
open Go.RowKit _root_.Go.Proofs.YtkhdocdddicgpaaGreatDoor.Nm
set_option maxRecDepth 100000 in
set_option maxHeartbeats 800000 in
theorem IsOne_any (P:Nat→Prop) (x:Value) (z:Int) (r:Bool) (w:World) (h:IsInt P w x z) (hr:Hid (True∧decide (z=1)=r)) :
 Calls Tryz.prog 126 #[x] w fun e w'=>e = .returned (.bool r)∧Below w.heap.size w w':=by
 rcases h with ⟨h1,rfl⟩ | ⟨h1,g,sv,rfl,h2⟩
 · have hz:(z==1)=r:=by rw [← hr.out.2];rfl
   go_enter Tryz.func126,Tryz.ntmps126
   go_wp2
   go_ret
   refine ⟨?_,(Below.refl _ _).alloc (Nat.le_refl _) _⟩
   simp [hz]
 · obtain rfl:r=false:=by rw [← hr.out.2];exact decide_eq_false (by omega)
   clear h2
   go_enter Tryz.func126,Tryz.ntmps126
   go_wp2
   go_ret
   exact ⟨rfl,(Below.refl _ _).alloc (Nat.le_refl _) _⟩
def rdiv (a b:Int):Int:=if b<0 then -((Int.gcd a b:Nat):Int) else ((Int.gcd a b:Nat):Int)
theorem gcd_pos' (a b:Int) (hb:b≠0):0<Int.gcd a b:=Int.gcd_pos_of_ne_zero_right _ hb
theorem rdiv_ne (a b:Int) (hb:b≠0):rdiv a b≠0:=by
 have:=gcd_pos' a b hb
 unfold rdiv
 split <;> omega
theorem rdiv_one (a b:Int) (hb:b≠0) (h:rdiv a b=1):(Rat.divInt a b).num=a∧((Rat.divInt a b).den:Int)=b:=by
 unfold rdiv at h
 split at h
 · omega
 · exact divInt_low a b (by omega) (by omega)
theorem tdiv_neg_dvd (a g:Int) (hg:g∣a):a.tdiv (-g) = -(a/g):=by
 rw [Int.tdiv_neg,Int.tdiv_eq_ediv_of_dvd hg]
theorem rdiv_div (a b:Int) (hb:b≠0):(Rat.divInt a b).num=a.tdiv (rdiv a b)∧((Rat.divInt a b).den:Int)=b.tdiv (rdiv a b):=by
 have hg:=gcd_pos' a b hb
 have d1:((Int.gcd a b:Nat):Int)∣a:=Int.gcd_dvd_left a b
 have d2:((Int.gcd a b:Nat):Int)∣b:=Int.gcd_dvd_right a b
 rw [Rat.num_divInt,Rat.den_divInt,if_neg hb,Int.gcd_comm b a]
 unfold rdiv
 generalize Int.gcd a b=g at *
 split
 · next hn =>
   rw [tdiv_neg_dvd a g d1,tdiv_neg_dvd b g d2,Int.sign_eq_neg_one_of_neg hn]
   refine ⟨?_,?_⟩
   · rw [Int.neg_mul,Int.one_mul,Int.neg_ediv_of_dvd d1]
   · obtain ⟨k,rfl⟩:=d2
     have hk:k<0:=by
      rcases Int.lt_or_le k 0 with h | h
      · exact h
      · have:=Int.mul_nonneg (show (0:Int)≤g by omega) h
        omega
     rw [Int.mul_ediv_cancel_left _ (by omega),Int.natAbs_mul,Int.natAbs_natCast,Nat.mul_div_cancel_left _ hg]
     omega
 · next hn =>
   rw [Int.tdiv_eq_ediv_of_dvd d1,Int.tdiv_eq_ediv_of_dvd d2,Int.sign_eq_one_of_pos (by omega),Int.one_mul]
   refine ⟨rfl,?_⟩
   obtain ⟨k,rfl⟩:=d2
   have hk:0<k:=by
    rcases Int.lt_or_le 0 k with h | h
    · exact h
    · exfalso
      have h2:=Int.mul_nonneg (show (0:Int)≤g by omega) (show 0 ≤ -k by omega)
      rw [Int.mul_neg] at h2
      omega
   rw [Int.mul_ediv_cancel_left _ (by omega),Int.natAbs_mul,Int.natAbs_natCast,Nat.mul_div_cancel_left _ hg]
   omega
structure Rs (P:Nat→Prop) (w wr:World) (g:Nat) (s1:Int) (p1:Option Addr) (s2:Int) (p2:Option Addr) (s3:Int) (p3:Option Addr) (a b d:Int):Prop where
 box1:Bx wr w.heap.size (.int .i64 s1) (.pointer p1)
 box2:Bx wr (w.heap.size+1) (.int .i64 s2) (.pointer p2)
 box3:Bx wr (w.heap.size+1+1) (.int .i64 0) (.pointer none)
 box4:Bx wr (w.heap.size+1+1+1) (.int .i64 0) (.pointer none)
 box5:Bx wr g (.int .i64 s3) (.pointer p3)
 far:w.heap.size+4≤g
 i1:IsInt (fun k=>Bar 4 P w k∧k≠g) wr (.agg #[.int .i64 s1,.pointer p1]) a
 i2:IsInt (fun k=>Bar 4 P w k∧k≠g) wr (.agg #[.int .i64 s2,.pointer p2]) b
 i3:IsInt (fun k=>Bar 4 P w k∧k≠g) wr (.agg #[.int .i64 s3,.pointer p3]) d
 below:Below w.heap.size w wr
section
variable {P:Nat→Prop} {w wr w2:World} {g:Nat} {s1 s2 s3:Int} {p1 p2 p3:Option Addr} {a b d:Int}
theorem Rs.keep (h:Rs P w wr g s1 p1 s2 p2 s3 p3 a b d) (hb:Below wr.heap.size wr w2):Rs P w w2 g s1 p1 s2 p2 s3 p3 a b d :=
 ⟨h.box1.below hb h.box1.lt,h.box2.below hb h.box2.lt,h.box3.below hb h.box3.lt,h.box4.below hb h.box4.lt,h.box5.below hb h.box5.lt,h.far,h.i1.kept (.all hb),h.i2.kept (.all hb),h.i3.kept (.all hb),h.below.trans (hb.mono h.below.size)⟩
theorem Rs.put1 (h:Rs P w wr g s1 p1 s2 p2 s3 p3 a b d) {s:Int} {p:Option Addr} {z:Int} (hz:IsInt (fun k=>Bar 4 P w k∧k≠g) wr (.agg #[.int .i64 s,.pointer p]) z) :
 Rs P w ((wr.setCell ⟨w.heap.size,0,none⟩ (.int .i64 s)).setCell ⟨w.heap.size,1,none⟩ (.pointer p)) g s p s2 p2 s3 p3 z b d:=by
 have ho:=((Only.refl w.heap.size wr).set 0 (.int .i64 s)).set 1 (.pointer p)
 have hn:¬ (Bar 4 P w w.heap.size∧w.heap.size≠g):=by rintro ⟨⟨_,h⟩,_⟩;omega
 have hf:=h.far
 exact ⟨h.box1.put _ _,h.box2.only ho (by omega),h.box3.only ho (by omega),h.box4.only ho (by omega),h.box5.only ho (by omega),hf,hz.kept (.only ho hn),h.i2.kept (.only ho hn),h.i3.kept (.only ho hn),h.below.trans (ho.below (Nat.le_refl _))⟩
theorem Rs.put2 (h:Rs P w wr g s1 p1 s2 p2 s3 p3 a b d) {s:Int} {p:Option Addr} {z:Int} (hz:IsInt (fun k=>Bar 4 P w k∧k≠g) wr (.agg #[.int .i64 s,.pointer p]) z) :
 Rs P w ((wr.setCell ⟨w.heap.size+1,0,none⟩ (.int .i64 s)).setCell ⟨w.heap.size+1,1,none⟩ (.pointer p)) g s1 p1 s p s3 p3 a z d:=by
 have ho:=((Only.refl (w.heap.size+1) wr).set 0 (.int .i64 s)).set 1 (.pointer p)
 have hn:¬ (Bar 4 P w (w.heap.size+1)∧w.heap.size+1≠g):=by rintro ⟨⟨_,h⟩,_⟩;omega
 have hf:=h.far
 exact ⟨h.box1.only ho (by omega),h.box2.put _ _,h.box3.only ho (by omega),h.box4.only ho (by omega),h.box5.only ho (by omega),hf,h.i1.kept (.only ho hn),hz.kept (.only ho hn),h.i3.kept (.only ho hn),h.below.trans (ho.below (by omega))⟩
theorem Rs.put3 (h:Rs P w wr g s1 p1 s2 p2 s3 p3 a b d) {s:Int} {p:Option Addr} {z:Int} (hz:IsInt (fun k=>Bar 4 P w k∧k≠g) wr (.agg #[.int .i64 s,.pointer p]) z) :
 Rs P w ((wr.setCell ⟨g,0,none⟩ (.int .i64 s)).setCell ⟨g,1,none⟩ (.pointer p)) g s1 p1 s2 p2 s p a b z:=by
 have ho:=((Only.refl g wr).set 0 (.int .i64 s)).set 1 (.pointer p)
 have hn:¬ (Bar 4 P w g∧g≠g):=by rintro ⟨_,h⟩;exact h rfl
 have hf:=h.far
 exact ⟨h.box1.only ho (by omega),h.box2.only ho (by omega),h.box3.only ho (by omega),h.box4.only ho (by omega),h.box5.put _ _,hf,h.i1.kept (.only ho hn),h.i2.kept (.only ho hn),hz.kept (.only ho hn),h.below.trans (ho.below (by omega))⟩
theorem Rs.done (h:Rs P w wr g s1 p1 s2 p2 s3 p3 a b d) :
 DivPost P a b w (.returned (.tuple #[.agg #[.int .i64 s1,.pointer p1],.agg #[.int .i64 s2,.pointer p2]])) ((((wr.setCell ⟨w.heap.size+1+1,0,none⟩ (.int .i64 s1)).setCell ⟨w.heap.size+1+1,1,none⟩ (.pointer p1)).setCell ⟨w.heap.size+1+1+1,0,none⟩ (.int .i64 s2)).setCell ⟨w.heap.size+1+1+1,1,none⟩ (.pointer p2)):=by
 have ho:=((Only.refl (w.heap.size+1+1) wr).set 0 (.int .i64 s1)).set 1 (.pointer p1)
 have ho2:=((Only.refl (w.heap.size+1+1+1) ((wr.setCell ⟨w.heap.size+1+1,0,none⟩ (.int .i64 s1)).setCell ⟨w.heap.size+1+1,1,none⟩ (.pointer p1))).set 0 (.int .i64 s2)).set 1 (.pointer p2)
 have hn:¬ (Bar 4 P w (w.heap.size+1+1)∧w.heap.size+1+1≠g):=by rintro ⟨⟨_,h⟩,_⟩;omega
 have hn2:¬ (Bar 4 P w (w.heap.size+1+1+1)∧w.heap.size+1+1+1≠g):=by rintro ⟨⟨_,h⟩,_⟩;omega
 exact ⟨s1,p1,s2,p2,rfl,((h.i1.kept (.only ho hn)).kept (.only ho2 hn2)).mono (fun k _ hk=>hk.1.1),((h.i2.kept (.only ho hn)).kept (.only ho2 hn2)).mono (fun k _ hk=>hk.1.1),(h.below.trans (ho.below (by omega))).trans (ho2.below (by omega))⟩
end
end Go.Proofs.YtkhdocdddicgpaaGreatDoor
set_option linter.unusedVariables false
set_option linter.unusedSimpArgs false
namespace Go.Proofs.YtkhdocdddicgpaaGreatDoor
open Go.RowKit _root_.Go.Proofs.YtkhdocdddicgpaaGreatDoor.Nm
theorem DivPost.drew {P:Nat→Prop} {q r:Int} {w:World} {e:Ending} {w':World} (h:DivPost P q r w e w'):DivPost P q r w e w'.drew:=by
 obtain ⟨s1,p1,s2,p2,h1,h2,h3,h4⟩:=h
 exact ⟨s1,p1,s2,p2,h1,h2.kept (.drew _ _),h3.kept (.drew _ _),h4.drew⟩
set_option maxRecDepth 100000 in
set_option maxHeartbeats 3200000 in
theorem Reduced_any (P:Nat→Prop) (x y:Value) (a b n d:Int) (w:World) (hP:∀ k,w.heap.size≤k→P k) (ha:IsInt P w x a) (hb:IsInt P w y b) (hb0:b≠0)
 (la:(ds 1000000000 a.natAbs).length≤900) (lb:(ds 1000000000 b.natAbs).length≤900) (hn:(Rat.divInt a b).num=n) (hd:((Rat.divInt a b).den:Int)=d) :
 Calls Tryz.prog 171 #[x,y] w (DivPost P n d w):=by
 obtain ⟨s1,p1,rfl⟩:=ha.form
 obtain ⟨s2,p2,rfl⟩:=hb.form
 have HP:=Lib.hid hP
 have HB0:=Lib.hid (boxes4 w (.cells #[.int .i64 s1,.pointer p1] 107) (.cells #[.int .i64 s2,.pointer p2] 107) (.cells #[.int .i64 0,.pointer none] 107) (.cells #[.int .i64 0,.pointer none] 107))
 have hB0:=Bs.four w (.int .i64 s1) (.pointer p1) (.int .i64 s2) (.pointer p2) (.int .i64 0) (.pointer none) (.int .i64 0) (.pointer none) 107 107 107 107
 have HA:=Lib.hid (ha.bar (m:=4) HB0.out)
 have HB:=Lib.hid (hb.bar (m:=4) HB0.out)
 have HG:=Lib.hid (gcdIs a b la lb)
 have HBZ:=Lib.hid hb0
 have HN1:Hid (rdiv a b=1→a=n∧b=d):=Lib.hid (fun h=>by obtain ⟨h1,h2⟩:=rdiv_one a b hb0 h;exact ⟨h1.symm.trans hn,h2.symm.trans hd⟩)
 have HN2:Hid (a.tdiv (rdiv a b)=n∧b.tdiv (rdiv a b)=d):=Lib.hid (by obtain ⟨h1,h2⟩:=rdiv_div a b hb0;exact ⟨h1.symm.trans hn,h2.symm.trans hd⟩)
 have HRZ:=Lib.hid (rdiv_ne a b hb0)
 have HLL:=Lib.hid (And.intro la lb)
 have HGL:Hid (True∧rdiv a b=if b<0 then -((Int.gcd a b:Nat):Int) else ((Int.gcd a b:Nat):Int)):=Lib.hid ⟨trivial,rfl⟩
 obtain ⟨D,hD⟩:∃ D,rdiv a b=D:=⟨_,rfl⟩
 rw [hD] at HN1 HN2 HRZ HGL
 obtain ⟨G,hG⟩:∃ G:Int,((Int.gcd a b:Nat):Int)=G:=⟨_,rfl⟩
 rw [hG] at HGL
 have HGG:=Lib.hid (And.intro trivial hG)
 clear ha hb hb0 la lb hn hd hP hD hG
 go_enter Tryz.func171,Tryz.ntmps171
 go_wp2_with fail
 refine (HG.out (Bar 4 P w) _ _ _ (fun k hk=>⟨HP.out k (by simp at hk;omega),.inr (by simp at hk;omega)⟩) HA.out HB.out).mono ?_
 rintro e w1 ⟨v1,rfl,hv1,hb1⟩
 rw [HGG.out.2] at hv1
 obtain ⟨s3,p3,rfl⟩:=hv1.form
 have hB1:=hB0.next hb1 (Nat.le_refl _)
 have HW1:=Lib.hid (HB0.out.trans (hb1.mono (by simp;omega)))
 have hsz:w.heap.size+4≤w1.heap.size:=by have:=hB1.tail.tail.tail.head.lt;omega
 have hA:Below w1.heap.size w1 (w1.alloc (.cells #[.int .i64 s3,.pointer p3] 107)):=(Below.refl _ _).alloc (Nat.le_refl _) _
 have HS2:Hid (Rs P w (w1.alloc (.cells #[.int .i64 s3,.pointer p3] 107)) w1.heap.size s1 p1 s2 p2 s3 p3 a b G):=Lib.hid
  ⟨hB1.head.below hA hB1.head.lt,hB1.tail.head.below hA hB1.tail.head.lt,hB1.tail.tail.head.below hA hB1.tail.tail.head.lt,hB1.tail.tail.tail.head.below hA hB1.tail.tail.tail.head.lt,Bx.new _ _ _ _,hsz,
   ((HA.out.kept (.all hb1)).mono (fun k hk hp=>⟨hp,by omega⟩)).kept (.all hA),((HB.out.kept (.all hb1)).mono (fun k hk hp=>⟨hp,by omega⟩)).kept (.all hA),(hv1.mono (fun k hk hp=>⟨hp,by omega⟩)).kept (.all hA),HW1.out.trans (hA.mono HW1.out.size)⟩
 obtain ⟨g,hg⟩:∃ g,w1.heap.size=g:=⟨_,rfl⟩
 have HPQ:Hid (∀ k,w.heap.size≤k→g<k→w.heap.size+1+1+1<k→Bar 4 P w k∧k≠g):=Lib.hid (fun k h1 h2 h3=>⟨⟨HP.out k h1,.inr (by omega)⟩,by omega⟩)
 clear hb1 hB0 hB1 HA HB hv1 hA HB0
 rw [hg] at HS2 hsz
 by_cases hbn:b<0
 · have HSG:Hid (sg b = -1):=Lib.hid (by unfold sg;rw [if_pos hbn])
   have HDG:Hid (True ∧ -G=D):=Lib.hid ⟨trivial,by rw [HGL.out.2,if_pos hbn]⟩
   have HONE:Hid (True∧decide (D=1)=false):=Lib.hid ⟨trivial,decide_eq_false (by have h1:=HDG.out.2;have h2:=HGG.out.2;omega)⟩
   clear hbn
   go_upto_region 2 with fail
   try rw [hg]
   generalize w1.alloc (.cells #[.int .i64 s3,.pointer p3] 107)=w2 at *
   clear hg HW1
   obtain ⟨q0,q1,q2,q3⟩:=HS2.out.box2.cell
   go_wp2_with fail
   refine (Sign_any (fun k=>Bar 4 P w k∧k≠g) _ b _ HS2.out.i2).mono ?_
   rintro e w3 ⟨rfl,hb⟩
   rw [HSG.out]
   have HS3:=Lib.hid (HS2.out.keep hb)
   clear hb HS2 q0 q1 q2 q3
   obtain ⟨f0,f1,f2,f3⟩:=HS3.out.box5.cell
   go_wp2_with fail
   refine (Negated_any (fun k=>Bar 4 P w k∧k≠g) _ G _ (fun k hk=>HPQ.out k (Nat.le_trans HS3.out.below.size hk) (Nat.lt_of_lt_of_le HS3.out.box5.lt hk) (Nat.lt_of_lt_of_le HS3.out.box4.lt hk)) HS3.out.i3).mono ?_
   rintro e w4 ⟨v4,rfl,hv4,hb⟩
   rw [HDG.out.2] at hv4
   obtain ⟨s4,p4,rfl⟩:=hv4.form
   have HS3':=Lib.hid (HS3.out.keep hb)
   have HS3b:=Lib.hid (HS3'.out.put3 hv4)
   clear hb hv4 HS3 f0 f1 f2 f3
   obtain ⟨f0,f1,f2,f3⟩:=HS3'.out.box5.cell
   go_upto_region 4 with fail
   clear f0 f1 f2 f3 HS3'
   generalize ((w4.setCell ⟨g,0,none⟩ (.int .i64 s4)).setCell ⟨g,1,none⟩ (.pointer p4))=w4b at *
   obtain ⟨f0,f1,f2,f3⟩:=HS3b.out.box5.cell
   go_wp2_with fail
   refine (IsOne_any (fun k=>Bar 4 P w k∧k≠g) _ D false _ HS3b.out.i3 HONE).mono ?_
   rintro e w4c ⟨rfl,hb⟩
   have HS4:=Lib.hid (HS3b.out.keep hb)
   clear hb HS3b f0 f1 f2 f3
   obtain ⟨p0,p1',p2',p3'⟩:=HS4.out.box1.cell
   obtain ⟨f0,f1,f2,f3⟩:=HS4.out.box5.cell
   go_wp2_with fail
   refine ((divIs a D HRZ.out HLL.out.1) (fun k=>Bar 4 P w k∧k≠g) _ _ _ (fun k hk=>HPQ.out k (Nat.le_trans HS4.out.below.size hk) (Nat.lt_of_lt_of_le HS4.out.box5.lt hk) (Nat.lt_of_lt_of_le HS4.out.box4.lt hk)) HS4.out.i1 HS4.out.i3).mono ?_
   rintro e w5 ⟨s5,p5,s6,p6,rfl,hq,hr,hb⟩
   rw [HN2.out.1] at hq
   have HS5:=Lib.hid (HS4.out.keep hb)
   have HS6:=Lib.hid (HS5.out.put1 hq)
   clear hq hr hb HS4 p0 p1' p2' p3' f0 f1 f2 f3
   obtain ⟨p0,p1',p2',p3'⟩:=HS5.out.box1.cell
   go_upto_region 7 with fail
   clear p0 p1' p2' p3' HS5
   generalize ((w5.setCell ⟨w.heap.size,0,none⟩ (.int .i64 s5)).setCell ⟨w.heap.size,1,none⟩ (.pointer p5))=w6 at *
   obtain ⟨q0,q1,q2,q3⟩:=HS6.out.box2.cell
   obtain ⟨f0,f1,f2,f3⟩:=HS6.out.box5.cell
   go_wp2_with fail
   refine ((divIs b D HRZ.out HLL.out.2) (fun k=>Bar 4 P w k∧k≠g) _ _ _ (fun k hk=>HPQ.out k (Nat.le_trans HS6.out.below.size hk) (Nat.lt_of_lt_of_le HS6.out.box5.lt hk) (Nat.lt_of_lt_of_le HS6.out.box4.lt hk)) HS6.out.i2 HS6.out.i3).mono ?_
   rintro e w7 ⟨s7,p7,s8,p8,rfl,hq,hr,hb⟩
   rw [HN2.out.2] at hq
   have HS7:=Lib.hid (HS6.out.keep hb)
   have HS8:=Lib.hid (HS7.out.put2 hq)
   clear hq hr hb HS6 q0 q1 q2 q3 f0 f1 f2 f3
   obtain ⟨q0,q1,q2,q3⟩:=HS7.out.box2.cell
   go_upto_region 8 with fail
   clear q0 q1 q2 q3 HS7
   generalize ((w7.setCell ⟨w.heap.size+1,0,none⟩ (.int .i64 s7)).setCell ⟨w.heap.size+1,1,none⟩ (.pointer p7))=w8 at *
   obtain ⟨p0,p1',p2',p3'⟩:=HS8.out.box1.cell
   obtain ⟨q0,q1,q2,q3⟩:=HS8.out.box2.cell
   obtain ⟨r0,r1,r2,r3⟩:=HS8.out.box3.cell
   obtain ⟨t0,t1,t2,t3⟩:=HS8.out.box4.cell
   have n1:w.heap.size+1+1≠w.heap.size:=by omega
   have n2:w.heap.size+1+1≠w.heap.size+1:=by omega
   have n3:w.heap.size+1+1+1≠w.heap.size:=by omega
   have n4:w.heap.size+1+1+1≠w.heap.size+1:=by omega
   go_region
   go_wp2
   obtain ⟨l0,l1,_,_⟩:=(((HS8.out.box3.put (.int .i64 s5) (.pointer p5)).only (((Only.refl (w.heap.size+1+1+1) _).set 0 (.int .i64 s7)).set 1 (.pointer p7)) (by omega))).cell
   obtain ⟨l2,l3,_,_⟩:=((HS8.out.box4.only (((Only.refl (w.heap.size+1+1) w8).set 0 (.int .i64 s5)).set 1 (.pointer p5)) (by omega)).put (.int .i64 s7) (.pointer p7)).cell
   refine bodyPost_ret (v := .tuple #[.agg #[.int .i64 s5,.pointer p5],.agg #[.int .i64 s7,.pointer p7]]) (by simp only [results,Tryz.results171];simp [go_sem,drew_cell,l0,l1,l2,l3]) rfl ?_
   exact DivPost.drew (HS8.out.done)
 · obtain ⟨c,hc,hc0⟩:∃ c,sg b=c∧¬ c<0:=⟨_,rfl,by unfold sg;rw [if_neg hbn];split <;> omega⟩
   have HSG:=Lib.hid hc
   have HDG:Hid (True∧G=D):=Lib.hid ⟨trivial,by rw [HGL.out.2,if_neg hbn]⟩
   clear hbn hc
   go_upto_region 2 with fail
   try rw [hg]
   generalize w1.alloc (.cells #[.int .i64 s3,.pointer p3] 107)=w2 at *
   clear hg HW1
   obtain ⟨q0,q1,q2,q3⟩:=HS2.out.box2.cell
   go_wp2_with fail
   refine (Sign_any (fun k=>Bar 4 P w k∧k≠g) _ b _ HS2.out.i2).mono ?_
   rintro e w3 ⟨rfl,hb⟩
   rw [HSG.out]
   have HS3b:=Lib.hid (HS2.out.keep hb)
   rw [HDG.out.2] at HS3b
   clear hb HS2 q0 q1 q2 q3
   by_cases hD1:D=1
   · have HONE:Hid (True∧decide (D=1)=true):=Lib.hid ⟨trivial,decide_eq_true hD1⟩
     have HSE:Hid (a=n∧b=d):=Lib.hid (HN1.out hD1)
     clear hD1
     obtain ⟨f0,f1,f2,f3⟩:=HS3b.out.box5.cell
     go_wp2_with fail
     refine (IsOne_any (fun k=>Bar 4 P w k∧k≠g) _ D true _ HS3b.out.i3 HONE).mono ?_
     rintro e w4c ⟨rfl,hb⟩
     have HS4:=Lib.hid (HS3b.out.keep hb)
     clear hb HS3b f0 f1 f2 f3
     go_upto_region 5 with fail
     rw [HSE.out.1,HSE.out.2] at HS4
     obtain ⟨p0,p1',p2',p3'⟩:=HS4.out.box1.cell
     obtain ⟨q0,q1,q2,q3⟩:=HS4.out.box2.cell
     obtain ⟨r0,r1,r2,r3⟩:=HS4.out.box3.cell
     obtain ⟨t0,t1,t2,t3⟩:=HS4.out.box4.cell
     have n1:w.heap.size+1+1≠w.heap.size:=by omega
     have n2:w.heap.size+1+1≠w.heap.size+1:=by omega
     have n3:w.heap.size+1+1+1≠w.heap.size:=by omega
     have n4:w.heap.size+1+1+1≠w.heap.size+1:=by omega
     go_region
     go_wp2
     obtain ⟨l0,l1,_,_⟩:=(((HS4.out.box3.put (.int .i64 s1) (.pointer p1)).only (((Only.refl (w.heap.size+1+1+1) _).set 0 (.int .i64 s2)).set 1 (.pointer p2)) (by omega))).cell
     obtain ⟨l2,l3,_,_⟩:=((HS4.out.box4.only (((Only.refl (w.heap.size+1+1) w4c).set 0 (.int .i64 s1)).set 1 (.pointer p1)) (by omega)).put (.int .i64 s2) (.pointer p2)).cell
     refine bodyPost_ret (v := .tuple #[.agg #[.int .i64 s1,.pointer p1],.agg #[.int .i64 s2,.pointer p2]]) (by simp only [results,Tryz.results171];simp [go_sem,drew_cell,l0,l1,l2,l3]) rfl ?_
     exact DivPost.drew (HS4.out.done)
   · have HONE:Hid (True∧decide (D=1)=false):=Lib.hid ⟨trivial,decide_eq_false hD1⟩
     clear hD1
     obtain ⟨f0,f1,f2,f3⟩:=HS3b.out.box5.cell
     go_wp2_with fail
     refine (IsOne_any (fun k=>Bar 4 P w k∧k≠g) _ D false _ HS3b.out.i3 HONE).mono ?_
     rintro e w4c ⟨rfl,hb⟩
     have HS4:=Lib.hid (HS3b.out.keep hb)
     clear hb HS3b f0 f1 f2 f3
     obtain ⟨p0,p1',p2',p3'⟩:=HS4.out.box1.cell
     obtain ⟨f0,f1,f2,f3⟩:=HS4.out.box5.cell
     go_wp2_with fail
     refine ((divIs a D HRZ.out HLL.out.1) (fun k=>Bar 4 P w k∧k≠g) _ _ _ (fun k hk=>HPQ.out k (Nat.le_trans HS4.out.below.size hk) (Nat.lt_of_lt_of_le HS4.out.box5.lt hk) (Nat.lt_of_lt_of_le HS4.out.box4.lt hk)) HS4.out.i1 HS4.out.i3).mono ?_
     rintro e w5 ⟨s5,p5,s6,p6,rfl,hq,hr,hb⟩
     rw [HN2.out.1] at hq
     have HS5:=Lib.hid (HS4.out.keep hb)
     have HS6:=Lib.hid (HS5.out.put1 hq)
     clear hq hr hb HS4 p0 p1' p2' p3' f0 f1 f2 f3
     obtain ⟨p0,p1',p2',p3'⟩:=HS5.out.box1.cell
     go_upto_region 7 with fail
     clear p0 p1' p2' p3' HS5
     generalize ((w5.setCell ⟨w.heap.size,0,none⟩ (.int .i64 s5)).setCell ⟨w.heap.size,1,none⟩ (.pointer p5))=w6 at *
     obtain ⟨q0,q1,q2,q3⟩:=HS6.out.box2.cell
     obtain ⟨f0,f1,f2,f3⟩:=HS6.out.box5.cell
     go_wp2_with fail
     refine ((divIs b D HRZ.out HLL.out.2) (fun k=>Bar 4 P w k∧k≠g) _ _ _ (fun k hk=>HPQ.out k (Nat.le_trans HS6.out.below.size hk) (Nat.lt_of_lt_of_le HS6.out.box5.lt hk) (Nat.lt_of_lt_of_le HS6.out.box4.lt hk)) HS6.out.i2 HS6.out.i3).mono ?_
     rintro e w7 ⟨s7,p7,s8,p8,rfl,hq,hr,hb⟩
     rw [HN2.out.2] at hq
     have HS7:=Lib.hid (HS6.out.keep hb)
     have HS8:=Lib.hid (HS7.out.put2 hq)
     clear hq hr hb HS6 q0 q1 q2 q3 f0 f1 f2 f3
     obtain ⟨q0,q1,q2,q3⟩:=HS7.out.box2.cell
     go_upto_region 8 with fail
     clear q0 q1 q2 q3 HS7
     generalize ((w7.setCell ⟨w.heap.size+1,0,none⟩ (.int .i64 s7)).setCell ⟨w.heap.size+1,1,none⟩ (.pointer p7))=w8 at *
     obtain ⟨p0,p1',p2',p3'⟩:=HS8.out.box1.cell
     obtain ⟨q0,q1,q2,q3⟩:=HS8.out.box2.cell
     obtain ⟨r0,r1,r2,r3⟩:=HS8.out.box3.cell
     obtain ⟨t0,t1,t2,t3⟩:=HS8.out.box4.cell
     have n1:w.heap.size+1+1≠w.heap.size:=by omega
     have n2:w.heap.size+1+1≠w.heap.size+1:=by omega
     have n3:w.heap.size+1+1+1≠w.heap.size:=by omega
     have n4:w.heap.size+1+1+1≠w.heap.size+1:=by omega
     go_region
     go_wp2
     obtain ⟨l0,l1,_,_⟩:=(((HS8.out.box3.put (.int .i64 s5) (.pointer p5)).only (((Only.refl (w.heap.size+1+1+1) _).set 0 (.int .i64 s7)).set 1 (.pointer p7)) (by omega))).cell
     obtain ⟨l2,l3,_,_⟩:=((HS8.out.box4.only (((Only.refl (w.heap.size+1+1) w8).set 0 (.int .i64 s5)).set 1 (.pointer p5)) (by omega)).put (.int .i64 s7) (.pointer p7)).cell
     refine bodyPost_ret (v := .tuple #[.agg #[.int .i64 s5,.pointer p5],.agg #[.int .i64 s7,.pointer p7]]) (by simp only [results,Tryz.results171];simp [go_sem,drew_cell,l0,l1,l2,l3]) rfl ?_
     exact DivPost.drew (HS8.out.done)
end Go.Proofs.YtkhdocdddicgpaaGreatDoor
