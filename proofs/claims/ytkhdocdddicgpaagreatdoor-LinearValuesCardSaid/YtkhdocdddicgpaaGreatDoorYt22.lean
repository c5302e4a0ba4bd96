/- Part 22: what the law's walk leans on. -/
import Derived.Test.YtkhdocdddicgpaaGreatDoorYt9
import Derived.Laws.AppendOwnNone
import Derived.Test.YtkhdocdddicgpaaGreatDoorYt1
import Derived.Deep.LoopGhost
set_option linter.unusedVariables false
set_option linter.unusedSimpArgs false
namespace Go.Proofs.YtkhdocdddicgpaaGreatDoor
open Go.RowKit _root_.Go.Proofs.YtkhdocdddicgpaaGreatDoor.Nm
def dgt (xs:List Nat) (i:Nat):Nat:=xs.reverse.getD i 0
theorem dgt_lt (xs:List Nat) (h:∀ x∈xs,x<10) (i:Nat):dgt xs i<10:=by
 unfold dgt
 rw [List.getD_eq_getElem?_getD]
 by_cases hi:i<xs.reverse.length
 · rw [List.getElem?_eq_getElem hi];exact h _ (List.mem_reverse.1 (List.getElem_mem hi))
 · rw [List.getElem?_eq_none (by omega)];simp
theorem dgt_at (xs:List Nat) (i:Nat) (h:i<xs.length):dgt xs i=xs[xs.length-1-i]:=by
 unfold dgt
 rw [List.getD_eq_getElem?_getD,List.getElem?_reverse h,List.getElem?_eq_getElem (by omega)]
 rfl
theorem dgt_end (xs:List Nat) (i:Nat) (h:xs.length≤i):dgt xs i=0:=by
 unfold dgt
 rw [List.getD_eq_getElem?_getD,List.getElem?_eq_none (by rw [List.length_reverse];exact h)]
 rfl
def lo (xs:List Nat) (i:Nat):Nat:=vl 10 (xs.reverse.take i)
theorem lo_zero (xs:List Nat):lo xs 0=0:=rfl
theorem lo_succ (xs:List Nat) (i:Nat):lo xs (i+1)=lo xs i+10 ^ i*dgt xs i:=by
 unfold lo dgt
 by_cases hi:i<xs.reverse.length
 · rw [List.take_add_one,List.getElem?_eq_getElem hi,List.getD_eq_getElem?_getD,List.getElem?_eq_getElem hi,vl_append,List.length_take,Nat.min_eq_left (by omega)]
   simp [vl]
 · rw [List.take_of_length_le (by omega),List.take_of_length_le (by omega),List.getD_eq_getElem?_getD,List.getElem?_eq_none (by omega)]
   simp
theorem lo_all (xs:List Nat) (i:Nat) (h:xs.length≤i):lo xs i=dval xs:=by
 unfold lo dval;rw [List.take_of_length_le (by rw [List.length_reverse];exact h)]
structure Pl (xs ys:List Nat) (f:Int) (i:Nat) (out:List Nat) (carry:Int):Prop where
 len:out.length=i
 lt:∀ x∈out,x<10
 c : -1≤carry∧carry≤1
 cf:(f=1→0≤carry)∧(f = -1→carry≤0)
 val:(dval out:Int)+carry*(10 ^ i:Nat)=lo xs i+f*lo ys i
theorem Pl.start (xs ys:List Nat) (f:Int):Pl xs ys f 0 [] 0:=⟨rfl,by simp,by omega,by omega,by rw [lo_zero,lo_zero,dval_nil];simp⟩
theorem Pl.next {xs ys:List Nat} {f:Int} {i:Nat} {out:List Nat} {carry:Int} (h:Pl xs ys f i out carry) (hf:f=1∨f = -1) (hx:∀ x∈xs,x<10) (hy:∀ y∈ys,y<10) (d:Nat) (c':Int) (hd:d<10)
 (he:(d:Int)+10*c'=dgt xs i+f*dgt ys i+carry):Pl xs ys f (i+1) (d::out) c':=by
 obtain ⟨h1,h2,h3,h4,h5⟩:=h
 have k1:=dgt_lt xs hx i
 have k2:=dgt_lt ys hy i
 refine ⟨by rw [List.length_cons,h1],?_,?_,?_,?_⟩
 · intro x hx'
   rcases List.mem_cons.1 hx' with rfl | hx'
   · exact hd
   · exact h2 x hx'
 · rcases hf with rfl | rfl <;> omega
 · rcases hf with rfl | rfl <;> omega
 · rw [dval_cons,h1,lo_succ,lo_succ,Nat.pow_succ]
   generalize 10 ^ i=P at *
   generalize dgt xs i=X at *
   generalize dgt ys i=Y at *
   have e:(d:Int)=X+f*Y+carry-10*c':=by omega
   push_cast
   rw [e]
   grind
theorem Pl.last {xs ys:List Nat} {f:Int} {i:Nat} {out:List Nat} {carry:Int} (h:Pl xs ys f i out carry) (hf:f=1∨f = -1) (hx:∀ x∈xs,x<10) (hy:∀ y∈ys,y<10)
 (hle:f = -1→dval ys≤dval xs) (M:Nat) (hmx:xs.length≤M) (hmy:ys.length≤M) (hi:M+1≤i):carry=0:=by
 obtain ⟨h1,h2,h3,h4,h5⟩:=h
 rw [lo_all xs i (by omega),lo_all ys i (by omega)] at h5
 have k1:=dval_lt xs hx
 have k2:=dval_lt ys hy
 have k3:=dval_lt out h2
 rw [h1] at k3
 have k4:10 ^ xs.length≤10 ^ M:=Nat.pow_le_pow_right (by omega) hmx
 have k5:10 ^ ys.length≤10 ^ M:=Nat.pow_le_pow_right (by omega) hmy
 have k6:10 ^ (M+1)≤10 ^ i:=Nat.pow_le_pow_right (by omega) hi
 rw [Nat.pow_succ] at k6
 generalize 10 ^ i=P at *
 generalize 10 ^ M=Q at *
 rcases hf with rfl | rfl
 · have h6:=h4.1 rfl
   have h7:carry=0∨carry=1:=by omega
   rcases h7 with rfl | rfl
   · rfl
   · omega
 · have h6:=h4.2 rfl
   have h8:=hle rfl
   have h7:carry=0∨carry = -1:=by omega
   rcases h7 with rfl | rfl
   · rfl
   · omega
theorem Pl.done {xs ys:List Nat} {f:Int} {i:Nat} {out:List Nat} (h:Pl xs ys f i out 0) (hmx:xs.length≤i) (hmy:ys.length≤i):(dval out:Int)=dval xs+f*dval ys:=by
 have:=h.val
 rw [lo_all xs i hmx,lo_all ys i hmy] at this
 omega
set_option maxHeartbeats 800000 in
theorem digit_any (v:Value) (xs:List Nat) (i:Nat) (w:World) (hr:Rd .i64 w v xs) (hi:i≤100000) :
 Calls Tryz.prog 149 #[v,.int .i64 i] w fun e w'=>e = .returned (.int .i64 (dgt xs i:Nat))∧w'=w:=by
 have hl:=hr.length
 rcases hr.cases with ⟨rfl,a,c,rfl,hcap⟩ | ⟨h0,g,off,c,rfl,hxc,hcap,hg,hrow⟩
 · have HD:Hid (dgt [] i=0):=Lib.hid (dgt_end [] i (by simp))
   clear hr hcap
   go_enter Tryz.func149,Tryz.ntmps149
   go_wp2
   go_ret
   exact ⟨by rw [HD.out];rfl,rfl⟩
 · by_cases hlt:i<xs.length
   · obtain ⟨j,hj⟩:∃ j,xs.length-1-i=j:=⟨_,rfl⟩
     have hjl:j<xs.length:=by omega
     have hc2:=hrow j hjl
     have HD:Hid (dgt xs i=xs[j]):=Lib.hid (by rw [dgt_at xs i hlt];simp only [hj])
     have hj':(xs.length:Int)-1-i=j:=by omega
     have hlt':¬ (xs.length:Int)≤i:=by omega
     have hjl':(j:Int)<xs.length:=by omega
     clear hr hrow hcap hj
     go_enter Tryz.func149,Tryz.ntmps149
     go_wp2
     go_ret
     exact ⟨by rw [HD.out];rfl,rfl⟩
   · have hlt':(xs.length:Int)≤i:=by omega
     have HD:Hid (dgt xs i=0):=Lib.hid (dgt_end xs i (by omega))
     clear hr hrow hcap
     go_enter Tryz.func149,Tryz.ntmps149
     go_wp2
     go_ret
     exact ⟨by rw [HD.out];rfl,rfl⟩
end Go.Proofs.YtkhdocdddicgpaaGreatDoor
set_option linter.unusedVariables false
set_option linter.unusedSimpArgs false
namespace Go.Proofs.YtkhdocdddicgpaaGreatDoor
open Go.RowKit _root_.Go.Proofs.YtkhdocdddicgpaaGreatDoor.Nm
theorem cmp_at (xs ys:List Nat) (hx:∀ x∈xs,x<10) (k:Nat) (hl:xs.length=ys.length) (h1:k<xs.length) (h2:k<ys.length) (ht:xs.take k=ys.take k) (h:xs[k]<ys[k]):dval xs<dval ys:=by
 have e1:xs=xs.take k++(xs[k]::xs.drop (k+1)):=by rw [List.getElem_cons_drop,List.take_append_drop]
 have e2:ys=ys.take k++(ys[k]::ys.drop (k+1)):=by rw [List.getElem_cons_drop,List.take_append_drop]
 have l1:(xs.drop (k+1)).length=xs.length-(k+1):=List.length_drop
 have l2:(ys.drop (k+1)).length=xs.length-(k+1):=by rw [List.length_drop,hl]
 have b1:=dval_lt (xs.drop (k+1)) (fun x h=>hx x (List.mem_of_mem_drop h))
 have v1:dval xs=dval (xs.drop (k+1))+10 ^ (xs.length-(k+1))*xs[k]+10 ^ (xs.length-(k+1)+1)*dval (xs.take k):=by
  conv=>lhs;rw [e1]
  rw [dval_append,dval_cons,List.length_cons,l1]
 have v2:dval ys=dval (ys.drop (k+1))+10 ^ (xs.length-(k+1))*ys[k]+10 ^ (xs.length-(k+1)+1)*dval (xs.take k):=by
  conv=>lhs;rw [e2]
  rw [dval_append,dval_cons,List.length_cons,l2,ht]
 rw [l1] at b1
 have h3:10 ^ (xs.length-(k+1))*(xs[k]+1)≤10 ^ (xs.length-(k+1))*ys[k]:=Nat.mul_le_mul_left _ h
 rw [Nat.mul_add,Nat.mul_one] at h3
 rw [v1,v2]
 omega
theorem dg_len_lt (m n:Nat) (h:(dg m).length<(dg n).length):m<n:=by
 unfold dg at h
 rw [List.length_reverse,List.length_reverse] at h
 exact length_lt 10 (by omega) m n h
set_option maxRecDepth 100000 in
set_option maxHeartbeats 3200000 in
theorem rcmp_any (v1 v2:Value) (m n:Nat) (w:World) (h1:Rd .i64 w v1 (dg m)) (h2:Rd .i64 w v2 (dg n)) :
 Calls Tryz.prog 117 #[v1,v2] w fun e w'=>e = .returned (.int .i64 (sgn m n))∧∃ k,w'=w.drewN k:=by
 obtain ⟨xs,hx⟩:∃ xs,dg m=xs:=⟨_,rfl⟩
 obtain ⟨ys,hy⟩:∃ xs,dg n=xs:=⟨_,rfl⟩
 have hlt1:xs.length<ys.length→m<n:=fun h=>dg_len_lt m n (by rw [hx,hy];exact h)
 have hlt2:ys.length<xs.length→n<m:=fun h=>dg_len_lt n m (by rw [hx,hy];exact h)
 have hvm:dval xs=m:=by rw [← hx,dval_dg]
 have hvn:dval ys=n:=by rw [← hy,dval_dg]
 rw [hx] at h1
 rw [hy] at h2
 have HX:Hid (∀ z∈xs,z<10):=Lib.hid (by rw [← hx];exact dg_lt _)
 have HY:Hid (∀ z∈ys,z<10):=Lib.hid (by rw [← hy];exact dg_lt _)
 have HVM:=Lib.hid (And.intro trivial hvm)
 have HVN:=Lib.hid (And.intro trivial hvn)
 obtain ⟨a1,c1,rfl,_,_,h3a⟩:=id h1
 obtain ⟨a2,c2,rfl,_,_,h3b⟩:=id h2
 have H3A:=Lib.hid h3a
 have H3B:=Lib.hid h3b
 have lx:=h1.length
 have ly:=h2.length
 obtain ⟨r,hr⟩:∃ r,sgn (m:Int) (n:Int)=r:=⟨_,rfl⟩
 rw [hr]
 have HR:=Lib.hid (And.intro trivial hr)
 clear hr hx hy hvm hvn h1 h2 h3a h3b
 by_cases hl:xs.length=ys.length
 · have hne:((xs.length:Int) != (ys.length:Int))=false:=by simp [hl]
   have HL:=Lib.hid (And.intro trivial hl)
   have hle1:xs.length≤ys.length:=by omega
   have hle2:ys.length≤xs.length:=by omega
   clear hl hlt1 hlt2
   go_enter Tryz.func117,Tryz.ntmps117
   go_wp2
   go_loopw [5] (fun i wr=>∃ k:Nat,k≤xs.length∧i = .int .i64 k∧Hid (xs.take k=ys.take k)∧Hid (∃ n,wr=w.drewN n)) (fun i _=>xs.length-(intOf i).toNat)
   case atStart=>exact ⟨0,by omega,rfl,Lib.hid rfl,Lib.hid ⟨0,rfl⟩⟩
   case round =>
    obtain ⟨k,hk,rfl,HT,HW⟩:=hrel
    obtain ⟨nn,rfl⟩:=HW.out
    by_cases hlt:k<xs.length
    · have hlt':(k:Int)<xs.length:=by omega
      have hky:k<ys.length:=by omega
      have hky':(k:Int)<ys.length:=by omega
      obtain ⟨g1,o1,rfl,hg1,hr1⟩:=H3A.out (by rintro h;rw [h] at hlt;simp at hlt)
      obtain ⟨g2,o2,rfl,hg2,hr2⟩:=H3B.out (by rintro h;rw [h] at hky;simp at hky)
      obtain ⟨p,hp⟩:∃ p,xs[k]=p:=⟨_,rfl⟩
      obtain ⟨q,hq⟩:∃ p,ys[k]=p:=⟨_,rfl⟩
      have d1:w.cell? ⟨g1,o1+k,none⟩=some (.int .i64 (p:Nat)):=by rw [← hp];exact hr1 k hlt
      have d2:w.cell? ⟨g2,o2+k,none⟩=some (.int .i64 (q:Nat)):=by rw [← hq];exact hr2 k hky
      clear hr1 hr2
      rcases Nat.lt_trichotomy p q with hpq | hpq | hpq
      · have hpq':(p:Int)<q:=by omega
        have HE:Hid (r = -1):=Lib.hid (by
         rw [← HR.out.2, ← HVM.out.2, ← HVN.out.2]
         exact sgn_lt (by have:=cmp_at xs ys HX.out k HL.out.2 hlt hky HT.out (by rw [hp,hq];exact hpq);omega))
        clear hp hq
        go_wp2
        go_quiet (fail)
        go_wp2
        go_ret
        exact ⟨by rw [HE.out];rfl,_,World.drewN_drewN ..⟩
      · have hpq1:¬ (p:Int)<q:=by omega
        have hpq2:¬ (q:Int)<p:=by omega
        have HT2:Hid (xs.take (k+1)=ys.take (k+1)):=Lib.hid (by rw [List.take_add_one,List.take_add_one,HT.out,List.getElem?_eq_getElem hlt,List.getElem?_eq_getElem hky,hp,hq,hpq])
        clear hp hq hpq
        go_wp2
        go_quiet (fail)
        go_wp2
        go_quiet (fail)
        go_wp2
        go_roundw
        case rel=>exact ⟨k+1,by omega,by go_num,HT2,Lib.hid ⟨_,rfl⟩⟩
        case measure=>simp [intOf];omega
      · have hpq1:¬ (p:Int)<q:=by omega
        have hpq2:(q:Int)<p:=by omega
        have HE:Hid (r=1):=Lib.hid (by
         rw [← HR.out.2, ← HVM.out.2, ← HVN.out.2]
         exact sgn_gt (by have:=cmp_at ys xs HY.out k HL.out.2.symm hky hlt HT.out.symm (by rw [hp,hq];exact hpq);omega))
        clear hp hq
        go_wp2
        go_quiet (fail)
        go_wp2
        go_quiet (fail)
        go_wp2
        go_ret
        exact ⟨by rw [HE.out];rfl,_,by rw [World.drewN_drewN,World.drewN_drewN]⟩
    · have HE:Hid (r=0):=Lib.hid (by
       have h1:=HT.out
       rw [List.take_of_length_le (by omega),List.take_of_length_le (by omega)] at h1
       have h2:=HVM.out.2
       have h3:=HVN.out.2
       rw [← h1] at h3
       rw [← HR.out.2];unfold sgn;rw [if_neg (by omega),if_neg (by omega)])
      go_wp2
      go_ret
      exact ⟨by rw [HE.out];rfl,nn,rfl⟩
 · have hne:((xs.length:Int) != (ys.length:Int))=true:=by simp;omega
   by_cases hlt:xs.length<ys.length
   · have hlt':(xs.length:Int)<ys.length:=by omega
     have HE:Hid (r = -1):=Lib.hid (by rw [← HR.out.2];exact sgn_lt (by have:=hlt1 hlt;omega))
     clear hlt1 hlt2 hl
     go_enter Tryz.func117,Tryz.ntmps117
     go_wp2
     go_ret
     exact ⟨by rw [HE.out];rfl,0,rfl⟩
   · have hlt':¬ (xs.length:Int)<ys.length:=by omega
     have HE:Hid (r=1):=Lib.hid (by rw [← HR.out.2];exact sgn_gt (by have:=hlt2 (by omega);omega))
     clear hlt1 hlt2 hl
     go_enter Tryz.func117,Tryz.ntmps117
     go_wp2
     go_ret
     exact ⟨by rw [HE.out];rfl,0,rfl⟩
def DigPost (z:Nat) (w:World) (e:Ending) (w':World):Prop:=∃ v zs,e = .returned v∧Rd .i64 w' v zs∧(∀ x∈zs,x<10)∧dval zs=z∧Below w.heap.size w w'
end Go.Proofs.YtkhdocdddicgpaaGreatDoor
set_option linter.unusedVariables false
set_option linter.unusedSimpArgs false
namespace Go.Proofs.YtkhdocdddicgpaaGreatDoor
open Go.RowKit _root_.Go.Proofs.YtkhdocdddicgpaaGreatDoor.Nm
def DigIn (z:Nat) (w:World) (e:Ending) (w':World):Prop:=∃ v zs,e = .returned v∧Rd .i64 w' v zs∧(∀ x∈zs,x<10)∧dval zs=z∧(∀ k,v.ownBlock=some k→w.heap.size≤k)∧Below w.heap.size w w'
structure PlW (xs ys:List Nat) (f:Int) (w wr:World) (i:Nat) (v:Value) (out:List Nat) (carry:Int):Prop where
 pl:Pl xs ys f i out carry
 own:Ow wr w.heap.size v out
 below:Below w.heap.size w wr
theorem Ow.one (wr:World) (B:Nat) (hB:B≤wr.heap.size) (d:Nat):(wr.alloc (.cells #[.int .i64 (d:Nat)] 3)).ownsRow B 3 1 (.slice (some ⟨wr.heap.size,0,none⟩) 1 1) 1 [.int .i64 (d:Nat)] :=
 ⟨rfl,.inr ⟨wr.heap.size,1,#[.int .i64 (d:Nat)],rfl,hB,heap_alloc_new _ _,Nat.le_refl _,by unfold maxLen;omega,rfl,rfl⟩⟩
theorem Ow.at {W:World} {B g cap:Nat} {xs:List Nat} (h:Ow W B (.slice (some ⟨g,0,none⟩) xs.length cap) xs) (j:Nat) (u:Value) (hu:(xs.map (fun x=>Value.int .i64 (x:Nat)))[j]?=some u):W.cell? ((⟨g,0,none⟩:Addr).add j)=some u:=by
 rcases h.2 with ⟨hv,_⟩ | ⟨g',cap',cur,hv,hB,hg,h1,h2,h3,h4⟩
 · cases hv
 · simp only [Value.slice.injEq,Option.some.injEq,Addr.mk.injEq] at hv
   obtain ⟨⟨rfl,_⟩,_,rfl⟩:=hv
   rw [Nat.mul_one] at h4
   rw [← h4,List.getElem?_take] at hu
   split at hu
   · rw [addr_add]
     simp only [World.cell?,hg,Nat.zero_add]
     simpa using hu
   · cases hu
set_option maxRecDepth 100000 in
set_option maxHeartbeats 6400000 in
theorem plus_loc (v1 v2:Value) (xs ys:List Nat) (f:Int) (z:Nat) (w:World) (h1:Rd .i64 w v1 xs) (h2:Rd .i64 w v2 ys) (hf:f=1∨f = -1) (hx:∀ x∈xs,x<10) (hy:∀ y∈ys,y<10) (hle:f = -1→dval ys≤dval xs)
 (lx:xs.length≤2000) (ly:ys.length≤2000) (hz:(z:Int)=dval xs+f*dval ys) :
 Calls Tryz.prog 116 #[v1,v2,.int .i64 f] w (DigIn z w):=by
 obtain ⟨a1,c1,rfl,_⟩:=id h1
 obtain ⟨a2,c2,rfl,_⟩:=id h2
 have H1:=Lib.hid h1
 have H2:=Lib.hid h2
 have HX:=Lib.hid hx
 have HY:=Lib.hid hy
 have HLE:=Lib.hid hle
 have HZ:=Lib.hid (And.intro trivial hz)
 have HF:=Lib.hid hf
 obtain ⟨la,hla⟩:∃ l,xs.length=l:=⟨_,rfl⟩
 obtain ⟨lb,hlb⟩:∃ l,ys.length=l:=⟨_,rfl⟩
 rw [hla] at lx H1
 rw [hlb] at ly H2
 rw [hla,hlb]
 have HLA:=Lib.hid (And.intro trivial hla)
 have HLB:=Lib.hid (And.intro trivial hlb)
 obtain ⟨M,hM1,hM2,hM3⟩:∃ M,la≤M∧lb≤M∧M≤2000:=⟨max la lb,Nat.le_max_left _ _,Nat.le_max_right _ _,Nat.max_le.2 ⟨lx,ly⟩⟩
 have hf1 : -1≤f∧f≤1:=by omega
 obtain ⟨hf1,hf2⟩:=hf1
 obtain ⟨i0,hi,hz0,hz1,hz2⟩:=info_parts info64
 have HI:=Lib.hid hi
 have HZ0:=Lib.hid hz0
 have HZ1:=Lib.hid hz1
 have HZ2:=Lib.hid hz2
 clear hi hz0 hz1 hz2 h1 h2 hx hy hle hz hf hla hlb
 go_enter Tryz.func116,Tryz.ntmps116
 go_wp2
 go_loopg [7,8,9,10] (M+1) (fun gk v c i _ wr=>∃ (k:Nat) (out:List Nat) (carry:Int),k+gk=M+1∧i = .int .i64 k∧c = .int .i64 carry∧Hid (PlW xs ys f w wr k v out carry)) 
 case atStart=>exact ⟨0,[],0,by omega,rfl,rfl,Lib.hid ⟨Pl.start _ _ _,⟨rfl,.inl ⟨rfl,rfl⟩⟩,Below.refl _ _⟩⟩
 case round =>
  obtain ⟨k,out,carry,hk,rfl,rfl,HP⟩:=hrel
  have hcc:=HP.out.pl.c
  obtain ⟨hc1,hc2⟩:=hcc
  by_cases hgo:k<la∨k<lb∨carry≠0
  · have hkM:k≤M:=by
     rcases Nat.lt_or_ge k (M+1) with h | h
     · omega
     · exfalso
       have:=HP.out.pl.last HF.out HX.out HY.out HLE.out M (by rw [HLA.out.2];exact hM1) (by rw [HLB.out.2];exact hM2) h
       omega
    obtain ⟨X,hX⟩:∃ X,dgt xs k=X:=⟨_,rfl⟩
    obtain ⟨Y,hY⟩:∃ X,dgt ys k=X:=⟨_,rfl⟩
    have hX10:X<10:=by rw [← hX];exact dgt_lt xs HX.out k
    have hY10:Y<10:=by rw [← hY];exact dgt_lt ys HY.out k
    have hm : -9≤f*(Y:Int)∧f*(Y:Int)≤9:=by rcases HF.out with h | h <;> rw [h] <;> omega
    obtain ⟨hm1,hm2⟩:=hm
    have HXD:=Lib.hid (And.intro trivial hX)
    have HYD:=Lib.hid (And.intro trivial hY)
    have hB:w.heap.size≤wr.heap.size:=HP.out.below.size
    have HR1:=Lib.hid (H1.out.keep HP.out.below (Nat.le_refl _))
    have HR2:=Lib.hid (H2.out.keep HP.out.below (Nat.le_refl _))
    have hkk:k≤100000:=by omega
    obtain ⟨E,hE⟩:∃ E,(X:Int)+f*(Y:Int)+carry=E:=⟨_,rfl⟩
    have HE:=Lib.hid (And.intro trivial hE)
    have hE1 : -10≤E∧E≤19:=by omega
    obtain ⟨hE1,hE2⟩:=hE1
    clear hX hY
    obtain ⟨dd,cc,hdd,hcase⟩:∃ (d:Nat) (c:Int),d<10∧((E<0∧(d:Int)=E+10∧c = -1)∨(¬ E<0∧¬ 9<E∧(d:Int)=E∧c=0)∨(¬ E<0∧9<E∧(d:Int)=E-10∧c=1)):=by
     by_cases q1:E<0
     · exact ⟨(E+10).toNat,-1,by omega,.inl ⟨q1,by omega,rfl⟩⟩
     · by_cases q2:9<E
       · exact ⟨(E-10).toNat,1,by omega,.inr (.inr ⟨q1,q2,by omega,rfl⟩)⟩
       · exact ⟨E.toNat,0,by omega,.inr (.inl ⟨q1,q2,by omega,rfl⟩)⟩
    have HN:Hid (Pl xs ys f (k+1) (dd::out) cc):=Lib.hid (HP.out.pl.next HF.out HX.out HY.out dd cc hdd (by rw [HXD.out.2,HYD.out.2,hE];omega))
    have hol:out.length≤2000:=by rw [HP.out.pl.len];omega
    have hgo':=hgo
    rcases HP.out.own.2 with ⟨hv,h0⟩ | ⟨g,cap,cur,hv,hBg,hg,hc1',hc2',_,_⟩
    · subst hv
      obtain rfl:out=[]:=List.length_eq_zero_iff.1 h0
      clear hgo' h0
      rcases (show (k<la)∨(¬ k<la∧k<lb)∨(¬ k<la∧¬ k<lb∧carry≠0) by omega) with g1 | ⟨g1,g2⟩ | ⟨g1,g2,g3⟩
      · have g1':(k:Int)<la:=by omega
        clear g1
        rcases hcase with ⟨q1,q2,rfl⟩ | ⟨q1,q2,q3,rfl⟩ | ⟨q1,q2,q3,rfl⟩
        · have q5:E+10=(dd:Int):=q2.symm
          clear q2
          go_wp2_with fail
          refine (digit_any _ xs k _ HR1.out hkk).mono ?_
          rintro e w' ⟨rfl,hw⟩
          rw [hw,HXD.out.2]
          clear hw
          go_wp2_with fail
          refine (digit_any _ ys k _ HR2.out hkk).mono ?_
          rintro e w' ⟨rfl,hw⟩
          rw [hw,HYD.out.2]
          clear hw w'
          go_wp2_with (at_builtin;refine wpList_append_own_none rfl _ _ 29 rfl w.heap.size 3 i0 1 Tryz.underlying29 HI.out _ _ _ rfl (Ow.one wr w.heap.size hB dd) rfl ?_)
          have HP2:Hid (PlW xs ys f w (wr.alloc (.cells #[.int .i64 (dd:Nat)] 3)) (k+1) (.slice (some ⟨wr.heap.size,0,none⟩) 1 1) [dd] (-1)):=Lib.hid ⟨HN.out,Ow.one wr w.heap.size hB dd,HP.out.below.alloc hB _⟩
          clear HN
          go_wp2
          go_roundg (gk-1)
          case measure=>omega
          case rel=>exact ⟨k+1,[dd],(-1),by omega,by go_num,rfl,HP2⟩
        · obtain rfl:E=(dd:Int):=q3.symm
          clear q3
          go_wp2_with fail
          refine (digit_any _ xs k _ HR1.out hkk).mono ?_
          rintro e w' ⟨rfl,hw⟩
          rw [hw,HXD.out.2]
          clear hw
          go_wp2_with fail
          refine (digit_any _ ys k _ HR2.out hkk).mono ?_
          rintro e w' ⟨rfl,hw⟩
          rw [hw,HYD.out.2]
          clear hw w'
          go_wp2_with (at_builtin;refine wpList_append_own_none rfl _ _ 29 rfl w.heap.size 3 i0 1 Tryz.underlying29 HI.out _ _ _ rfl (Ow.one wr w.heap.size hB dd) rfl ?_)
          have HP2:Hid (PlW xs ys f w (wr.alloc (.cells #[.int .i64 (dd:Nat)] 3)) (k+1) (.slice (some ⟨wr.heap.size,0,none⟩) 1 1) [dd] 0):=Lib.hid ⟨HN.out,Ow.one wr w.heap.size hB dd,HP.out.below.alloc hB _⟩
          clear HN
          go_wp2
          go_roundg (gk-1)
          case measure=>omega
          case rel=>exact ⟨k+1,[dd],0,by omega,by go_num,rfl,HP2⟩
        · have q5:E-10=(dd:Int):=q3.symm
          clear q3
          go_wp2_with fail
          refine (digit_any _ xs k _ HR1.out hkk).mono ?_
          rintro e w' ⟨rfl,hw⟩
          rw [hw,HXD.out.2]
          clear hw
          go_wp2_with fail
          refine (digit_any _ ys k _ HR2.out hkk).mono ?_
          rintro e w' ⟨rfl,hw⟩
          rw [hw,HYD.out.2]
          clear hw w'
          go_wp2_with (at_builtin;refine wpList_append_own_none rfl _ _ 29 rfl w.heap.size 3 i0 1 Tryz.underlying29 HI.out _ _ _ rfl (Ow.one wr w.heap.size hB dd) rfl ?_)
          have HP2:Hid (PlW xs ys f w (wr.alloc (.cells #[.int .i64 (dd:Nat)] 3)) (k+1) (.slice (some ⟨wr.heap.size,0,none⟩) 1 1) [dd] 1):=Lib.hid ⟨HN.out,Ow.one wr w.heap.size hB dd,HP.out.below.alloc hB _⟩
          clear HN
          go_wp2
          go_roundg (gk-1)
          case measure=>omega
          case rel=>exact ⟨k+1,[dd],1,by omega,by go_num,rfl,HP2⟩
      · have g1':¬ (k:Int)<la:=by omega
        have g2':(k:Int)<lb:=by omega
        clear g1 g2
        rcases hcase with ⟨q1,q2,rfl⟩ | ⟨q1,q2,q3,rfl⟩ | ⟨q1,q2,q3,rfl⟩
        · have q5:E+10=(dd:Int):=q2.symm
          clear q2
          go_wp2_with fail
          refine (digit_any _ xs k _ HR1.out hkk).mono ?_
          rintro e w' ⟨rfl,hw⟩
          rw [hw,HXD.out.2]
          clear hw
          go_wp2_with fail
          refine (digit_any _ ys k _ HR2.out hkk).mono ?_
          rintro e w' ⟨rfl,hw⟩
          rw [hw,HYD.out.2]
          clear hw w'
          go_wp2_with (at_builtin;refine wpList_append_own_none rfl _ _ 29 rfl w.heap.size 3 i0 1 Tryz.underlying29 HI.out _ _ _ rfl (Ow.one wr w.heap.size hB dd) rfl ?_)
          have HP2:Hid (PlW xs ys f w (wr.alloc (.cells #[.int .i64 (dd:Nat)] 3)) (k+1) (.slice (some ⟨wr.heap.size,0,none⟩) 1 1) [dd] (-1)):=Lib.hid ⟨HN.out,Ow.one wr w.heap.size hB dd,HP.out.below.alloc hB _⟩
          clear HN
          go_wp2
          go_roundg (gk-1)
          case measure=>omega
          case rel=>exact ⟨k+1,[dd],(-1),by omega,by go_num,rfl,HP2⟩
        · obtain rfl:E=(dd:Int):=q3.symm
          clear q3
          go_wp2_with fail
          refine (digit_any _ xs k _ HR1.out hkk).mono ?_
          rintro e w' ⟨rfl,hw⟩
          rw [hw,HXD.out.2]
          clear hw
          go_wp2_with fail
          refine (digit_any _ ys k _ HR2.out hkk).mono ?_
          rintro e w' ⟨rfl,hw⟩
          rw [hw,HYD.out.2]
          clear hw w'
          go_wp2_with (at_builtin;refine wpList_append_own_none rfl _ _ 29 rfl w.heap.size 3 i0 1 Tryz.underlying29 HI.out _ _ _ rfl (Ow.one wr w.heap.size hB dd) rfl ?_)
          have HP2:Hid (PlW xs ys f w (wr.alloc (.cells #[.int .i64 (dd:Nat)] 3)) (k+1) (.slice (some ⟨wr.heap.size,0,none⟩) 1 1) [dd] 0):=Lib.hid ⟨HN.out,Ow.one wr w.heap.size hB dd,HP.out.below.alloc hB _⟩
          clear HN
          go_wp2
          go_roundg (gk-1)
          case measure=>omega
          case rel=>exact ⟨k+1,[dd],0,by omega,by go_num,rfl,HP2⟩
        · have q5:E-10=(dd:Int):=q3.symm
          clear q3
          go_wp2_with fail
          refine (digit_any _ xs k _ HR1.out hkk).mono ?_
          rintro e w' ⟨rfl,hw⟩
          rw [hw,HXD.out.2]
          clear hw
          go_wp2_with fail
          refine (digit_any _ ys k _ HR2.out hkk).mono ?_
          rintro e w' ⟨rfl,hw⟩
          rw [hw,HYD.out.2]
          clear hw w'
          go_wp2_with (at_builtin;refine wpList_append_own_none rfl _ _ 29 rfl w.heap.size 3 i0 1 Tryz.underlying29 HI.out _ _ _ rfl (Ow.one wr w.heap.size hB dd) rfl ?_)
          have HP2:Hid (PlW xs ys f w (wr.alloc (.cells #[.int .i64 (dd:Nat)] 3)) (k+1) (.slice (some ⟨wr.heap.size,0,none⟩) 1 1) [dd] 1):=Lib.hid ⟨HN.out,Ow.one wr w.heap.size hB dd,HP.out.below.alloc hB _⟩
          clear HN
          go_wp2
          go_roundg (gk-1)
          case measure=>omega
          case rel=>exact ⟨k+1,[dd],1,by omega,by go_num,rfl,HP2⟩
      · have g1':¬ (k:Int)<la:=by omega
        have g2':¬ (k:Int)<lb:=by omega
        have g3':(carry != 0)=true:=by simp [g3]
        clear g1 g2
        rcases hcase with ⟨q1,q2,rfl⟩ | ⟨q1,q2,q3,rfl⟩ | ⟨q1,q2,q3,rfl⟩
        · have q5:E+10=(dd:Int):=q2.symm
          clear q2
          go_wp2_with fail
          refine (digit_any _ xs k _ HR1.out hkk).mono ?_
          rintro e w' ⟨rfl,hw⟩
          rw [hw,HXD.out.2]
          clear hw
          go_wp2_with fail
          refine (digit_any _ ys k _ HR2.out hkk).mono ?_
          rintro e w' ⟨rfl,hw⟩
          rw [hw,HYD.out.2]
          clear hw w'
          go_wp2_with (at_builtin;refine wpList_append_own_none rfl _ _ 29 rfl w.heap.size 3 i0 1 Tryz.underlying29 HI.out _ _ _ rfl (Ow.one wr w.heap.size hB dd) rfl ?_)
          have HP2:Hid (PlW xs ys f w (wr.alloc (.cells #[.int .i64 (dd:Nat)] 3)) (k+1) (.slice (some ⟨wr.heap.size,0,none⟩) 1 1) [dd] (-1)):=Lib.hid ⟨HN.out,Ow.one wr w.heap.size hB dd,HP.out.below.alloc hB _⟩
          clear HN
          go_wp2
          go_roundg (gk-1)
          case measure=>omega
          case rel=>exact ⟨k+1,[dd],(-1),by omega,by go_num,rfl,HP2⟩
        · obtain rfl:E=(dd:Int):=q3.symm
          clear q3
          go_wp2_with fail
          refine (digit_any _ xs k _ HR1.out hkk).mono ?_
          rintro e w' ⟨rfl,hw⟩
          rw [hw,HXD.out.2]
          clear hw
          go_wp2_with fail
          refine (digit_any _ ys k _ HR2.out hkk).mono ?_
          rintro e w' ⟨rfl,hw⟩
          rw [hw,HYD.out.2]
          clear hw w'
          go_wp2_with (at_builtin;refine wpList_append_own_none rfl _ _ 29 rfl w.heap.size 3 i0 1 Tryz.underlying29 HI.out _ _ _ rfl (Ow.one wr w.heap.size hB dd) rfl ?_)
          have HP2:Hid (PlW xs ys f w (wr.alloc (.cells #[.int .i64 (dd:Nat)] 3)) (k+1) (.slice (some ⟨wr.heap.size,0,none⟩) 1 1) [dd] 0):=Lib.hid ⟨HN.out,Ow.one wr w.heap.size hB dd,HP.out.below.alloc hB _⟩
          clear HN
          go_wp2
          go_roundg (gk-1)
          case measure=>omega
          case rel=>exact ⟨k+1,[dd],0,by omega,by go_num,rfl,HP2⟩
        · have q5:E-10=(dd:Int):=q3.symm
          clear q3
          go_wp2_with fail
          refine (digit_any _ xs k _ HR1.out hkk).mono ?_
          rintro e w' ⟨rfl,hw⟩
          rw [hw,HXD.out.2]
          clear hw
          go_wp2_with fail
          refine (digit_any _ ys k _ HR2.out hkk).mono ?_
          rintro e w' ⟨rfl,hw⟩
          rw [hw,HYD.out.2]
          clear hw w'
          go_wp2_with (at_builtin;refine wpList_append_own_none rfl _ _ 29 rfl w.heap.size 3 i0 1 Tryz.underlying29 HI.out _ _ _ rfl (Ow.one wr w.heap.size hB dd) rfl ?_)
          have HP2:Hid (PlW xs ys f w (wr.alloc (.cells #[.int .i64 (dd:Nat)] 3)) (k+1) (.slice (some ⟨wr.heap.size,0,none⟩) 1 1) [dd] 1):=Lib.hid ⟨HN.out,Ow.one wr w.heap.size hB dd,HP.out.below.alloc hB _⟩
          clear HN
          go_wp2
          go_roundg (gk-1)
          case measure=>omega
          case rel=>exact ⟨k+1,[dd],1,by omega,by go_num,rfl,HP2⟩
    · subst hv
      have hgl:g<wr.heap.size:=by
       rcases Nat.lt_or_ge g wr.heap.size with h' | h'
       · exact h'
       · simp [Array.getElem?_eq_none h'] at hg
      clear hgo' hg hc1' hc2'
      rcases (show (k<la)∨(¬ k<la∧k<lb)∨(¬ k<la∧¬ k<lb∧carry≠0) by omega) with g1 | ⟨g1,g2⟩ | ⟨g1,g2,g3⟩
      · have g1':(k:Int)<la:=by omega
        clear g1
        rcases hcase with ⟨q1,q2,rfl⟩ | ⟨q1,q2,q3,rfl⟩ | ⟨q1,q2,q3,rfl⟩
        · have q5:E+10=(dd:Int):=q2.symm
          clear q2
          go_wp2_with fail
          refine (digit_any _ xs k _ HR1.out hkk).mono ?_
          rintro e w' ⟨rfl,hw⟩
          rw [hw,HXD.out.2]
          clear hw
          go_wp2_with fail
          refine (digit_any _ ys k _ HR2.out hkk).mono ?_
          rintro e w' ⟨rfl,hw⟩
          rw [hw,HYD.out.2]
          clear hw w'
          go_wp2_with (at_builtin;refine wpList_append_own _ rfl _ _ 29 rfl w.heap.size 3 i0 (.int .i64 0) 1 8 Tryz.underlying29 HI.out HZ0.out HZ1.out HZ2.out rfl (by decide) _ _ _ rfl (Ow.one wr w.heap.size hB dd) ⟨g,0,none⟩ out.length cap (out.map (fun x=>Value.int .i64 (x:Nat))) rfl (by simp) (fun j u hu=>(((Below.refl wr.heap.size wr).alloc (Nat.le_refl _) _).cell (p:=(⟨g,0,none⟩:Addr).add j) (by rw [addr_add];exact hgl)).trans (HP.out.own.at j u hu)) (fun u hu=>by obtain ⟨x,_,rfl⟩:=List.mem_map.1 hu;rfl) (by unfold maxLen;omega) (by omega) (by simp;omega) ?_)
          intro v' w2 hown' hgrow _
          have HP2:Hid (PlW xs ys f w w2 (k+1) v' (dd::out) (-1)):=Lib.hid ⟨HN.out,by
           unfold Ow
           rw [List.length_cons,Nat.add_comm out.length 1]
           exact hown',(HP.out.below.alloc hB _).grown hgrow (by simp;omega) (fun k hk=>by simp [Value.ownBlock] at hk;omega)⟩
          clear HN hown' hgrow
          go_wp2
          go_roundg (gk-1)
          case measure=>omega
          case rel=>exact ⟨k+1,dd::out,(-1),by omega,by go_num,rfl,HP2⟩
        · obtain rfl:E=(dd:Int):=q3.symm
          clear q3
          go_wp2_with fail
          refine (digit_any _ xs k _ HR1.out hkk).mono ?_
          rintro e w' ⟨rfl,hw⟩
          rw [hw,HXD.out.2]
          clear hw
          go_wp2_with fail
          refine (digit_any _ ys k _ HR2.out hkk).mono ?_
          rintro e w' ⟨rfl,hw⟩
          rw [hw,HYD.out.2]
          clear hw w'
          go_wp2_with (at_builtin;refine wpList_append_own _ rfl _ _ 29 rfl w.heap.size 3 i0 (.int .i64 0) 1 8 Tryz.underlying29 HI.out HZ0.out HZ1.out HZ2.out rfl (by decide) _ _ _ rfl (Ow.one wr w.heap.size hB dd) ⟨g,0,none⟩ out.length cap (out.map (fun x=>Value.int .i64 (x:Nat))) rfl (by simp) (fun j u hu=>(((Below.refl wr.heap.size wr).alloc (Nat.le_refl _) _).cell (p:=(⟨g,0,none⟩:Addr).add j) (by rw [addr_add];exact hgl)).trans (HP.out.own.at j u hu)) (fun u hu=>by obtain ⟨x,_,rfl⟩:=List.mem_map.1 hu;rfl) (by unfold maxLen;omega) (by omega) (by simp;omega) ?_)
          intro v' w2 hown' hgrow _
          have HP2:Hid (PlW xs ys f w w2 (k+1) v' (dd::out) 0):=Lib.hid ⟨HN.out,by
           unfold Ow
           rw [List.length_cons,Nat.add_comm out.length 1]
           exact hown',(HP.out.below.alloc hB _).grown hgrow (by simp;omega) (fun k hk=>by simp [Value.ownBlock] at hk;omega)⟩
          clear HN hown' hgrow
          go_wp2
          go_roundg (gk-1)
          case measure=>omega
          case rel=>exact ⟨k+1,dd::out,0,by omega,by go_num,rfl,HP2⟩
        · have q5:E-10=(dd:Int):=q3.symm
          clear q3
          go_wp2_with fail
          refine (digit_any _ xs k _ HR1.out hkk).mono ?_
          rintro e w' ⟨rfl,hw⟩
          rw [hw,HXD.out.2]
          clear hw
          go_wp2_with fail
          refine (digit_any _ ys k _ HR2.out hkk).mono ?_
          rintro e w' ⟨rfl,hw⟩
          rw [hw,HYD.out.2]
          clear hw w'
          go_wp2_with (at_builtin;refine wpList_append_own _ rfl _ _ 29 rfl w.heap.size 3 i0 (.int .i64 0) 1 8 Tryz.underlying29 HI.out HZ0.out HZ1.out HZ2.out rfl (by decide) _ _ _ rfl (Ow.one wr w.heap.size hB dd) ⟨g,0,none⟩ out.length cap (out.map (fun x=>Value.int .i64 (x:Nat))) rfl (by simp) (fun j u hu=>(((Below.refl wr.heap.size wr).alloc (Nat.le_refl _) _).cell (p:=(⟨g,0,none⟩:Addr).add j) (by rw [addr_add];exact hgl)).trans (HP.out.own.at j u hu)) (fun u hu=>by obtain ⟨x,_,rfl⟩:=List.mem_map.1 hu;rfl) (by unfold maxLen;omega) (by omega) (by simp;omega) ?_)
          intro v' w2 hown' hgrow _
          have HP2:Hid (PlW xs ys f w w2 (k+1) v' (dd::out) 1):=Lib.hid ⟨HN.out,by
           unfold Ow
           rw [List.length_cons,Nat.add_comm out.length 1]
           exact hown',(HP.out.below.alloc hB _).grown hgrow (by simp;omega) (fun k hk=>by simp [Value.ownBlock] at hk;omega)⟩
          clear HN hown' hgrow
          go_wp2
          go_roundg (gk-1)
          case measure=>omega
          case rel=>exact ⟨k+1,dd::out,1,by omega,by go_num,rfl,HP2⟩
      · have g1':¬ (k:Int)<la:=by omega
        have g2':(k:Int)<lb:=by omega
        clear g1 g2
        rcases hcase with ⟨q1,q2,rfl⟩ | ⟨q1,q2,q3,rfl⟩ | ⟨q1,q2,q3,rfl⟩
        · have q5:E+10=(dd:Int):=q2.symm
          clear q2
          go_wp2_with fail
          refine (digit_any _ xs k _ HR1.out hkk).mono ?_
          rintro e w' ⟨rfl,hw⟩
          rw [hw,HXD.out.2]
          clear hw
          go_wp2_with fail
          refine (digit_any _ ys k _ HR2.out hkk).mono ?_
          rintro e w' ⟨rfl,hw⟩
          rw [hw,HYD.out.2]
          clear hw w'
          go_wp2_with (at_builtin;refine wpList_append_own _ rfl _ _ 29 rfl w.heap.size 3 i0 (.int .i64 0) 1 8 Tryz.underlying29 HI.out HZ0.out HZ1.out HZ2.out rfl (by decide) _ _ _ rfl (Ow.one wr w.heap.size hB dd) ⟨g,0,none⟩ out.length cap (out.map (fun x=>Value.int .i64 (x:Nat))) rfl (by simp) (fun j u hu=>(((Below.refl wr.heap.size wr).alloc (Nat.le_refl _) _).cell (p:=(⟨g,0,none⟩:Addr).add j) (by rw [addr_add];exact hgl)).trans (HP.out.own.at j u hu)) (fun u hu=>by obtain ⟨x,_,rfl⟩:=List.mem_map.1 hu;rfl) (by unfold maxLen;omega) (by omega) (by simp;omega) ?_)
          intro v' w2 hown' hgrow _
          have HP2:Hid (PlW xs ys f w w2 (k+1) v' (dd::out) (-1)):=Lib.hid ⟨HN.out,by
           unfold Ow
           rw [List.length_cons,Nat.add_comm out.length 1]
           exact hown',(HP.out.below.alloc hB _).grown hgrow (by simp;omega) (fun k hk=>by simp [Value.ownBlock] at hk;omega)⟩
          clear HN hown' hgrow
          go_wp2
          go_roundg (gk-1)
          case measure=>omega
          case rel=>exact ⟨k+1,dd::out,(-1),by omega,by go_num,rfl,HP2⟩
        · obtain rfl:E=(dd:Int):=q3.symm
          clear q3
          go_wp2_with fail
          refine (digit_any _ xs k _ HR1.out hkk).mono ?_
          rintro e w' ⟨rfl,hw⟩
          rw [hw,HXD.out.2]
          clear hw
          go_wp2_with fail
          refine (digit_any _ ys k _ HR2.out hkk).mono ?_
          rintro e w' ⟨rfl,hw⟩
          rw [hw,HYD.out.2]
          clear hw w'
          go_wp2_with (at_builtin;refine wpList_append_own _ rfl _ _ 29 rfl w.heap.size 3 i0 (.int .i64 0) 1 8 Tryz.underlying29 HI.out HZ0.out HZ1.out HZ2.out rfl (by decide) _ _ _ rfl (Ow.one wr w.heap.size hB dd) ⟨g,0,none⟩ out.length cap (out.map (fun x=>Value.int .i64 (x:Nat))) rfl (by simp) (fun j u hu=>(((Below.refl wr.heap.size wr).alloc (Nat.le_refl _) _).cell (p:=(⟨g,0,none⟩:Addr).add j) (by rw [addr_add];exact hgl)).trans (HP.out.own.at j u hu)) (fun u hu=>by obtain ⟨x,_,rfl⟩:=List.mem_map.1 hu;rfl) (by unfold maxLen;omega) (by omega) (by simp;omega) ?_)
          intro v' w2 hown' hgrow _
          have HP2:Hid (PlW xs ys f w w2 (k+1) v' (dd::out) 0):=Lib.hid ⟨HN.out,by
           unfold Ow
           rw [List.length_cons,Nat.add_comm out.length 1]
           exact hown',(HP.out.below.alloc hB _).grown hgrow (by simp;omega) (fun k hk=>by simp [Value.ownBlock] at hk;omega)⟩
          clear HN hown' hgrow
          go_wp2
          go_roundg (gk-1)
          case measure=>omega
          case rel=>exact ⟨k+1,dd::out,0,by omega,by go_num,rfl,HP2⟩
        · have q5:E-10=(dd:Int):=q3.symm
          clear q3
          go_wp2_with fail
          refine (digit_any _ xs k _ HR1.out hkk).mono ?_
          rintro e w' ⟨rfl,hw⟩
          rw [hw,HXD.out.2]
          clear hw
          go_wp2_with fail
          refine (digit_any _ ys k _ HR2.out hkk).mono ?_
          rintro e w' ⟨rfl,hw⟩
          rw [hw,HYD.out.2]
          clear hw w'
          go_wp2_with (at_builtin;refine wpList_append_own _ rfl _ _ 29 rfl w.heap.size 3 i0 (.int .i64 0) 1 8 Tryz.underlying29 HI.out HZ0.out HZ1.out HZ2.out rfl (by decide) _ _ _ rfl (Ow.one wr w.heap.size hB dd) ⟨g,0,none⟩ out.length cap (out.map (fun x=>Value.int .i64 (x:Nat))) rfl (by simp) (fun j u hu=>(((Below.refl wr.heap.size wr).alloc (Nat.le_refl _) _).cell (p:=(⟨g,0,none⟩:Addr).add j) (by rw [addr_add];exact hgl)).trans (HP.out.own.at j u hu)) (fun u hu=>by obtain ⟨x,_,rfl⟩:=List.mem_map.1 hu;rfl) (by unfold maxLen;omega) (by omega) (by simp;omega) ?_)
          intro v' w2 hown' hgrow _
          have HP2:Hid (PlW xs ys f w w2 (k+1) v' (dd::out) 1):=Lib.hid ⟨HN.out,by
           unfold Ow
           rw [List.length_cons,Nat.add_comm out.length 1]
           exact hown',(HP.out.below.alloc hB _).grown hgrow (by simp;omega) (fun k hk=>by simp [Value.ownBlock] at hk;omega)⟩
          clear HN hown' hgrow
          go_wp2
          go_roundg (gk-1)
          case measure=>omega
          case rel=>exact ⟨k+1,dd::out,1,by omega,by go_num,rfl,HP2⟩
      · have g1':¬ (k:Int)<la:=by omega
        have g2':¬ (k:Int)<lb:=by omega
        have g3':(carry != 0)=true:=by simp [g3]
        clear g1 g2
        rcases hcase with ⟨q1,q2,rfl⟩ | ⟨q1,q2,q3,rfl⟩ | ⟨q1,q2,q3,rfl⟩
        · have q5:E+10=(dd:Int):=q2.symm
          clear q2
          go_wp2_with fail
          refine (digit_any _ xs k _ HR1.out hkk).mono ?_
          rintro e w' ⟨rfl,hw⟩
          rw [hw,HXD.out.2]
          clear hw
          go_wp2_with fail
          refine (digit_any _ ys k _ HR2.out hkk).mono ?_
          rintro e w' ⟨rfl,hw⟩
          rw [hw,HYD.out.2]
          clear hw w'
          go_wp2_with (at_builtin;refine wpList_append_own _ rfl _ _ 29 rfl w.heap.size 3 i0 (.int .i64 0) 1 8 Tryz.underlying29 HI.out HZ0.out HZ1.out HZ2.out rfl (by decide) _ _ _ rfl (Ow.one wr w.heap.size hB dd) ⟨g,0,none⟩ out.length cap (out.map (fun x=>Value.int .i64 (x:Nat))) rfl (by simp) (fun j u hu=>(((Below.refl wr.heap.size wr).alloc (Nat.le_refl _) _).cell (p:=(⟨g,0,none⟩:Addr).add j) (by rw [addr_add];exact hgl)).trans (HP.out.own.at j u hu)) (fun u hu=>by obtain ⟨x,_,rfl⟩:=List.mem_map.1 hu;rfl) (by unfold maxLen;omega) (by omega) (by simp;omega) ?_)
          intro v' w2 hown' hgrow _
          have HP2:Hid (PlW xs ys f w w2 (k+1) v' (dd::out) (-1)):=Lib.hid ⟨HN.out,by
           unfold Ow
           rw [List.length_cons,Nat.add_comm out.length 1]
           exact hown',(HP.out.below.alloc hB _).grown hgrow (by simp;omega) (fun k hk=>by simp [Value.ownBlock] at hk;omega)⟩
          clear HN hown' hgrow
          go_wp2
          go_roundg (gk-1)
          case measure=>omega
          case rel=>exact ⟨k+1,dd::out,(-1),by omega,by go_num,rfl,HP2⟩
        · obtain rfl:E=(dd:Int):=q3.symm
          clear q3
          go_wp2_with fail
          refine (digit_any _ xs k _ HR1.out hkk).mono ?_
          rintro e w' ⟨rfl,hw⟩
          rw [hw,HXD.out.2]
          clear hw
          go_wp2_with fail
          refine (digit_any _ ys k _ HR2.out hkk).mono ?_
          rintro e w' ⟨rfl,hw⟩
          rw [hw,HYD.out.2]
          clear hw w'
          go_wp2_with (at_builtin;refine wpList_append_own _ rfl _ _ 29 rfl w.heap.size 3 i0 (.int .i64 0) 1 8 Tryz.underlying29 HI.out HZ0.out HZ1.out HZ2.out rfl (by decide) _ _ _ rfl (Ow.one wr w.heap.size hB dd) ⟨g,0,none⟩ out.length cap (out.map (fun x=>Value.int .i64 (x:Nat))) rfl (by simp) (fun j u hu=>(((Below.refl wr.heap.size wr).alloc (Nat.le_refl _) _).cell (p:=(⟨g,0,none⟩:Addr).add j) (by rw [addr_add];exact hgl)).trans (HP.out.own.at j u hu)) (fun u hu=>by obtain ⟨x,_,rfl⟩:=List.mem_map.1 hu;rfl) (by unfold maxLen;omega) (by omega) (by simp;omega) ?_)
          intro v' w2 hown' hgrow _
          have HP2:Hid (PlW xs ys f w w2 (k+1) v' (dd::out) 0):=Lib.hid ⟨HN.out,by
           unfold Ow
           rw [List.length_cons,Nat.add_comm out.length 1]
           exact hown',(HP.out.below.alloc hB _).grown hgrow (by simp;omega) (fun k hk=>by simp [Value.ownBlock] at hk;omega)⟩
          clear HN hown' hgrow
          go_wp2
          go_roundg (gk-1)
          case measure=>omega
          case rel=>exact ⟨k+1,dd::out,0,by omega,by go_num,rfl,HP2⟩
        · have q5:E-10=(dd:Int):=q3.symm
          clear q3
          go_wp2_with fail
          refine (digit_any _ xs k _ HR1.out hkk).mono ?_
          rintro e w' ⟨rfl,hw⟩
          rw [hw,HXD.out.2]
          clear hw
          go_wp2_with fail
          refine (digit_any _ ys k _ HR2.out hkk).mono ?_
          rintro e w' ⟨rfl,hw⟩
          rw [hw,HYD.out.2]
          clear hw w'
          go_wp2_with (at_builtin;refine wpList_append_own _ rfl _ _ 29 rfl w.heap.size 3 i0 (.int .i64 0) 1 8 Tryz.underlying29 HI.out HZ0.out HZ1.out HZ2.out rfl (by decide) _ _ _ rfl (Ow.one wr w.heap.size hB dd) ⟨g,0,none⟩ out.length cap (out.map (fun x=>Value.int .i64 (x:Nat))) rfl (by simp) (fun j u hu=>(((Below.refl wr.heap.size wr).alloc (Nat.le_refl _) _).cell (p:=(⟨g,0,none⟩:Addr).add j) (by rw [addr_add];exact hgl)).trans (HP.out.own.at j u hu)) (fun u hu=>by obtain ⟨x,_,rfl⟩:=List.mem_map.1 hu;rfl) (by unfold maxLen;omega) (by omega) (by simp;omega) ?_)
          intro v' w2 hown' hgrow _
          have HP2:Hid (PlW xs ys f w w2 (k+1) v' (dd::out) 1):=Lib.hid ⟨HN.out,by
           unfold Ow
           rw [List.length_cons,Nat.add_comm out.length 1]
           exact hown',(HP.out.below.alloc hB _).grown hgrow (by simp;omega) (fun k hk=>by simp [Value.ownBlock] at hk;omega)⟩
          clear HN hown' hgrow
          go_wp2
          go_roundg (gk-1)
          case measure=>omega
          case rel=>exact ⟨k+1,dd::out,1,by omega,by go_num,rfl,HP2⟩
  · have g1:¬ (k:Int)<la:=by omega
    have g2:¬ (k:Int)<lb:=by omega
    have g3:carry=0:=by omega
    subst g3
    have hd:=HP.out.pl.done (by rw [HLA.out.2];omega) (by rw [HLB.out.2];omega)
    have HD:Hid (True∧dval out=z):=Lib.hid ⟨trivial,by have:=HZ.out.2;omega⟩
    have HO:Hid (Rd .i64 wr u7 out):=Lib.hid (HP.out.own.rd (by have h1:=HP.out.pl.len;have h2:=HP.out.pl.last HF.out HX.out HY.out HLE.out M (by rw [HLA.out.2];exact hM1) (by rw [HLB.out.2];exact hM2);omega))
    obtain ⟨a3,c3,hv3,_⟩:=id HO.out
    subst hv3
    clear hgo hd
    go_wp2
    go_ret
    exact ⟨_,out,rfl,HO.out,HP.out.pl.lt,HD.out.2,fun k hk=>(HP.out.own.lt k hk).1,HP.out.below⟩
theorem plus_any (v1 v2:Value) (xs ys:List Nat) (f:Int) (z:Nat) (w:World) (h1:Rd .i64 w v1 xs) (h2:Rd .i64 w v2 ys) (hf:f=1∨f = -1) (hx:∀ x∈xs,x<10) (hy:∀ y∈ys,y<10) (hle:f = -1→dval ys≤dval xs)
 (lx:xs.length≤2000) (ly:ys.length≤2000) (hz:(z:Int)=dval xs+f*dval ys) :
 Calls Tryz.prog 116 #[v1,v2,.int .i64 f] w (DigPost z w):=by
 refine (plus_loc v1 v2 xs ys f z w h1 h2 hf hx hy hle lx ly hz).mono ?_
 rintro e w' ⟨v,zs,h1,h2,h3,h4,_,h6⟩
 exact ⟨v,zs,h1,h2,h3,h4,h6⟩
end Go.Proofs.YtkhdocdddicgpaaGreatDoor
set_option linter.unusedVariables false
set_option linter.unusedSimpArgs false
namespace Go.Proofs.YtkhdocdddicgpaaGreatDoor
open Go.RowKit _root_.Go.Proofs.YtkhdocdddicgpaaGreatDoor.Nm
set_option maxRecDepth 100000 in
set_option maxHeartbeats 1600000 in
theorem rNeg_any (v:Value) (z:Int) (w:World) (h:Ref w v z) :
 Calls Tryz.prog 78 #[v] w (RefPost (-z) w):=by
 obtain ⟨a,c,rfl⟩:=h.form
 obtain ⟨sv,hv,hr⟩:=id h
 simp only [Value.agg.injEq,Array.mk.injEq,List.cons.injEq,and_true] at hv
 obtain ⟨_,rfl⟩:=hv
 have HZ:Hid (True∧sz (!isNeg z) (dval (dg z.natAbs)) = -z):=Lib.hid ⟨trivial,by rw [dval_dg];exact sz_not z⟩
 obtain ⟨y,hy⟩:∃ y,-z=y:=⟨_,rfl⟩
 rw [hy] at HZ ⊢
 obtain ⟨nb,hnb⟩:∃ b,isNeg z=b:=⟨_,rfl⟩
 rw [hnb] at HZ ⊢
 obtain ⟨xs,hx⟩:∃ xs,dg z.natAbs=xs:=⟨_,rfl⟩
 have HX:Hid (∀ x∈xs,x<10):=Lib.hid (by rw [← hx];exact dg_lt _)
 rw [hx] at hr HZ ⊢
 have HS:=Lib.hid (St2.start w (.bool nb) (.slice a xs.length c) (.bool false) (.slice none 0 0) 31 31)
 have HR:=Lib.hid (hr.keep (boxes2 w (.cells #[.bool nb,.slice a xs.length c] 31) (.cells #[.bool false,.slice none 0 0] 31)) (Nat.le_refl _))
 clear h hr hnb hx hy
 obtain ⟨c0,c1,c2,c3,c4,c5,c6,c7⟩:=HS.out.cells
 go_enter Tryz.func78,Tryz.ntmps78
 go_wp2_with fail
 refine (make0_any (!nb) _ xs _ HR.out HX.out).mono ?_
 rintro e w2 ⟨v,rfl,hv,hb⟩
 rw [HZ.out.2] at hv
 obtain ⟨a2,k2,rfl⟩:=hv.form
 have HS2:=Lib.hid (HS.out.next hb (Nat.le_refl _))
 have HV:=Lib.hid hv
 clear hv hb c0 c1 c2 c3 c4 c5 c6 c7
 obtain ⟨d0,d1,d2,d3,d4,d5,d6,d7⟩:=HS2.out.cells
 obtain ⟨_,_,f2,f3⟩:=HS2.out.2.2.2.cell
 go_wp2
 obtain ⟨l0,l1,_,_⟩:=(HS2.out.2.2.2.put (.bool (isNeg y)) (.slice a2 (dg y.natAbs).length k2)).cell
 refine bodyPost_ret (v := .agg #[.bool (isNeg y),.slice a2 (dg y.natAbs).length k2]) (by simp only [results,Tryz.results78];simp [go_sem,l0,l1]) rfl ?_
 exact RefPost.boxed HV.out HS2.out.2.2.2 HS2.out.1 (by omega)
set_option maxRecDepth 100000 in
set_option maxHeartbeats 6400000 in
theorem rAdd_any (v1 v2:Value) (x y:Int) (w:World) (h1:Ref w v1 x) (h2:Ref w v2 y) (lx:(dg x.natAbs).length≤2000) (ly:(dg y.natAbs).length≤2000) :
 Calls Tryz.prog 75 #[v1,v2] w (RefPost (x+y) w):=by
 obtain ⟨sa,rfl,hra⟩:=h1
 obtain ⟨sb,rfl,hrb⟩:=h2
 have hsame:isNeg x=isNeg y→sz (isNeg x) (x.natAbs+y.natAbs)=x+y:=add_same x y
 have hless:(isNeg x==isNeg y)=false→x.natAbs≤y.natAbs→sz (isNeg y) (y.natAbs-x.natAbs)=x+y:=add_less x y
 have hmore:(isNeg x==isNeg y)=false→y.natAbs≤x.natAbs→sz (isNeg x) (x.natAbs-y.natAbs)=x+y:=add_more x y
 obtain ⟨m,hm⟩:∃ m,x.natAbs=m:=⟨_,rfl⟩
 obtain ⟨n,hn⟩:∃ m,y.natAbs=m:=⟨_,rfl⟩
 rw [hm,hn] at hsame hless hmore
 rw [hm] at hra lx
 rw [hn] at hrb ly
 obtain ⟨n1,hn1⟩:∃ b,isNeg x=b:=⟨_,rfl⟩
 obtain ⟨n2,hn2⟩:∃ b,isNeg y=b:=⟨_,rfl⟩
 rw [hn1,hn2] at hsame hless hmore ⊢
 obtain ⟨r,hr⟩:∃ r,x+y=r:=⟨_,rfl⟩
 rw [hr] at hsame hless hmore ⊢
 clear hm hn hn1 hn2 hr
 have HS1:=Lib.hid hsame
 have HL1:=Lib.hid hless
 have HM1:=Lib.hid hmore
 obtain ⟨xs,hx⟩:∃ xs,dg m=xs:=⟨_,rfl⟩
 obtain ⟨ys,hy⟩:∃ xs,dg n=xs:=⟨_,rfl⟩
 have hvx:dval xs=m:=by rw [← hx,dval_dg]
 have hvy:dval ys=n:=by rw [← hy,dval_dg]
 have HXX:Hid (∀ z∈xs,z<10):=Lib.hid (by rw [← hx];exact dg_lt _)
 have HYY:Hid (∀ z∈ys,z<10):=Lib.hid (by rw [← hy];exact dg_lt _)
 have HVX:=Lib.hid (And.intro trivial hvx)
 have HVY:=Lib.hid (And.intro trivial hvy)
 have HDX:=Lib.hid (And.intro trivial hx)
 have HDY:=Lib.hid (And.intro trivial hy)
 rw [hx] at hra lx
 rw [hy] at hrb ly
 obtain ⟨aa,ca,rfl,_⟩:=id hra
 obtain ⟨ab,cb,rfl,_⟩:=id hrb
 have HS0:=Lib.hid (St.start w (.bool n1) (.slice aa xs.length ca) (.bool n2) (.slice ab ys.length cb) (.bool false) (.slice none 0 0) 31 31 31)
 have HRA:=Lib.hid (hra.keep HS0.out.1 (Nat.le_refl _))
 have HRB:=Lib.hid (hrb.keep HS0.out.1 (Nat.le_refl _))
 clear hsame hless hmore hx hy hvx hvy hra hrb
 by_cases hnn:n1=n2
 · subst hnn
   have HT:Hid (True∧sz n1 (m+n)=r):=Lib.hid ⟨trivial,HS1.out rfl⟩
   clear HS1 HL1 HM1
   obtain ⟨c0,c1,c2,c3,c4,c5,c6,c7⟩:=HS0.out.cells
   go_enter Tryz.func75,Tryz.ntmps75
   go_wp2_with fail
   have HS1:=HS0.out.drew
   clear c0 c1 c2 c3 c4 c5 c6 c7
   obtain ⟨c0,c1,c2,c3,c4,c5,c6,c7⟩:=HS1.cells
   go_region_held3 (fun w'=>w'.cell? ⟨w.heap.size,0,none⟩=some (.bool n1)∧w'.cell? ⟨w.heap.size,1,none⟩=some (.slice aa xs.length ca)∧w'.cell? ⟨w.heap.size+1,0,none⟩=some (.bool n1)∧w'.cell? ⟨w.heap.size+1,1,none⟩=some (.slice ab ys.length cb)) (first | ((try dsimp only);(repeat' apply And.intro);all_goals with_reducible assumption) | go_keep) (first | (go_at_call 77;refine (make0_any n1 _ zs _ (by exact hr5) hz5).mono ?_;rintro e w6 ⟨v6,rfl,hv6,hb6⟩;have hT2:=hT1.next hb6 (Nat.le_refl _);clear d0 d1 d2 d3 d4 d5 d6 d7;obtain ⟨e0,e1,e2,e3,e4,e5,e6,e7⟩:=hT2.cells;rw [hd5,HT.out.2] at hv6;obtain ⟨a6,k6,rfl⟩:=hv6.form;have t0:=(cell_set2 w6 (w.heap.size+1+1) (.bool (isNeg r)) (.slice a6 (dg r.natAbs).length k6) w.heap.size 0 (by omega)).trans e0;have t1:=(cell_set2 w6 (w.heap.size+1+1) (.bool (isNeg r)) (.slice a6 (dg r.natAbs).length k6) w.heap.size 1 (by omega)).trans e1;have t2:=(cell_set2 w6 (w.heap.size+1+1) (.bool (isNeg r)) (.slice a6 (dg r.natAbs).length k6) (w.heap.size+1) 0 (by omega)).trans e2;have t3:=(cell_set2 w6 (w.heap.size+1+1) (.bool (isNeg r)) (.slice a6 (dg r.natAbs).length k6) (w.heap.size+1) 1 (by omega)).trans e3) | (go_at_call 116;refine (plus_any _ _ xs ys 1 (m+n) _ (by exact HRA.out.keep (Below.refl _ _).drew (Nat.le_refl _)) (by exact HRB.out.keep (Below.refl _ _).drew (Nat.le_refl _)) (.inl rfl) HXX.out HYY.out (by omega) (by omega) (by omega) (by rw [HVX.out.2,HVY.out.2];omega)).mono ?_;rintro e w5 ⟨v5,zs,rfl,hr5,hz5,hd5,hb5⟩;have hT1:=HS1.next hb5 (Nat.le_refl _);clear c0 c1 c2 c3 c4 c5 c6 c7;obtain ⟨d0,d1,d2,d3,d4,d5,d6,d7⟩:=hT1.cells;obtain ⟨a5,k5,rfl,_⟩:=id hr5))
   have HS2:=Lib.hid hT2
   have HV6:=Lib.hid hv6
   clear hT1 hT2 hv6 hr5 hz5 hd5 hb5 hb6 HS1 e0 e1 e2 e3 t0 t1 t2 t3
   go_wp2
   obtain ⟨l0,l1,_,_⟩:=(HS2.out.2.2.2.2.put (.bool (isNeg r)) (.slice a6 (dg r.natAbs).length k6)).cell
   refine bodyPost_ret (v := .agg #[.bool (isNeg r),.slice a6 (dg r.natAbs).length k6]) (by simp only [results,Tryz.results75];simp [go_sem,l0,l1]) rfl ?_
   exact RefPost.boxed HV6.out HS2.out.2.2.2.2 HS2.out.1 (by omega)
 · have hb:(n1==n2)=false:=by cases n1 <;> cases n2 <;> first | rfl | exact absurd rfl hnn
   by_cases hlt:m<n
   · have HT:Hid (True∧sz n2 (n-m)=r):=Lib.hid ⟨trivial,HL1.out hb (by omega)⟩
     have HLT:=Lib.hid (And.intro trivial hlt)
     clear HS1 HL1 HM1 hnn
     obtain ⟨c0,c1,c2,c3,c4,c5,c6,c7⟩:=HS0.out.cells
     go_enter Tryz.func75,Tryz.ntmps75
     go_wp2_with fail
     refine (rcmp_any _ _ m n _ (by rw [HDX.out.2];exact HRA.out) (by rw [HDY.out.2];exact HRB.out)).mono ?_
     rintro e w4 ⟨rfl,kk,rfl⟩
     rw [sgn_lt (show (m:Int)<(n:Int) by have:=HLT.out.2;omega)]
     clear hlt
     go_wp2_with fail
     have HS1:=HS0.out.drewN (kk+1)
     clear c0 c1 c2 c3 c4 c5 c6 c7
     obtain ⟨c0,c1,c2,c3,c4,c5,c6,c7⟩:=HS1.cells
     go_region_held3 (fun w'=>w'.cell? ⟨w.heap.size,0,none⟩=some (.bool n1)∧w'.cell? ⟨w.heap.size,1,none⟩=some (.slice aa xs.length ca)∧w'.cell? ⟨w.heap.size+1,0,none⟩=some (.bool n2)∧w'.cell? ⟨w.heap.size+1,1,none⟩=some (.slice ab ys.length cb)) (first | ((try dsimp only);(repeat' apply And.intro);all_goals with_reducible assumption) | go_keep) (first | (go_at_call 77;refine (make0_any n2 _ zs _ (by exact hr5) hz5).mono ?_;rintro e w6 ⟨v6,rfl,hv6,hb6⟩;have hT2:=hT1.next hb6 (Nat.le_refl _);clear d0 d1 d2 d3 d4 d5 d6 d7;obtain ⟨e0,e1,e2,e3,e4,e5,e6,e7⟩:=hT2.cells;rw [hd5,HT.out.2] at hv6;obtain ⟨a6,k6,rfl⟩:=hv6.form;have t0:=(cell_set2 w6 (w.heap.size+1+1) (.bool (isNeg r)) (.slice a6 (dg r.natAbs).length k6) w.heap.size 0 (by omega)).trans e0;have t1:=(cell_set2 w6 (w.heap.size+1+1) (.bool (isNeg r)) (.slice a6 (dg r.natAbs).length k6) w.heap.size 1 (by omega)).trans e1;have t2:=(cell_set2 w6 (w.heap.size+1+1) (.bool (isNeg r)) (.slice a6 (dg r.natAbs).length k6) (w.heap.size+1) 0 (by omega)).trans e2;have t3:=(cell_set2 w6 (w.heap.size+1+1) (.bool (isNeg r)) (.slice a6 (dg r.natAbs).length k6) (w.heap.size+1) 1 (by omega)).trans e3) | (go_at_call 116;refine (plus_any _ _ ys xs (-1) (n-m) _ (by exact HRB.out.keep ⟨rfl,rfl,rfl,Nat.le_refl _,fun _ _=>rfl⟩ (Nat.le_refl _)) (by exact HRA.out.keep ⟨rfl,rfl,rfl,Nat.le_refl _,fun _ _=>rfl⟩ (Nat.le_refl _)) (.inr rfl) HYY.out HXX.out (by intro _;rw [HVX.out.2,HVY.out.2];have:=HLT.out.2;omega) (by omega) (by omega) (by rw [HVX.out.2,HVY.out.2];have:=HLT.out.2;omega)).mono ?_;rintro e w5 ⟨v5,zs,rfl,hr5,hz5,hd5,hb5⟩;have hT1:=HS1.next hb5 (Nat.le_refl _);clear c0 c1 c2 c3 c4 c5 c6 c7;obtain ⟨d0,d1,d2,d3,d4,d5,d6,d7⟩:=hT1.cells;obtain ⟨a5,k5,rfl,_⟩:=id hr5))
     have HS2:=Lib.hid hT2
     have HV6:=Lib.hid hv6
     clear hT1 hT2 hv6 hr5 hz5 hd5 hb5 hb6 HS1 e0 e1 e2 e3 t0 t1 t2 t3
     go_wp2
     obtain ⟨l0,l1,_,_⟩:=(HS2.out.2.2.2.2.put (.bool (isNeg r)) (.slice a6 (dg r.natAbs).length k6)).cell
     refine bodyPost_ret (v := .agg #[.bool (isNeg r),.slice a6 (dg r.natAbs).length k6]) (by simp only [results,Tryz.results75];simp [go_sem,l0,l1]) rfl ?_
     exact RefPost.boxed HV6.out HS2.out.2.2.2.2 HS2.out.1 (by omega)
   · have HT:Hid (True∧sz n1 (m-n)=r):=Lib.hid ⟨trivial,HM1.out hb (by omega)⟩
     have HLT:=Lib.hid (And.intro trivial hlt)
     obtain ⟨cr,hcr,hcr0⟩:∃ c,sgn (m:Int) (n:Int)=c∧¬ c<0:=⟨_,rfl,by unfold sgn;rw [if_neg (by omega)];split <;> omega⟩
     have HCR:=Lib.hid (And.intro trivial hcr)
     clear HS1 HL1 HM1 hnn hcr
     obtain ⟨c0,c1,c2,c3,c4,c5,c6,c7⟩:=HS0.out.cells
     go_enter Tryz.func75,Tryz.ntmps75
     go_wp2_with fail
     refine (rcmp_any _ _ m n _ (by rw [HDX.out.2];exact HRA.out) (by rw [HDY.out.2];exact HRB.out)).mono ?_
     rintro e w4 ⟨rfl,kk,rfl⟩
     rw [HCR.out.2]
     clear hlt
     go_wp2_with fail
     have HS1:=HS0.out.drewN (kk+1)
     clear c0 c1 c2 c3 c4 c5 c6 c7
     obtain ⟨c0,c1,c2,c3,c4,c5,c6,c7⟩:=HS1.cells
     go_region_held3 (fun w'=>w'.cell? ⟨w.heap.size,0,none⟩=some (.bool n1)∧w'.cell? ⟨w.heap.size,1,none⟩=some (.slice aa xs.length ca)∧w'.cell? ⟨w.heap.size+1,0,none⟩=some (.bool n2)∧w'.cell? ⟨w.heap.size+1,1,none⟩=some (.slice ab ys.length cb)) (first | ((try dsimp only);(repeat' apply And.intro);all_goals with_reducible assumption) | go_keep) (first | (go_at_call 77;refine (make0_any n1 _ zs _ (by exact hr5) hz5).mono ?_;rintro e w6 ⟨v6,rfl,hv6,hb6⟩;have hT2:=hT1.next hb6 (Nat.le_refl _);clear d0 d1 d2 d3 d4 d5 d6 d7;obtain ⟨e0,e1,e2,e3,e4,e5,e6,e7⟩:=hT2.cells;rw [hd5,HT.out.2] at hv6;obtain ⟨a6,k6,rfl⟩:=hv6.form;have t0:=(cell_set2 w6 (w.heap.size+1+1) (.bool (isNeg r)) (.slice a6 (dg r.natAbs).length k6) w.heap.size 0 (by omega)).trans e0;have t1:=(cell_set2 w6 (w.heap.size+1+1) (.bool (isNeg r)) (.slice a6 (dg r.natAbs).length k6) w.heap.size 1 (by omega)).trans e1;have t2:=(cell_set2 w6 (w.heap.size+1+1) (.bool (isNeg r)) (.slice a6 (dg r.natAbs).length k6) (w.heap.size+1) 0 (by omega)).trans e2;have t3:=(cell_set2 w6 (w.heap.size+1+1) (.bool (isNeg r)) (.slice a6 (dg r.natAbs).length k6) (w.heap.size+1) 1 (by omega)).trans e3) | (go_at_call 116;refine (plus_any _ _ xs ys (-1) (m-n) _ (by exact HRA.out.keep ⟨rfl,rfl,rfl,Nat.le_refl _,fun _ _=>rfl⟩ (Nat.le_refl _)) (by exact HRB.out.keep ⟨rfl,rfl,rfl,Nat.le_refl _,fun _ _=>rfl⟩ (Nat.le_refl _)) (.inr rfl) HXX.out HYY.out (by intro _;rw [HVX.out.2,HVY.out.2];have:=HLT.out.2;omega) (by omega) (by omega) (by rw [HVX.out.2,HVY.out.2];have:=HLT.out.2;omega)).mono ?_;rintro e w5 ⟨v5,zs,rfl,hr5,hz5,hd5,hb5⟩;have hT1:=HS1.next hb5 (Nat.le_refl _);clear c0 c1 c2 c3 c4 c5 c6 c7;obtain ⟨d0,d1,d2,d3,d4,d5,d6,d7⟩:=hT1.cells;obtain ⟨a5,k5,rfl,_⟩:=id hr5))
     have HS2:=Lib.hid hT2
     have HV6:=Lib.hid hv6
     clear hT1 hT2 hv6 hr5 hz5 hd5 hb5 hb6 HS1 e0 e1 e2 e3 t0 t1 t2 t3
     go_wp2
     obtain ⟨l0,l1,_,_⟩:=(HS2.out.2.2.2.2.put (.bool (isNeg r)) (.slice a6 (dg r.natAbs).length k6)).cell
     refine bodyPost_ret (v := .agg #[.bool (isNeg r),.slice a6 (dg r.natAbs).length k6]) (by simp only [results,Tryz.results75];simp [go_sem,l0,l1]) rfl ?_
     exact RefPost.boxed HV6.out HS2.out.2.2.2.2 HS2.out.1 (by omega)
end Go.Proofs.YtkhdocdddicgpaaGreatDoor
set_option linter.unusedVariables false
set_option linter.unusedSimpArgs false
namespace Go.Proofs.YtkhdocdddicgpaaGreatDoor
open Go.RowKit _root_.Go.Proofs.YtkhdocdddicgpaaGreatDoor.Nm
set_option maxRecDepth 100000 in
set_option maxHeartbeats 6400000 in
theorem rSub_any (v1 v2:Value) (x y r:Int) (w:World) (h1:Ref w v1 x) (h2:Ref w v2 y) (lx:(dg x.natAbs).length≤2000) (ly:(dg y.natAbs).length≤2000) (hr:r=x-y) :
 Calls Tryz.prog 83 #[v1,v2] w (RefPost r w):=by
 obtain ⟨aa,ca,rfl⟩:=h1.form
 obtain ⟨ab,cb,rfl⟩:=h2.form
 have h1':=h1
 have h2':=h2
 obtain ⟨n1,hn1⟩:∃ b,isNeg x=b:=⟨_,rfl⟩
 obtain ⟨n2,hn2⟩:∃ b,isNeg y=b:=⟨_,rfl⟩
 obtain ⟨la,hla⟩:∃ l,(dg x.natAbs).length=l:=⟨_,rfl⟩
 obtain ⟨lb,hlb⟩:∃ l,(dg y.natAbs).length=l:=⟨_,rfl⟩
 rw [hn1,hla] at h1 ⊢
 rw [hn2,hlb] at h2 ⊢
 obtain ⟨ny,hny⟩:∃ ny,-y=ny:=⟨_,rfl⟩
 have HR:Hid (True∧x+ny=r):=Lib.hid ⟨trivial,by omega⟩
 have HNY:=Lib.hid (And.intro trivial hny)
 have HLX:=Lib.hid (And.intro trivial lx)
 have HLY:Hid (True∧(dg ny.natAbs).length≤2000):=Lib.hid ⟨trivial,by rw [← hny,Int.natAbs_neg];exact ly⟩
 have HS0:=Lib.hid (St.start w (.bool n1) (.slice aa la ca) (.bool n2) (.slice ab lb cb) (.bool false) (.slice none 0 0) 31 31 31)
 have HRX:=Lib.hid (h1.keep HS0.out.1.drew (Nat.le_refl _))
 have HRY:=Lib.hid (h2.keep HS0.out.1.drew (Nat.le_refl _))
 clear h1 h2 h1' h2' hn1 hn2 hla hlb hny lx ly hr
 have HS1:=HS0.out.drew
 obtain ⟨c0,c1,c2,c3,c4,c5,c6,c7⟩:=HS1.cells
 go_enter Tryz.func83,Tryz.ntmps83
 go_wp2_with fail
 go_region_held3 (fun w'=>w'.cell? ⟨w.heap.size,0,none⟩=some (.bool n1)∧w'.cell? ⟨w.heap.size,1,none⟩=some (.slice aa la ca)∧w'.cell? ⟨w.heap.size+1,0,none⟩=some (.bool n2)∧w'.cell? ⟨w.heap.size+1,1,none⟩=some (.slice ab lb cb)) (first | ((try dsimp only);(repeat' apply And.intro);all_goals with_reducible assumption) | go_keep) (first | (go_at_call 75;refine (rAdd_any _ _ x ny _ (by exact HRX.out.keep hb5 (Nat.le_refl _)) (by exact hv5) HLX.out.2 HLY.out.2).mono ?_;rintro e w6 ⟨v6,rfl,hv6,hb6⟩;rw [HR.out.2] at hv6;have hT2:=hT1.next hb6 (Nat.le_refl _);clear d0 d1 d2 d3 d4 d5 d6 d7;obtain ⟨e0,e1,e2,e3,e4,e5,e6,e7⟩:=hT2.cells;obtain ⟨a6,k6,rfl⟩:=hv6.form;have t0:=(cell_set2 w6 (w.heap.size+1+1) (.bool (isNeg r)) (.slice a6 (dg r.natAbs).length k6) w.heap.size 0 (by omega)).trans e0;have t1:=(cell_set2 w6 (w.heap.size+1+1) (.bool (isNeg r)) (.slice a6 (dg r.natAbs).length k6) w.heap.size 1 (by omega)).trans e1;have t2:=(cell_set2 w6 (w.heap.size+1+1) (.bool (isNeg r)) (.slice a6 (dg r.natAbs).length k6) (w.heap.size+1) 0 (by omega)).trans e2;have t3:=(cell_set2 w6 (w.heap.size+1+1) (.bool (isNeg r)) (.slice a6 (dg r.natAbs).length k6) (w.heap.size+1) 1 (by omega)).trans e3) | (go_at_call 78;refine (rNeg_any _ y _ (by exact HRY.out)).mono ?_;rintro e w5 ⟨v5,rfl,hv5,hb5⟩;rw [HNY.out.2] at hv5;have hT1:=HS1.next hb5 (Nat.le_refl _);clear c0 c1 c2 c3 c4 c5 c6 c7;obtain ⟨d0,d1,d2,d3,d4,d5,d6,d7⟩:=hT1.cells;obtain ⟨a5,k5,rfl⟩:=hv5.form))
 have HS2:=Lib.hid hT2
 have HV6:=Lib.hid hv6
 clear hT1 hT2 hv6 hv5 hb5 hb6 HS1 e0 e1 e2 e3 t0 t1 t2 t3
 go_wp2
 obtain ⟨l0,l1,_,_⟩:=(HS2.out.2.2.2.2.put (.bool (isNeg r)) (.slice a6 (dg r.natAbs).length k6)).cell
 refine bodyPost_ret (v := .agg #[.bool (isNeg r),.slice a6 (dg r.natAbs).length k6]) (by simp only [results,Tryz.results83];simp [go_sem,l0,l1]) rfl ?_
 exact RefPost.boxed HV6.out HS2.out.2.2.2.2 HS2.out.1 (by omega)
end Go.Proofs.YtkhdocdddicgpaaGreatDoor
