/- Part 1: what the law's walk leans on. -/
import Derived.Test.YtkhdocdddicgpaaGreatDoorYt0
import Derived.Test.YtkhdocdddicgpaaGreatDoorYt1
import Derived.Test.YtkhdocdddicgpaaGreatDoorYt2
import Derived.Test.YtkhdocdddicgpaaGreatDoorYt3
import Derived.Test.YtkhdocdddicgpaaGreatDoorYt4
import Derived.Test.YtkhdocdddicgpaaGreatDoorYt5
import Derived.Test.YtkhdocdddicgpaaGreatDoorYt6
import Derived.Test.YtkhdocdddicgpaaGreatDoorYt7
import Derived.Test.YtkhdocdddicgpaaGreatDoorYt8
import Derived.Test.YtkhdocdddicgpaaGreatDoorYt9
import Derived.Test.YtkhdocdddicgpaaGreatDoorYt10
import Derived.Test.YtkhdocdddicgpaaGreatDoorYt11
import Derived.Test.YtkhdocdddicgpaaGreatDoorYt12
import Derived.Test.YtkhdocdddicgpaaGreatDoorYt13
import Derived.Test.YtkhdocdddicgpaaGreatDoorYt14
import Derived.Test.YtkhdocdddicgpaaGreatDoorYt15
import Derived.Test.YtkhdocdddicgpaaGreatDoorYt16
import Derived.Test.YtkhdocdddicgpaaGreatDoorYt17
import Derived.Test.YtkhdocdddicgpaaGreatDoorYt18
import Derived.Test.YtkhdocdddicgpaaGreatDoorYt19
import Derived.Test.YtkhdocdddicgpaaGreatDoorYt20
import Derived.Test.YtkhdocdddicgpaaGreatDoorYt21
import Derived.Test.YtkhdocdddicgpaaGreatDoorYt22
import Derived.Test.YtkhdocdddicgpaaGreatDoorYt23
import Derived.Test.YtkhdocdddicgpaaGreatDoorYt24
import Derived.Test.YtkhdocdddicgpaaGreatDoorYt25
import Derived.Test.YtkhdocdddicgpaaGreatDoorYt26
import Derived.Test.YtkhdocdddicgpaaGreatDoorYt27
import Derived.Test.YtkhdocdddicgpaaGreatDoorYt28
import Derived.Test.YtkhdocdddicgpaaGreatDoorYt29
import Derived.Test.YtkhdocdddicgpaaGreatDoorYt30
import Derived.Test.YtkhdocdddicgpaaGreatDoorYp0
set_option linter.unusedVariables false
set_option linter.unusedSimpArgs false
namespace Go.Proofs.YtkhdocdddicgpaaGreatDoor
open Go.RowKit Go.Maps _root_.Go.Proofs.YtkhdocdddicgpaaGreatDoor.Nm
def IsF (s:ByteArray) (qc:Rat) (q:List Qm):Prop:=Fo q∧rshort qc=true∧formT qc q=s.data.toList
def GPost (s:ByteArray) (w:World) (e:Ending) (w':World):Prop :=
 Below w.heap.size w w'∧((∃ qc q ad n cap,IsF s qc q∧e = .returned (.tuple #[.string (txt qc),.slice ad n cap,.int .i64 0])∧TsAt w' (.slice ad n cap) (tms q))∨((¬ ∃ qc q,IsF s qc q)∧e = .returned (.tuple #[.string ⟨#[]⟩,.slice none 0 0,.int .i64 4])))
theorem GPost.bad {s:ByteArray} {w w':World} (hb:Below w.heap.size w w') (h:¬ ∃ qc q,IsF s qc q):GPost s w (.returned (.tuple #[.string ⟨#[]⟩,.slice none 0 0,.int .i64 4])) w':=⟨hb,.inr ⟨h,rfl⟩⟩
theorem SsAt.at {W:World} {ad:Option Addr} {n cap:Nat} {l:List ByteArray} (h:SsAt W (.slice ad n cap) l) (hn:0<n):∃ g off,ad=some ⟨g,off,none⟩∧g<W.heap.size∧∀ (i:Nat) (h:i<l.length),W.cell? ⟨g,off+i,none⟩=some (.string l[i]):=by
 obtain ⟨ad',n',cap',e1,e2,hv⟩:=h
 cases e1
 rcases hv with h | h
 · omega
 · exact h
theorem toB_list (l:List UInt8):(toB l).data.toList=l:=by unfold toB;simp
theorem toB_size (l:List UInt8):(toB l).size=l.length:=by show l.toArray.size=_;simp
theorem toB_back (x:ByteArray):toB x.data.toList=x:=by apply ByteArray.ext;simp [toB]
def stepR (sg x:List UInt8) (ws:List (List UInt8)) (c:List UInt8) (l:List Tm):Option (List UInt8 × List Tm):=rgo (rsw sg x ws c l).1 (rsw sg x ws c l).2.1 (rsw sg x ws c l).2.2
theorem stepR_col {sg x:List UInt8} {ws:List (List UInt8)} {c:List UInt8} {l:List Tm} (h:0≤colW x):stepR sg x ws c l=rgo ws c (l++[(colW x,toB (sg++[49]))]):=by
 unfold stepR rsw;rw [if_pos h];rfl
theorem stepR_next {sg x y:List UInt8} {ws:List (List UInt8)} {c:List UInt8} {l:List Tm} (h:¬ 0≤colW x) (hy:0≤colW y):stepR sg x (y::ws) c l=rgo ws c (l++[(colW y,toB (sg++x))]):=by
 unfold stepR rsw;rw [if_neg h];dsimp only;rw [if_pos hy];rfl
theorem stepR_const {sg x y:List UInt8} {ws:List (List UInt8)} {c:List UInt8} {l:List Tm} (h:¬ 0≤colW x) (hy:¬ 0≤colW y):stepR sg x (y::ws) c l=rgo (y::ws) (sg++x) l:=by
 unfold stepR rsw;rw [if_neg h];dsimp only;rw [if_neg hy]
theorem stepR_end {sg x:List UInt8} {c:List UInt8} {l:List Tm} (h:¬ 0≤colW x):stepR sg x [] c l=rgo [] (sg++x) l:=by
 unfold stepR rsw;rw [if_neg h]
theorem rfirst_step (x:List UInt8) (ws:List (List UInt8)) (c:List UInt8) (l:List Tm) (hc:c=[48]) (hl:l=[]):rfirst (x::ws)=stepR (if x.head?=some 45 then [45] else []) (if x.head?=some 45 then x.drop 1 else x) ws c l:=by subst hc hl;rfl
theorem rgo_step (g x:List UInt8) (ws:List (List UInt8)) (c:List UInt8) (l:List Tm):rgo (g::x::ws) c l=stepR (rsgn g) x ws c l:=rgo_two g x ws c l
def PrAt (W:List (List UInt8)) (k:Nat) (c:ByteArray) (l:List Tm) (sg:ByteArray):Prop :=
 (k=0∧c=⟨#[48]⟩∧l=[]∧sg=⟨#[]⟩)∨(0<k∧rgo (W.drop k) c.data.toList l=rfirst W)
def PrIn (k:Nat) (c:ByteArray) (l:List Tm):Prop:=c.size≤300∧(∀ t∈l,t.2.size≤300)∧l.length≤k
theorem PrIn.push {k:Nat} {c:ByteArray} {l:List Tm} (h:PrIn k c l) (t:Tm) (ht:t.2.size≤300) {j:Nat} (hj:k+1≤j):PrIn j c (l++[t]) :=
 ⟨h.1,fun x hx=>by
  rcases List.mem_append.1 hx with hx | hx
  · exact h.2.1 x hx
  · rw [List.mem_singleton.1 hx];exact ht,by rw [List.length_append,List.length_singleton];have:=h.2.2;omega⟩
set_option maxRecDepth 100000 in
set_option maxHeartbeats 25600000 in
theorem gParse_any (s:ByteArray) (w:World) (hs:s.size≤200):Calls Tryz.prog 31 #[.string s] w (GPost s w):=by
 obtain ⟨W,hW⟩:∃ W,splitW s.data.toList=W:=⟨_,rfl⟩
 have hL:s.data.toList.length=s.size:=Array.length_toList
 have hWl:W.length≤201:=by have:=splitW_length s.data.toList;rw [hW,hL] at this;omega
 have hWs:∀ x∈W,x.length≤200:=fun x hx=>by have:=splitW_mem s.data.toList x (by rw [hW];exact hx);omega
 have hWn:W≠[]:=by rw [← hW];exact splitW_ne _
 have HW0:=Lib.hid (And.intro hW (And.intro hWs hWn))
 have HSZ:=Lib.hid (And.intro trivial hs)
 clear hL
 go_enter Tryz.func31,Tryz.ntmps31
 go_wp2_with fail
 refine (gWords_any s _ (by omega)).mono ?_
 rintro e w1 ⟨⟨ad,n,cap,rfl,hss⟩,hb⟩
 rw [hW] at hss
 have hn:n=W.length:=by obtain ⟨_,_,_,e1,e2,_⟩:=hss;cases e1;simpa using e2
 have hn1:n≤201:=by omega
 have hn0:0<n:=by have:0<W.length:=List.length_pos_iff.2 hWn;omega
 obtain ⟨g,off,rfl,hg,hcc⟩:=hss.at hn0
 have hcell:∀ (i:Nat) (h:i<W.length),w1.cell? ⟨g,off+i,none⟩=some (.string (toB W[i])):=fun i h=>by
  have:=hcc i (by simpa using h)
  simpa using this
 have HN:=Lib.hid (And.intro trivial hn)
 have HCC:=Lib.hid (And.intro hg hcell)
 have HW1:=Lib.hid hb
 clear hW hWl hWs hWn hss hn hcc hg hcell hb
 go_wp2
 go_loopw [6,7,8,9] (fun cv v sv i wr=>∃ (k:Nat) (c sg:ByteArray) (v':Value) (l:List Tm),k≤n ∧ .string c=cv∧v'=v ∧ .string sg=sv∧i = .int .i64 k∧Hid (PrAt W k c l sg)∧Hid (PrIn k c l)∧Hid (wr.ownsRow w1.heap.size 68 2 v' l.length (flatB l))∧Hid (Below w1.heap.size w1 wr)) (fun _ _ _ i _=>n-(intOf i).toNat)
 case atStart=>exact ⟨0,⟨#[48]⟩,⟨#[]⟩,.slice none 0 0,[],Nat.zero_le _,rfl,rfl,rfl,rfl,Lib.hid (.inl ⟨rfl,rfl,rfl,rfl⟩),Lib.hid ⟨by decide,by simp,by simp⟩,Lib.hid ⟨rfl,.inl ⟨rfl,rfl⟩⟩,Lib.hid (Below.refl _ _)⟩
 case round =>
  obtain ⟨k,c,sg,v,l,hk,rfl,rfl,rfl,rfl,HP,HI,HROW,HW⟩:=hrel
  by_cases hlt:k<n
  · by_cases hk0:k=0
    · subst hk0
      obtain ⟨hcq,hlq,rfl⟩:c=⟨#[48]⟩∧l=[]∧sg=⟨#[]⟩:=by
       rcases HP.out with ⟨_,h⟩ | ⟨h,_⟩
       · exact h
       · omega
      have hwl:0<W.length:=by rw [← HN.out.2];exact hlt
      obtain ⟨x0,hx0⟩:∃ x0,W[0]=x0:=⟨_,rfl⟩
      have hxc:=(HW.out.cell (p:=⟨g,off+0,none⟩) HCC.out.1).trans (HCC.out.2 0 hwl)
      rw [hx0] at hxc
      have hx0s:x0.length≤200:=HW0.out.2.1 x0 (by rw [← hx0];exact List.getElem_mem hwl)
      have hWd:W=x0::W.drop 1:=by rw [← hx0];exact (List.drop_eq_getElem_cons hwl)
      have hRF:=rfirst_step x0 (W.drop 1) c.data.toList l (by rw [hcq]) hlq
      rw [← hWd] at hRF
      have hz0:(0:Int)<n:=by omega
      rw [Nat.add_zero] at hxc
      clear hx0 hWd hwl hcq hlq
      cases x0 with
      | nil =>
       have hR0:stepR [] [] (W.drop (0+1)) c.data.toList l=rfirst W:=hRF.symm
       obtain ⟨xb,hxb⟩:∃ xb,toB []=xb:=⟨_,rfl⟩
       rw [hxb] at hxc
       have hxs:xb.size≤200:=by rw [← hxb];decide
       have hx00:xb.size=0:=by rw [← hxb];rfl
       have hx0z:¬ (0:Int)<xb.size:=by omega
       obtain ⟨xl,hxl⟩:∃ xl:List UInt8,xl=[]:=⟨_,rfl⟩
       have HXL:Hid (xb.data.toList=xl):=Lib.hid (by rw [← hxb,hxl];rfl)
       have HR:Hid (stepR [] xl (W.drop (0+1)) c.data.toList l=rfirst W):=Lib.hid (by rw [hxl];exact hR0)
       clear hRF hR0 hxb hx00 hxl
       obtain ⟨cx,hcx⟩:∃ cx,colW xl=cx:=⟨_,rfl⟩
       have HCX:Hid (colW xb.data.toList=cx):=Lib.hid (by rw [HXL.out,hcx])
       have HCX2:=Lib.hid hcx
       clear hcx
       go_wp2_with fail
       refine (gColumn_any xb cx _ (by omega) HCX).mono ?_
       rintro e w9 ⟨rfl,hww⟩
       rw [hww]
       clear hww w9
       by_cases hc0:0≤cx
       · obtain ⟨t1,ht1⟩:∃ t1,(⟨#[]⟩:ByteArray)++⟨#[49]⟩=t1:=⟨_,rfl⟩
         have hT:toB ([]++[49])=t1:=by rw [← ht1];apply ByteArray.ext;simp [toB]
         have HR2:Hid (PrAt W (0+1) c (l++[(cx,t1)]) (⟨#[]⟩:ByteArray)):=Lib.hid (.inr ⟨by omega,by rw [← HR.out,stepR_col (by rw [HCX2.out];omega),HCX2.out,hT]⟩)
         have HI2:Hid (PrIn (0+1) c (l++[(cx,t1)])):=Lib.hid (HI.out.push (cx,t1) (by show t1.size≤300;rw [← ht1,ByteArray.size_append];exact Nat.le_trans (Nat.add_le_add_left (show (⟨#[49]⟩:ByteArray).size≤1 by decide) _) (by decide)) (by omega))
         have HT1:=Lib.hid ht1
         have hrt:(⟨#[]⟩:ByteArray)++⟨#[49]⟩=t1:=ht1
         clear hT ht1
         go_wp2_with fail
         refine (gColumn_any xb cx _ (by omega) HCX).mono ?_
         rintro e w9 ⟨rfl,hww⟩
         rw [hww]
         clear hww w9
         have hA4:=(Below.refl wr.heap.size wr).alloc (Nat.le_refl _) (.cells #[.int .i64 cx,.string t1] 68)
         have HROW4:=Lib.hid (row_below HROW.out hA4)
         have HW4:=Lib.hid (HW.out.trans (hA4.mono HW.out.size))
         have HTN:=Lib.hid (two_new wr (.int .i64 cx) (.string t1) 68)
         have hll:l.length≤300:=by have:=HI.out.2.2;omega
         have HLL:=Lib.hid (And.intro trivial hll)
         have hbase:w1.heap.size≤wr.heap.size:=HW.out.size
         obtain ⟨i0,hi,hz0,hz1,hz2⟩:=info_parts infoTm
         have HIN:=Lib.hid (And.intro hi (And.intro hz0 (And.intro hz1 hz2)))
         clear hA4 hll hi hz0 hz1 hz2
         go_wp2_with (first | (at_builtin;refine wpList_append_own _ rfl _ _ 22 rfl w1.heap.size 68 i0 (.agg #[.int .i64 0,.string ⟨#[]⟩]) 2 24 Tryz.underlying22 HIN.out.1 HIN.out.2.1 HIN.out.2.2.1 HIN.out.2.2.2 rfl (by decide) _ _ _ rfl HROW4.out _ 1 1 [.int .i64 cx,.string t1] rfl rfl HTN.out (by simp [Value.oneCell']) (by have:=HLL.out.2;unfold maxLen;omega) (by have:=HLL.out.2;omega) (by simp;omega) ?_;intro v5 w5 hown hgrow hnil;refine hold ?_))
         have HROW5:Hid (w5.ownsRow w1.heap.size 68 2 v5 (l++[(cx,t1)]).length (flatB (l++[(cx,t1)]))):=Lib.hid (by
          rw [flatB_snoc,List.length_append]
          exact hown)
         have HW5:=Lib.hid (HW4.out.grown hgrow HW4.out.size (fun j e=>(HROW4.out.lt j e).1))
         clear hown hgrow hnil
         refine go_on ?_
         go_wp2
         go_roundw
         case rel=>exact ⟨0+1,c,_,v5,l++[(cx,t1)],by omega,rfl,rfl,rfl,by go_num,HR2,HI2,HROW5,HW5⟩
         case measure=>simp [intOf];omega
       · have hcn:cx<0:=by omega
         by_cases hnx:0+1<n
         · have hnl:0+1<W.length:=by rw [← HN.out.2];exact hnx
           have hn1x:((0+1:Nat):Int)<n:=by omega
           have hn1y:((0:Nat):Int)+1<n:=by omega
           have hn1z:(0:Int)≤((0:Nat):Int)+1:=by omega
           obtain ⟨yl,hyl⟩:∃ yl,W[0+1]=yl:=⟨_,rfl⟩
           have hyc:=(HW.out.cell (p:=⟨g,off+(0+1),none⟩) HCC.out.1).trans (HCC.out.2 (0+1) hnl)
           rw [hyl] at hyc
           obtain ⟨yb,hyb⟩:∃ yb,toB yl=yb:=⟨_,rfl⟩
           rw [hyb] at hyc
           have hys:yb.size≤200:=by rw [← hyb,toB_size];exact HW0.out.2.1 yl (by rw [← hyl];exact List.getElem_mem hnl)
           obtain ⟨cy,hcy⟩:∃ cy,colW yl=cy:=⟨_,rfl⟩
           have HCY:Hid (colW yb.data.toList=cy):=Lib.hid (by rw [← hyb,toB_list,hcy])
           have HCY2:=Lib.hid hcy
           have HDR:Hid (W.drop (0+1)=yl::W.drop (0+1+1)):=Lib.hid (by rw [List.drop_eq_getElem_cons hnl,hyl])
           clear hyl hyb hcy hnl
           go_wp2_with fail
           refine (gColumn_any yb cy _ (by omega) HCY).mono ?_
           rintro e w9 ⟨rfl,hww⟩
           rw [hww]
           clear hww w9
           by_cases hc1:0≤cy
           · obtain ⟨t1,ht1⟩:∃ t1,(⟨#[]⟩:ByteArray)++xb=t1:=⟨_,rfl⟩
             have hsz:t1.size≤300:=by
              rw [← ht1,ByteArray.size_append]
              have:(⟨#[]⟩:ByteArray).size≤1:=by decide
              omega
             have hT:toB ([]++xl)=t1:=by rw [← ht1, ← HXL.out];apply ByteArray.ext;simp [toB]
             have HR2:Hid (PrAt W (0+1+1) c (l++[(cy,t1)]) (⟨#[]⟩:ByteArray)):=Lib.hid (.inr ⟨by omega,by rw [← HR.out,HDR.out,stepR_next (by rw [HCX2.out];omega) (by rw [HCY2.out];omega),HCY2.out,hT]⟩)
             have HI2:Hid (PrIn (0+1+1) c (l++[(cy,t1)])):=Lib.hid (HI.out.push (cy,t1) hsz (by omega))
             clear hT
             go_wp2_with fail
             refine (gColumn_any yb cy _ (by omega) HCY).mono ?_
             rintro e w9 ⟨rfl,hww⟩
             rw [hww]
             clear hww w9
             have hA4:=(Below.refl wr.heap.size wr).alloc (Nat.le_refl _) (.cells #[.int .i64 cy,.string t1] 68)
             have HROW4:=Lib.hid (row_below HROW.out hA4)
             have HW4:=Lib.hid (HW.out.trans (hA4.mono HW.out.size))
             have HTN:=Lib.hid (two_new wr (.int .i64 cy) (.string t1) 68)
             have hll:l.length≤300:=by have:=HI.out.2.2;omega
             have HLL:=Lib.hid (And.intro trivial hll)
             have hbase:w1.heap.size≤wr.heap.size:=HW.out.size
             obtain ⟨i0,hi,hz0,hz1,hz2⟩:=info_parts infoTm
             have HIN:=Lib.hid (And.intro hi (And.intro hz0 (And.intro hz1 hz2)))
             clear hA4 hll hi hz0 hz1 hz2
             go_wp2_with (first | (at_builtin;refine wpList_append_own _ rfl _ _ 22 rfl w1.heap.size 68 i0 (.agg #[.int .i64 0,.string ⟨#[]⟩]) 2 24 Tryz.underlying22 HIN.out.1 HIN.out.2.1 HIN.out.2.2.1 HIN.out.2.2.2 rfl (by decide) _ _ _ rfl HROW4.out _ 1 1 [.int .i64 cy,.string t1] rfl rfl HTN.out (by simp [Value.oneCell']) (by have:=HLL.out.2;unfold maxLen;omega) (by have:=HLL.out.2;omega) (by simp;omega) ?_;intro v5 w5 hown hgrow hnil;refine hold ?_))
             have HROW5:Hid (w5.ownsRow w1.heap.size 68 2 v5 (l++[(cy,t1)]).length (flatB (l++[(cy,t1)]))):=Lib.hid (by
              rw [flatB_snoc,List.length_append]
              exact hown)
             have HW5:=Lib.hid (HW4.out.grown hgrow HW4.out.size (fun j e=>(HROW4.out.lt j e).1))
             clear hown hgrow hnil
             refine go_on ?_
             go_wp2
             go_roundw
             case rel=>exact ⟨0+1+1,c,_,v5,l++[(cy,t1)],by omega,rfl,rfl,rfl,by go_num,HR2,HI2,HROW5,HW5⟩
             case measure=>simp [intOf];omega
           · have hcn1:cy<0:=by omega
             obtain ⟨t1,ht1⟩:∃ t1,(⟨#[]⟩:ByteArray)++xb=t1:=⟨_,rfl⟩
             have hsz:t1.size≤300:=by
              rw [← ht1,ByteArray.size_append]
              have:(⟨#[]⟩:ByteArray).size≤1:=by decide
              omega
             have hT:[]++xl=t1.data.toList:=by rw [← ht1, ← HXL.out];simp
             have HR2:Hid (PrAt W (0+1) t1 l (⟨#[]⟩:ByteArray)):=Lib.hid (.inr ⟨by omega,by rw [← HR.out,HDR.out,stepR_const (by rw [HCX2.out];omega) (by rw [HCY2.out];omega),hT]⟩)
             have HI2:Hid (PrIn (0+1) t1 l):=Lib.hid ⟨hsz,HI.out.2.1,by have:=HI.out.2.2;omega⟩
             clear hT hsz
             go_wp2
             go_roundw
             case rel=>exact ⟨0+1,t1,_,v,l,by omega,by rw [← ht1],rfl,rfl,by go_num,HR2,HI2,HROW,HW⟩
             case measure=>simp [intOf];omega
         · have hnz:W.drop (0+1)=[]:=List.drop_eq_nil_of_le (by rw [← HN.out.2];omega)
           have HNZ:=Lib.hid hnz
           have hn1y:¬ ((0:Nat):Int)+1<n:=by omega
           clear hnz
           obtain ⟨t1,ht1⟩:∃ t1,(⟨#[]⟩:ByteArray)++xb=t1:=⟨_,rfl⟩
           have hsz:t1.size≤300:=by
            rw [← ht1,ByteArray.size_append]
            have:(⟨#[]⟩:ByteArray).size≤1:=by decide
            omega
           have hT:[]++xl=t1.data.toList:=by rw [← ht1, ← HXL.out];simp
           have HR2:Hid (PrAt W (0+1) t1 l (⟨#[]⟩:ByteArray)):=Lib.hid (.inr ⟨by omega,by rw [← HR.out,HNZ.out,stepR_end (by rw [HCX2.out];omega),hT]⟩)
           have HI2:Hid (PrIn (0+1) t1 l):=Lib.hid ⟨hsz,HI.out.2.1,by have:=HI.out.2.2;omega⟩
           clear hT hsz
           go_wp2
           go_roundw
           case rel=>exact ⟨0+1,t1,_,v,l,by omega,by rw [← ht1],rfl,rfl,by go_num,HR2,HI2,HROW,HW⟩
           case measure=>simp [intOf];omega
      | cons b0 xr =>
       obtain ⟨xb,hxb⟩:∃ xb,toB (b0::xr)=xb:=⟨_,rfl⟩
       rw [hxb] at hxc
       have hxs:xb.size≤200:=by rw [← hxb,toB_size];exact hx0s
       have hxp:0<xb.size:=by rw [← hxb,toB_size];simp
       have hxpi:(0:Int)<xb.size:=by omega
       have hb0:xb[0]=b0:=by
        have h:=byte_at xb 0 hxp
        have e:xb.data.toList=b0::xr:=by rw [← hxb,toB_list]
        rw [e] at h
        simpa using h.symm
       by_cases h45:b0=45
       · have hbt:((xb[0].toNat:Int)==45)=true:=by rw [hb0,h45];rfl
         have HR:Hid (stepR [45] xr (W.drop (0+1)) c.data.toList l=rfirst W):=Lib.hid (by rw [hRF,h45];rfl)
         obtain ⟨x1,hx1⟩:∃ x1,xb.extract 1 xb.size=x1:=⟨_,rfl⟩
         have hx1s:x1.size≤200:=by rw [← hx1,ByteArray.size_extract];omega
         obtain ⟨xl,hxl⟩:∃ xl:List UInt8,xl=xr:=⟨_,rfl⟩
         have HXL:Hid (x1.data.toList=xl):=Lib.hid (by rw [← hx1,ext_part xb 1 xb.size (Nat.le_refl _) hxp,toB_list, ← hxb,toB_list,toB_size,hxl];simp)
         rw [← hxl] at HR
         have hone:(1:Int)≤xb.size:=by omega
         clear hRF hb0 hxb h45 hxl
         obtain ⟨cx,hcx⟩:∃ cx,colW xl=cx:=⟨_,rfl⟩
         have HCX:Hid (colW x1.data.toList=cx):=Lib.hid (by rw [HXL.out,hcx])
         have HCX2:=Lib.hid hcx
         clear hcx
         go_wp2_with fail
         refine (gColumn_any x1 cx _ (by omega) HCX).mono ?_
         rintro e w9 ⟨rfl,hww⟩
         rw [hww]
         clear hww w9
         by_cases hc0:0≤cx
         · obtain ⟨t1,ht1⟩:∃ t1,(⟨#[45]⟩:ByteArray)++⟨#[49]⟩=t1:=⟨_,rfl⟩
           have hT:toB ([45]++[49])=t1:=by rw [← ht1];apply ByteArray.ext;simp [toB]
           have HR2:Hid (PrAt W (0+1) c (l++[(cx,t1)]) (⟨#[45]⟩:ByteArray)):=Lib.hid (.inr ⟨by omega,by rw [← HR.out,stepR_col (by rw [HCX2.out];omega),HCX2.out,hT]⟩)
           have HI2:Hid (PrIn (0+1) c (l++[(cx,t1)])):=Lib.hid (HI.out.push (cx,t1) (by show t1.size≤300;rw [← ht1,ByteArray.size_append];exact Nat.le_trans (Nat.add_le_add_left (show (⟨#[49]⟩:ByteArray).size≤1 by decide) _) (by decide)) (by omega))
           have HT1:=Lib.hid ht1
           have hrt:(⟨#[45]⟩:ByteArray)++⟨#[49]⟩=t1:=ht1
           clear hT ht1
           go_wp2_with fail
           refine (gColumn_any x1 cx _ (by omega) HCX).mono ?_
           rintro e w9 ⟨rfl,hww⟩
           rw [hww]
           clear hww w9
           have hA4:=(Below.refl wr.heap.size wr).alloc (Nat.le_refl _) (.cells #[.int .i64 cx,.string t1] 68)
           have HROW4:=Lib.hid (row_below HROW.out hA4)
           have HW4:=Lib.hid (HW.out.trans (hA4.mono HW.out.size))
           have HTN:=Lib.hid (two_new wr (.int .i64 cx) (.string t1) 68)
           have hll:l.length≤300:=by have:=HI.out.2.2;omega
           have HLL:=Lib.hid (And.intro trivial hll)
           have hbase:w1.heap.size≤wr.heap.size:=HW.out.size
           obtain ⟨i0,hi,hz0,hz1,hz2⟩:=info_parts infoTm
           have HIN:=Lib.hid (And.intro hi (And.intro hz0 (And.intro hz1 hz2)))
           clear hA4 hll hi hz0 hz1 hz2
           go_wp2_with (first | (at_builtin;refine wpList_append_own _ rfl _ _ 22 rfl w1.heap.size 68 i0 (.agg #[.int .i64 0,.string ⟨#[]⟩]) 2 24 Tryz.underlying22 HIN.out.1 HIN.out.2.1 HIN.out.2.2.1 HIN.out.2.2.2 rfl (by decide) _ _ _ rfl HROW4.out _ 1 1 [.int .i64 cx,.string t1] rfl rfl HTN.out (by simp [Value.oneCell']) (by have:=HLL.out.2;unfold maxLen;omega) (by have:=HLL.out.2;omega) (by simp;omega) ?_;intro v5 w5 hown hgrow hnil;refine hold ?_))
           have HROW5:Hid (w5.ownsRow w1.heap.size 68 2 v5 (l++[(cx,t1)]).length (flatB (l++[(cx,t1)]))):=Lib.hid (by
            rw [flatB_snoc,List.length_append]
            exact hown)
           have HW5:=Lib.hid (HW4.out.grown hgrow HW4.out.size (fun j e=>(HROW4.out.lt j e).1))
           clear hown hgrow hnil
           refine go_on ?_
           go_wp2
           go_roundw
           case rel=>exact ⟨0+1,c,_,v5,l++[(cx,t1)],by omega,rfl,rfl,rfl,by go_num,HR2,HI2,HROW5,HW5⟩
           case measure=>simp [intOf];omega
         · have hcn:cx<0:=by omega
           by_cases hnx:0+1<n
           · have hnl:0+1<W.length:=by rw [← HN.out.2];exact hnx
             have hn1x:((0+1:Nat):Int)<n:=by omega
             have hn1y:((0:Nat):Int)+1<n:=by omega
             have hn1z:(0:Int)≤((0:Nat):Int)+1:=by omega
             obtain ⟨yl,hyl⟩:∃ yl,W[0+1]=yl:=⟨_,rfl⟩
             have hyc:=(HW.out.cell (p:=⟨g,off+(0+1),none⟩) HCC.out.1).trans (HCC.out.2 (0+1) hnl)
             rw [hyl] at hyc
             obtain ⟨yb,hyb⟩:∃ yb,toB yl=yb:=⟨_,rfl⟩
             rw [hyb] at hyc
             have hys:yb.size≤200:=by rw [← hyb,toB_size];exact HW0.out.2.1 yl (by rw [← hyl];exact List.getElem_mem hnl)
             obtain ⟨cy,hcy⟩:∃ cy,colW yl=cy:=⟨_,rfl⟩
             have HCY:Hid (colW yb.data.toList=cy):=Lib.hid (by rw [← hyb,toB_list,hcy])
             have HCY2:=Lib.hid hcy
             have HDR:Hid (W.drop (0+1)=yl::W.drop (0+1+1)):=Lib.hid (by rw [List.drop_eq_getElem_cons hnl,hyl])
             clear hyl hyb hcy hnl
             go_wp2_with fail
             refine (gColumn_any yb cy _ (by omega) HCY).mono ?_
             rintro e w9 ⟨rfl,hww⟩
             rw [hww]
             clear hww w9
             by_cases hc1:0≤cy
             · obtain ⟨t1,ht1⟩:∃ t1,(⟨#[45]⟩:ByteArray)++x1=t1:=⟨_,rfl⟩
               have hsz:t1.size≤300:=by
                rw [← ht1,ByteArray.size_append]
                have:(⟨#[45]⟩:ByteArray).size≤1:=by decide
                omega
               have hT:toB ([45]++xl)=t1:=by rw [← ht1, ← HXL.out];apply ByteArray.ext;simp [toB]
               have HR2:Hid (PrAt W (0+1+1) c (l++[(cy,t1)]) (⟨#[45]⟩:ByteArray)):=Lib.hid (.inr ⟨by omega,by rw [← HR.out,HDR.out,stepR_next (by rw [HCX2.out];omega) (by rw [HCY2.out];omega),HCY2.out,hT]⟩)
               have HI2:Hid (PrIn (0+1+1) c (l++[(cy,t1)])):=Lib.hid (HI.out.push (cy,t1) hsz (by omega))
               clear hT
               go_wp2_with fail
               refine (gColumn_any yb cy _ (by omega) HCY).mono ?_
               rintro e w9 ⟨rfl,hww⟩
               rw [hww]
               clear hww w9
               have hA4:=(Below.refl wr.heap.size wr).alloc (Nat.le_refl _) (.cells #[.int .i64 cy,.string t1] 68)
               have HROW4:=Lib.hid (row_below HROW.out hA4)
               have HW4:=Lib.hid (HW.out.trans (hA4.mono HW.out.size))
               have HTN:=Lib.hid (two_new wr (.int .i64 cy) (.string t1) 68)
               have hll:l.length≤300:=by have:=HI.out.2.2;omega
               have HLL:=Lib.hid (And.intro trivial hll)
               have hbase:w1.heap.size≤wr.heap.size:=HW.out.size
               obtain ⟨i0,hi,hz0,hz1,hz2⟩:=info_parts infoTm
               have HIN:=Lib.hid (And.intro hi (And.intro hz0 (And.intro hz1 hz2)))
               clear hA4 hll hi hz0 hz1 hz2
               go_wp2_with (first | (at_builtin;refine wpList_append_own _ rfl _ _ 22 rfl w1.heap.size 68 i0 (.agg #[.int .i64 0,.string ⟨#[]⟩]) 2 24 Tryz.underlying22 HIN.out.1 HIN.out.2.1 HIN.out.2.2.1 HIN.out.2.2.2 rfl (by decide) _ _ _ rfl HROW4.out _ 1 1 [.int .i64 cy,.string t1] rfl rfl HTN.out (by simp [Value.oneCell']) (by have:=HLL.out.2;unfold maxLen;omega) (by have:=HLL.out.2;omega) (by simp;omega) ?_;intro v5 w5 hown hgrow hnil;refine hold ?_))
               have HROW5:Hid (w5.ownsRow w1.heap.size 68 2 v5 (l++[(cy,t1)]).length (flatB (l++[(cy,t1)]))):=Lib.hid (by
                rw [flatB_snoc,List.length_append]
                exact hown)
               have HW5:=Lib.hid (HW4.out.grown hgrow HW4.out.size (fun j e=>(HROW4.out.lt j e).1))
               clear hown hgrow hnil
               refine go_on ?_
               go_wp2
               go_roundw
               case rel=>exact ⟨0+1+1,c,_,v5,l++[(cy,t1)],by omega,rfl,rfl,rfl,by go_num,HR2,HI2,HROW5,HW5⟩
               case measure=>simp [intOf];omega
             · have hcn1:cy<0:=by omega
               obtain ⟨t1,ht1⟩:∃ t1,(⟨#[45]⟩:ByteArray)++x1=t1:=⟨_,rfl⟩
               have hsz:t1.size≤300:=by
                rw [← ht1,ByteArray.size_append]
                have:(⟨#[45]⟩:ByteArray).size≤1:=by decide
                omega
               have hT:[45]++xl=t1.data.toList:=by rw [← ht1, ← HXL.out];simp
               have HR2:Hid (PrAt W (0+1) t1 l (⟨#[45]⟩:ByteArray)):=Lib.hid (.inr ⟨by omega,by rw [← HR.out,HDR.out,stepR_const (by rw [HCX2.out];omega) (by rw [HCY2.out];omega),hT]⟩)
               have HI2:Hid (PrIn (0+1) t1 l):=Lib.hid ⟨hsz,HI.out.2.1,by have:=HI.out.2.2;omega⟩
               clear hT hsz
               go_wp2
               go_roundw
               case rel=>exact ⟨0+1,t1,_,v,l,by omega,by rw [← ht1],rfl,rfl,by go_num,HR2,HI2,HROW,HW⟩
               case measure=>simp [intOf];omega
           · have hnz:W.drop (0+1)=[]:=List.drop_eq_nil_of_le (by rw [← HN.out.2];omega)
             have HNZ:=Lib.hid hnz
             have hn1y:¬ ((0:Nat):Int)+1<n:=by omega
             clear hnz
             obtain ⟨t1,ht1⟩:∃ t1,(⟨#[45]⟩:ByteArray)++x1=t1:=⟨_,rfl⟩
             have hsz:t1.size≤300:=by
              rw [← ht1,ByteArray.size_append]
              have:(⟨#[45]⟩:ByteArray).size≤1:=by decide
              omega
             have hT:[45]++xl=t1.data.toList:=by rw [← ht1, ← HXL.out];simp
             have HR2:Hid (PrAt W (0+1) t1 l (⟨#[45]⟩:ByteArray)):=Lib.hid (.inr ⟨by omega,by rw [← HR.out,HNZ.out,stepR_end (by rw [HCX2.out];omega),hT]⟩)
             have HI2:Hid (PrIn (0+1) t1 l):=Lib.hid ⟨hsz,HI.out.2.1,by have:=HI.out.2.2;omega⟩
             clear hT hsz
             go_wp2
             go_roundw
             case rel=>exact ⟨0+1,t1,_,v,l,by omega,by rw [← ht1],rfl,rfl,by go_num,HR2,HI2,HROW,HW⟩
             case measure=>simp [intOf];omega
       · have hbt:((xb[0].toNat:Int)==45)=false:=by
          have:b0.toNat≠45:=fun e=>h45 (UInt8.toNat_inj.1 e)
          rw [hb0]
          show decide ((b0.toNat:Int)=45)=false
          exact decide_eq_false (by omega)
         have HR:Hid (stepR [] (b0::xr) (W.drop (0+1)) c.data.toList l=rfirst W):=Lib.hid (by rw [hRF];simp [h45])
         obtain ⟨xl,hxl⟩:∃ xl:List UInt8,xl=b0::xr:=⟨_,rfl⟩
         have HXL:Hid (xb.data.toList=xl):=Lib.hid (by rw [← hxb,toB_list,hxl])
         rw [← hxl] at HR
         clear hRF hb0 hxb h45 hxl
         obtain ⟨cx,hcx⟩:∃ cx,colW xl=cx:=⟨_,rfl⟩
         have HCX:Hid (colW xb.data.toList=cx):=Lib.hid (by rw [HXL.out,hcx])
         have HCX2:=Lib.hid hcx
         clear hcx
         go_wp2_with fail
         refine (gColumn_any xb cx _ (by omega) HCX).mono ?_
         rintro e w9 ⟨rfl,hww⟩
         rw [hww]
         clear hww w9
         by_cases hc0:0≤cx
         · obtain ⟨t1,ht1⟩:∃ t1,(⟨#[]⟩:ByteArray)++⟨#[49]⟩=t1:=⟨_,rfl⟩
           have hT:toB ([]++[49])=t1:=by rw [← ht1];apply ByteArray.ext;simp [toB]
           have HR2:Hid (PrAt W (0+1) c (l++[(cx,t1)]) (⟨#[]⟩:ByteArray)):=Lib.hid (.inr ⟨by omega,by rw [← HR.out,stepR_col (by rw [HCX2.out];omega),HCX2.out,hT]⟩)
           have HI2:Hid (PrIn (0+1) c (l++[(cx,t1)])):=Lib.hid (HI.out.push (cx,t1) (by show t1.size≤300;rw [← ht1,ByteArray.size_append];exact Nat.le_trans (Nat.add_le_add_left (show (⟨#[49]⟩:ByteArray).size≤1 by decide) _) (by decide)) (by omega))
           have HT1:=Lib.hid ht1
           have hrt:(⟨#[]⟩:ByteArray)++⟨#[49]⟩=t1:=ht1
           clear hT ht1
           go_wp2_with fail
           refine (gColumn_any xb cx _ (by omega) HCX).mono ?_
           rintro e w9 ⟨rfl,hww⟩
           rw [hww]
           clear hww w9
           have hA4:=(Below.refl wr.heap.size wr).alloc (Nat.le_refl _) (.cells #[.int .i64 cx,.string t1] 68)
           have HROW4:=Lib.hid (row_below HROW.out hA4)
           have HW4:=Lib.hid (HW.out.trans (hA4.mono HW.out.size))
           have HTN:=Lib.hid (two_new wr (.int .i64 cx) (.string t1) 68)
           have hll:l.length≤300:=by have:=HI.out.2.2;omega
           have HLL:=Lib.hid (And.intro trivial hll)
           have hbase:w1.heap.size≤wr.heap.size:=HW.out.size
           obtain ⟨i0,hi,hz0,hz1,hz2⟩:=info_parts infoTm
           have HIN:=Lib.hid (And.intro hi (And.intro hz0 (And.intro hz1 hz2)))
           clear hA4 hll hi hz0 hz1 hz2
           go_wp2_with (first | (at_builtin;refine wpList_append_own _ rfl _ _ 22 rfl w1.heap.size 68 i0 (.agg #[.int .i64 0,.string ⟨#[]⟩]) 2 24 Tryz.underlying22 HIN.out.1 HIN.out.2.1 HIN.out.2.2.1 HIN.out.2.2.2 rfl (by decide) _ _ _ rfl HROW4.out _ 1 1 [.int .i64 cx,.string t1] rfl rfl HTN.out (by simp [Value.oneCell']) (by have:=HLL.out.2;unfold maxLen;omega) (by have:=HLL.out.2;omega) (by simp;omega) ?_;intro v5 w5 hown hgrow hnil;refine hold ?_))
           have HROW5:Hid (w5.ownsRow w1.heap.size 68 2 v5 (l++[(cx,t1)]).length (flatB (l++[(cx,t1)]))):=Lib.hid (by
            rw [flatB_snoc,List.length_append]
            exact hown)
           have HW5:=Lib.hid (HW4.out.grown hgrow HW4.out.size (fun j e=>(HROW4.out.lt j e).1))
           clear hown hgrow hnil
           refine go_on ?_
           go_wp2
           go_roundw
           case rel=>exact ⟨0+1,c,_,v5,l++[(cx,t1)],by omega,rfl,rfl,rfl,by go_num,HR2,HI2,HROW5,HW5⟩
           case measure=>simp [intOf];omega
         · have hcn:cx<0:=by omega
           by_cases hnx:0+1<n
           · have hnl:0+1<W.length:=by rw [← HN.out.2];exact hnx
             have hn1x:((0+1:Nat):Int)<n:=by omega
             have hn1y:((0:Nat):Int)+1<n:=by omega
             have hn1z:(0:Int)≤((0:Nat):Int)+1:=by omega
             obtain ⟨yl,hyl⟩:∃ yl,W[0+1]=yl:=⟨_,rfl⟩
             have hyc:=(HW.out.cell (p:=⟨g,off+(0+1),none⟩) HCC.out.1).trans (HCC.out.2 (0+1) hnl)
             rw [hyl] at hyc
             obtain ⟨yb,hyb⟩:∃ yb,toB yl=yb:=⟨_,rfl⟩
             rw [hyb] at hyc
             have hys:yb.size≤200:=by rw [← hyb,toB_size];exact HW0.out.2.1 yl (by rw [← hyl];exact List.getElem_mem hnl)
             obtain ⟨cy,hcy⟩:∃ cy,colW yl=cy:=⟨_,rfl⟩
             have HCY:Hid (colW yb.data.toList=cy):=Lib.hid (by rw [← hyb,toB_list,hcy])
             have HCY2:=Lib.hid hcy
             have HDR:Hid (W.drop (0+1)=yl::W.drop (0+1+1)):=Lib.hid (by rw [List.drop_eq_getElem_cons hnl,hyl])
             clear hyl hyb hcy hnl
             go_wp2_with fail
             refine (gColumn_any yb cy _ (by omega) HCY).mono ?_
             rintro e w9 ⟨rfl,hww⟩
             rw [hww]
             clear hww w9
             by_cases hc1:0≤cy
             · obtain ⟨t1,ht1⟩:∃ t1,(⟨#[]⟩:ByteArray)++xb=t1:=⟨_,rfl⟩
               have hsz:t1.size≤300:=by
                rw [← ht1,ByteArray.size_append]
                have:(⟨#[]⟩:ByteArray).size≤1:=by decide
                omega
               have hT:toB ([]++xl)=t1:=by rw [← ht1, ← HXL.out];apply ByteArray.ext;simp [toB]
               have HR2:Hid (PrAt W (0+1+1) c (l++[(cy,t1)]) (⟨#[]⟩:ByteArray)):=Lib.hid (.inr ⟨by omega,by rw [← HR.out,HDR.out,stepR_next (by rw [HCX2.out];omega) (by rw [HCY2.out];omega),HCY2.out,hT]⟩)
               have HI2:Hid (PrIn (0+1+1) c (l++[(cy,t1)])):=Lib.hid (HI.out.push (cy,t1) hsz (by omega))
               clear hT
               go_wp2_with fail
               refine (gColumn_any yb cy _ (by omega) HCY).mono ?_
               rintro e w9 ⟨rfl,hww⟩
               rw [hww]
               clear hww w9
               have hA4:=(Below.refl wr.heap.size wr).alloc (Nat.le_refl _) (.cells #[.int .i64 cy,.string t1] 68)
               have HROW4:=Lib.hid (row_below HROW.out hA4)
               have HW4:=Lib.hid (HW.out.trans (hA4.mono HW.out.size))
               have HTN:=Lib.hid (two_new wr (.int .i64 cy) (.string t1) 68)
               have hll:l.length≤300:=by have:=HI.out.2.2;omega
               have HLL:=Lib.hid (And.intro trivial hll)
               have hbase:w1.heap.size≤wr.heap.size:=HW.out.size
               obtain ⟨i0,hi,hz0,hz1,hz2⟩:=info_parts infoTm
               have HIN:=Lib.hid (And.intro hi (And.intro hz0 (And.intro hz1 hz2)))
               clear hA4 hll hi hz0 hz1 hz2
               go_wp2_with (first | (at_builtin;refine wpList_append_own _ rfl _ _ 22 rfl w1.heap.size 68 i0 (.agg #[.int .i64 0,.string ⟨#[]⟩]) 2 24 Tryz.underlying22 HIN.out.1 HIN.out.2.1 HIN.out.2.2.1 HIN.out.2.2.2 rfl (by decide) _ _ _ rfl HROW4.out _ 1 1 [.int .i64 cy,.string t1] rfl rfl HTN.out (by simp [Value.oneCell']) (by have:=HLL.out.2;unfold maxLen;omega) (by have:=HLL.out.2;omega) (by simp;omega) ?_;intro v5 w5 hown hgrow hnil;refine hold ?_))
               have HROW5:Hid (w5.ownsRow w1.heap.size 68 2 v5 (l++[(cy,t1)]).length (flatB (l++[(cy,t1)]))):=Lib.hid (by
                rw [flatB_snoc,List.length_append]
                exact hown)
               have HW5:=Lib.hid (HW4.out.grown hgrow HW4.out.size (fun j e=>(HROW4.out.lt j e).1))
               clear hown hgrow hnil
               refine go_on ?_
               go_wp2
               go_roundw
               case rel=>exact ⟨0+1+1,c,_,v5,l++[(cy,t1)],by omega,rfl,rfl,rfl,by go_num,HR2,HI2,HROW5,HW5⟩
               case measure=>simp [intOf];omega
             · have hcn1:cy<0:=by omega
               obtain ⟨t1,ht1⟩:∃ t1,(⟨#[]⟩:ByteArray)++xb=t1:=⟨_,rfl⟩
               have hsz:t1.size≤300:=by
                rw [← ht1,ByteArray.size_append]
                have:(⟨#[]⟩:ByteArray).size≤1:=by decide
                omega
               have hT:[]++xl=t1.data.toList:=by rw [← ht1, ← HXL.out];simp
               have HR2:Hid (PrAt W (0+1) t1 l (⟨#[]⟩:ByteArray)):=Lib.hid (.inr ⟨by omega,by rw [← HR.out,HDR.out,stepR_const (by rw [HCX2.out];omega) (by rw [HCY2.out];omega),hT]⟩)
               have HI2:Hid (PrIn (0+1) t1 l):=Lib.hid ⟨hsz,HI.out.2.1,by have:=HI.out.2.2;omega⟩
               clear hT hsz
               go_wp2
               go_roundw
               case rel=>exact ⟨0+1,t1,_,v,l,by omega,by rw [← ht1],rfl,rfl,by go_num,HR2,HI2,HROW,HW⟩
               case measure=>simp [intOf];omega
           · have hnz:W.drop (0+1)=[]:=List.drop_eq_nil_of_le (by rw [← HN.out.2];omega)
             have HNZ:=Lib.hid hnz
             have hn1y:¬ ((0:Nat):Int)+1<n:=by omega
             clear hnz
             obtain ⟨t1,ht1⟩:∃ t1,(⟨#[]⟩:ByteArray)++xb=t1:=⟨_,rfl⟩
             have hsz:t1.size≤300:=by
              rw [← ht1,ByteArray.size_append]
              have:(⟨#[]⟩:ByteArray).size≤1:=by decide
              omega
             have hT:[]++xl=t1.data.toList:=by rw [← ht1, ← HXL.out];simp
             have HR2:Hid (PrAt W (0+1) t1 l (⟨#[]⟩:ByteArray)):=Lib.hid (.inr ⟨by omega,by rw [← HR.out,HNZ.out,stepR_end (by rw [HCX2.out];omega),hT]⟩)
             have HI2:Hid (PrIn (0+1) t1 l):=Lib.hid ⟨hsz,HI.out.2.1,by have:=HI.out.2.2;omega⟩
             clear hT hsz
             go_wp2
             go_roundw
             case rel=>exact ⟨0+1,t1,_,v,l,by omega,by rw [← ht1],rfl,rfl,by go_num,HR2,HI2,HROW,HW⟩
             case measure=>simp [intOf];omega
    · have hkp:0<k:=by omega
      have hR0:rgo (W.drop k) c.data.toList l=rfirst W:=by
       rcases HP.out with ⟨h,_⟩ | ⟨_,h⟩
       · omega
       · exact h
      have hwl:k<W.length:=by rw [← HN.out.2];exact hlt
      obtain ⟨gl,hgl⟩:∃ gl,W[k]=gl:=⟨_,rfl⟩
      have hgc:=(HW.out.cell (p:=⟨g,off+k,none⟩) HCC.out.1).trans (HCC.out.2 k hwl)
      rw [hgl] at hgc
      obtain ⟨gb,hgb⟩:∃ gb,toB gl=gb:=⟨_,rfl⟩
      rw [hgb] at hgc
      have hgdl:gb.data.toList=gl:=by rw [← hgb,toB_list]
      have hd:=List.drop_eq_getElem_cons hwl
      rw [hgl] at hd
      rw [hd] at hR0
      have i1:(0:Int)<k:=by omega
      have i2:(0:Int)≤k:=by omega
      have i3:(k:Int)<n:=by omega
      have hk00:((k:Int)+1==0)=false:=by
       show decide ((k:Int)+1=0)=false
       exact decide_eq_false (by omega)
      by_cases hlast:k+1<n
      · have hxl1:k+1<W.length:=by rw [← HN.out.2];exact hlast
        obtain ⟨xl,hxl⟩:∃ xl,W[k+1]=xl:=⟨_,rfl⟩
        have hxc:=(HW.out.cell (p:=⟨g,off+(k+1),none⟩) HCC.out.1).trans (HCC.out.2 (k+1) hxl1)
        rw [hxl] at hxc
        have hd2:=List.drop_eq_getElem_cons hxl1
        rw [hxl] at hd2
        rw [hd2,rgo_step] at hR0
        obtain ⟨xb,hxb⟩:∃ xb,toB xl=xb:=⟨_,rfl⟩
        rw [hxb] at hxc
        have hxs:xb.size≤200:=by rw [← hxb,toB_size];exact HW0.out.2.1 xl (by rw [← hxl];exact List.getElem_mem hxl1)
        have HXL:Hid (xb.data.toList=xl):=Lib.hid (by rw [← hxb,toB_list])
        have i4:¬ (n:Int)≤(k:Int)+1:=by omega
        have i5:(k:Int)+1<n:=by omega
        have i6:(0:Int)≤(k:Int)+1:=by omega
        by_cases h45:gl=[45]
        · have hge:(gb.toList==[45])=true:=by rw [Lib.toList_data,hgdl,h45];rfl
          have HR:Hid (stepR [45] xl (W.drop (k+1+1)) c.data.toList l=rfirst W):=Lib.hid (by rw [← hR0,h45];rfl)
          clear hR0 hd hd2 hxb hxl hgb hgl hgdl h45 hwl hxl1
          obtain ⟨cx,hcx⟩:∃ cx,colW xl=cx:=⟨_,rfl⟩
          have HCX:Hid (colW xb.data.toList=cx):=Lib.hid (by rw [HXL.out,hcx])
          have HCX2:=Lib.hid hcx
          clear hcx
          go_wp2_with fail
          refine (gColumn_any xb cx _ (by omega) HCX).mono ?_
          rintro e w9 ⟨rfl,hww⟩
          rw [hww]
          clear hww w9
          by_cases hc0:0≤cx
          · obtain ⟨t1,ht1⟩:∃ t1,(⟨#[45]⟩:ByteArray)++⟨#[49]⟩=t1:=⟨_,rfl⟩
            have hT:toB ([45]++[49])=t1:=by rw [← ht1];apply ByteArray.ext;simp [toB]
            have HR2:Hid (PrAt W ((k+1)+1) c (l++[(cx,t1)]) (⟨#[45]⟩:ByteArray)):=Lib.hid (.inr ⟨by omega,by rw [← HR.out,stepR_col (by rw [HCX2.out];omega),HCX2.out,hT]⟩)
            have HI2:Hid (PrIn ((k+1)+1) c (l++[(cx,t1)])):=Lib.hid (HI.out.push (cx,t1) (by show t1.size≤300;rw [← ht1,ByteArray.size_append];exact Nat.le_trans (Nat.add_le_add_left (show (⟨#[49]⟩:ByteArray).size≤1 by decide) _) (by decide)) (by omega))
            have HT1:=Lib.hid ht1
            have hrt:(⟨#[45]⟩:ByteArray)++⟨#[49]⟩=t1:=ht1
            clear hT ht1
            go_wp2_with fail
            refine (gColumn_any xb cx _ (by omega) HCX).mono ?_
            rintro e w9 ⟨rfl,hww⟩
            rw [hww]
            clear hww w9
            have hA4:=(Below.refl wr.heap.size wr).alloc (Nat.le_refl _) (.cells #[.int .i64 cx,.string t1] 68)
            have HROW4:=Lib.hid (row_below HROW.out hA4)
            have HW4:=Lib.hid (HW.out.trans (hA4.mono HW.out.size))
            have HTN:=Lib.hid (two_new wr (.int .i64 cx) (.string t1) 68)
            have hll:l.length≤300:=by have:=HI.out.2.2;omega
            have HLL:=Lib.hid (And.intro trivial hll)
            have hbase:w1.heap.size≤wr.heap.size:=HW.out.size
            obtain ⟨i0,hi,hz0,hz1,hz2⟩:=info_parts infoTm
            have HIN:=Lib.hid (And.intro hi (And.intro hz0 (And.intro hz1 hz2)))
            clear hA4 hll hi hz0 hz1 hz2
            go_wp2_with (first | (at_builtin;refine wpList_append_own _ rfl _ _ 22 rfl w1.heap.size 68 i0 (.agg #[.int .i64 0,.string ⟨#[]⟩]) 2 24 Tryz.underlying22 HIN.out.1 HIN.out.2.1 HIN.out.2.2.1 HIN.out.2.2.2 rfl (by decide) _ _ _ rfl HROW4.out _ 1 1 [.int .i64 cx,.string t1] rfl rfl HTN.out (by simp [Value.oneCell']) (by have:=HLL.out.2;unfold maxLen;omega) (by have:=HLL.out.2;omega) (by simp;omega) ?_;intro v5 w5 hown hgrow hnil;refine hold ?_))
            have HROW5:Hid (w5.ownsRow w1.heap.size 68 2 v5 (l++[(cx,t1)]).length (flatB (l++[(cx,t1)]))):=Lib.hid (by
             rw [flatB_snoc,List.length_append]
             exact hown)
            have HW5:=Lib.hid (HW4.out.grown hgrow HW4.out.size (fun j e=>(HROW4.out.lt j e).1))
            clear hown hgrow hnil
            refine go_on ?_
            go_wp2
            go_roundw
            case rel=>exact ⟨(k+1)+1,c,_,v5,l++[(cx,t1)],by omega,rfl,rfl,rfl,by go_num,HR2,HI2,HROW5,HW5⟩
            case measure=>simp [intOf];omega
          · have hcn:cx<0:=by omega
            by_cases hnx:(k+1)+1<n
            · have hnl:(k+1)+1<W.length:=by rw [← HN.out.2];exact hnx
              have hn1x:(((k+1)+1:Nat):Int)<n:=by omega
              have hn1y:(((k+1):Nat):Int)+1<n:=by omega
              have hn1z:(0:Int)≤(((k+1):Nat):Int)+1:=by omega
              obtain ⟨yl,hyl⟩:∃ yl,W[(k+1)+1]=yl:=⟨_,rfl⟩
              have hyc:=(HW.out.cell (p:=⟨g,off+((k+1)+1),none⟩) HCC.out.1).trans (HCC.out.2 ((k+1)+1) hnl)
              rw [hyl] at hyc
              obtain ⟨yb,hyb⟩:∃ yb,toB yl=yb:=⟨_,rfl⟩
              rw [hyb] at hyc
              have hys:yb.size≤200:=by rw [← hyb,toB_size];exact HW0.out.2.1 yl (by rw [← hyl];exact List.getElem_mem hnl)
              obtain ⟨cy,hcy⟩:∃ cy,colW yl=cy:=⟨_,rfl⟩
              have HCY:Hid (colW yb.data.toList=cy):=Lib.hid (by rw [← hyb,toB_list,hcy])
              have HCY2:=Lib.hid hcy
              have HDR:Hid (W.drop ((k+1)+1)=yl::W.drop ((k+1)+1+1)):=Lib.hid (by rw [List.drop_eq_getElem_cons hnl,hyl])
              clear hyl hyb hcy hnl
              go_wp2_with fail
              refine (gColumn_any yb cy _ (by omega) HCY).mono ?_
              rintro e w9 ⟨rfl,hww⟩
              rw [hww]
              clear hww w9
              by_cases hc1:0≤cy
              · obtain ⟨t1,ht1⟩:∃ t1,(⟨#[45]⟩:ByteArray)++xb=t1:=⟨_,rfl⟩
                have hsz:t1.size≤300:=by
                 rw [← ht1,ByteArray.size_append]
                 have:(⟨#[45]⟩:ByteArray).size≤1:=by decide
                 omega
                have hT:toB ([45]++xl)=t1:=by rw [← ht1, ← HXL.out];apply ByteArray.ext;simp [toB]
                have HR2:Hid (PrAt W ((k+1)+1+1) c (l++[(cy,t1)]) (⟨#[45]⟩:ByteArray)):=Lib.hid (.inr ⟨by omega,by rw [← HR.out,HDR.out,stepR_next (by rw [HCX2.out];omega) (by rw [HCY2.out];omega),HCY2.out,hT]⟩)
                have HI2:Hid (PrIn ((k+1)+1+1) c (l++[(cy,t1)])):=Lib.hid (HI.out.push (cy,t1) hsz (by omega))
                clear hT
                go_wp2_with fail
                refine (gColumn_any yb cy _ (by omega) HCY).mono ?_
                rintro e w9 ⟨rfl,hww⟩
                rw [hww]
                clear hww w9
                have hA4:=(Below.refl wr.heap.size wr).alloc (Nat.le_refl _) (.cells #[.int .i64 cy,.string t1] 68)
                have HROW4:=Lib.hid (row_below HROW.out hA4)
                have HW4:=Lib.hid (HW.out.trans (hA4.mono HW.out.size))
                have HTN:=Lib.hid (two_new wr (.int .i64 cy) (.string t1) 68)
                have hll:l.length≤300:=by have:=HI.out.2.2;omega
                have HLL:=Lib.hid (And.intro trivial hll)
                have hbase:w1.heap.size≤wr.heap.size:=HW.out.size
                obtain ⟨i0,hi,hz0,hz1,hz2⟩:=info_parts infoTm
                have HIN:=Lib.hid (And.intro hi (And.intro hz0 (And.intro hz1 hz2)))
                clear hA4 hll hi hz0 hz1 hz2
                go_wp2_with (first | (at_builtin;refine wpList_append_own _ rfl _ _ 22 rfl w1.heap.size 68 i0 (.agg #[.int .i64 0,.string ⟨#[]⟩]) 2 24 Tryz.underlying22 HIN.out.1 HIN.out.2.1 HIN.out.2.2.1 HIN.out.2.2.2 rfl (by decide) _ _ _ rfl HROW4.out _ 1 1 [.int .i64 cy,.string t1] rfl rfl HTN.out (by simp [Value.oneCell']) (by have:=HLL.out.2;unfold maxLen;omega) (by have:=HLL.out.2;omega) (by simp;omega) ?_;intro v5 w5 hown hgrow hnil;refine hold ?_))
                have HROW5:Hid (w5.ownsRow w1.heap.size 68 2 v5 (l++[(cy,t1)]).length (flatB (l++[(cy,t1)]))):=Lib.hid (by
                 rw [flatB_snoc,List.length_append]
                 exact hown)
                have HW5:=Lib.hid (HW4.out.grown hgrow HW4.out.size (fun j e=>(HROW4.out.lt j e).1))
                clear hown hgrow hnil
                refine go_on ?_
                go_wp2
                go_roundw
                case rel=>exact ⟨(k+1)+1+1,c,_,v5,l++[(cy,t1)],by omega,rfl,rfl,rfl,by go_num,HR2,HI2,HROW5,HW5⟩
                case measure=>simp [intOf];omega
              · have hcn1:cy<0:=by omega
                obtain ⟨t1,ht1⟩:∃ t1,(⟨#[45]⟩:ByteArray)++xb=t1:=⟨_,rfl⟩
                have hsz:t1.size≤300:=by
                 rw [← ht1,ByteArray.size_append]
                 have:(⟨#[45]⟩:ByteArray).size≤1:=by decide
                 omega
                have hT:[45]++xl=t1.data.toList:=by rw [← ht1, ← HXL.out];simp
                have HR2:Hid (PrAt W ((k+1)+1) t1 l (⟨#[45]⟩:ByteArray)):=Lib.hid (.inr ⟨by omega,by rw [← HR.out,HDR.out,stepR_const (by rw [HCX2.out];omega) (by rw [HCY2.out];omega),hT]⟩)
                have HI2:Hid (PrIn ((k+1)+1) t1 l):=Lib.hid ⟨hsz,HI.out.2.1,by have:=HI.out.2.2;omega⟩
                clear hT hsz
                go_wp2
                go_roundw
                case rel=>exact ⟨(k+1)+1,t1,_,v,l,by omega,by rw [← ht1],rfl,rfl,by go_num,HR2,HI2,HROW,HW⟩
                case measure=>simp [intOf];omega
            · have hnz:W.drop ((k+1)+1)=[]:=List.drop_eq_nil_of_le (by rw [← HN.out.2];omega)
              have HNZ:=Lib.hid hnz
              have hn1y:¬ (((k+1):Nat):Int)+1<n:=by omega
              clear hnz
              obtain ⟨t1,ht1⟩:∃ t1,(⟨#[45]⟩:ByteArray)++xb=t1:=⟨_,rfl⟩
              have hsz:t1.size≤300:=by
               rw [← ht1,ByteArray.size_append]
               have:(⟨#[45]⟩:ByteArray).size≤1:=by decide
               omega
              have hT:[45]++xl=t1.data.toList:=by rw [← ht1, ← HXL.out];simp
              have HR2:Hid (PrAt W ((k+1)+1) t1 l (⟨#[45]⟩:ByteArray)):=Lib.hid (.inr ⟨by omega,by rw [← HR.out,HNZ.out,stepR_end (by rw [HCX2.out];omega),hT]⟩)
              have HI2:Hid (PrIn ((k+1)+1) t1 l):=Lib.hid ⟨hsz,HI.out.2.1,by have:=HI.out.2.2;omega⟩
              clear hT hsz
              go_wp2
              go_roundw
              case rel=>exact ⟨(k+1)+1,t1,_,v,l,by omega,by rw [← ht1],rfl,rfl,by go_num,HR2,HI2,HROW,HW⟩
              case measure=>simp [intOf];omega
        · have hge:(gb.toList==[45])=false:=by rw [Lib.toList_data,hgdl];simpa using h45
          have HR:Hid (stepR [] xl (W.drop (k+1+1)) c.data.toList l=rfirst W):=Lib.hid (by rw [← hR0];unfold rsgn;rw [if_neg h45])
          clear hR0 hd hd2 hxb hxl hgb hgl hgdl h45 hwl hxl1
          obtain ⟨cx,hcx⟩:∃ cx,colW xl=cx:=⟨_,rfl⟩
          have HCX:Hid (colW xb.data.toList=cx):=Lib.hid (by rw [HXL.out,hcx])
          have HCX2:=Lib.hid hcx
          clear hcx
          go_wp2_with fail
          refine (gColumn_any xb cx _ (by omega) HCX).mono ?_
          rintro e w9 ⟨rfl,hww⟩
          rw [hww]
          clear hww w9
          by_cases hc0:0≤cx
          · obtain ⟨t1,ht1⟩:∃ t1,(⟨#[]⟩:ByteArray)++⟨#[49]⟩=t1:=⟨_,rfl⟩
            have hT:toB ([]++[49])=t1:=by rw [← ht1];apply ByteArray.ext;simp [toB]
            have HR2:Hid (PrAt W ((k+1)+1) c (l++[(cx,t1)]) (⟨#[]⟩:ByteArray)):=Lib.hid (.inr ⟨by omega,by rw [← HR.out,stepR_col (by rw [HCX2.out];omega),HCX2.out,hT]⟩)
            have HI2:Hid (PrIn ((k+1)+1) c (l++[(cx,t1)])):=Lib.hid (HI.out.push (cx,t1) (by show t1.size≤300;rw [← ht1,ByteArray.size_append];exact Nat.le_trans (Nat.add_le_add_left (show (⟨#[49]⟩:ByteArray).size≤1 by decide) _) (by decide)) (by omega))
            have HT1:=Lib.hid ht1
            have hrt:(⟨#[]⟩:ByteArray)++⟨#[49]⟩=t1:=ht1
            clear hT ht1
            go_wp2_with fail
            refine (gColumn_any xb cx _ (by omega) HCX).mono ?_
            rintro e w9 ⟨rfl,hww⟩
            rw [hww]
            clear hww w9
            have hA4:=(Below.refl wr.heap.size wr).alloc (Nat.le_refl _) (.cells #[.int .i64 cx,.string t1] 68)
            have HROW4:=Lib.hid (row_below HROW.out hA4)
            have HW4:=Lib.hid (HW.out.trans (hA4.mono HW.out.size))
            have HTN:=Lib.hid (two_new wr (.int .i64 cx) (.string t1) 68)
            have hll:l.length≤300:=by have:=HI.out.2.2;omega
            have HLL:=Lib.hid (And.intro trivial hll)
            have hbase:w1.heap.size≤wr.heap.size:=HW.out.size
            obtain ⟨i0,hi,hz0,hz1,hz2⟩:=info_parts infoTm
            have HIN:=Lib.hid (And.intro hi (And.intro hz0 (And.intro hz1 hz2)))
            clear hA4 hll hi hz0 hz1 hz2
            go_wp2_with (first | (at_builtin;refine wpList_append_own _ rfl _ _ 22 rfl w1.heap.size 68 i0 (.agg #[.int .i64 0,.string ⟨#[]⟩]) 2 24 Tryz.underlying22 HIN.out.1 HIN.out.2.1 HIN.out.2.2.1 HIN.out.2.2.2 rfl (by decide) _ _ _ rfl HROW4.out _ 1 1 [.int .i64 cx,.string t1] rfl rfl HTN.out (by simp [Value.oneCell']) (by have:=HLL.out.2;unfold maxLen;omega) (by have:=HLL.out.2;omega) (by simp;omega) ?_;intro v5 w5 hown hgrow hnil;refine hold ?_))
            have HROW5:Hid (w5.ownsRow w1.heap.size 68 2 v5 (l++[(cx,t1)]).length (flatB (l++[(cx,t1)]))):=Lib.hid (by
             rw [flatB_snoc,List.length_append]
             exact hown)
            have HW5:=Lib.hid (HW4.out.grown hgrow HW4.out.size (fun j e=>(HROW4.out.lt j e).1))
            clear hown hgrow hnil
            refine go_on ?_
            go_wp2
            go_roundw
            case rel=>exact ⟨(k+1)+1,c,_,v5,l++[(cx,t1)],by omega,rfl,rfl,rfl,by go_num,HR2,HI2,HROW5,HW5⟩
            case measure=>simp [intOf];omega
          · have hcn:cx<0:=by omega
            by_cases hnx:(k+1)+1<n
            · have hnl:(k+1)+1<W.length:=by rw [← HN.out.2];exact hnx
              have hn1x:(((k+1)+1:Nat):Int)<n:=by omega
              have hn1y:(((k+1):Nat):Int)+1<n:=by omega
              have hn1z:(0:Int)≤(((k+1):Nat):Int)+1:=by omega
              obtain ⟨yl,hyl⟩:∃ yl,W[(k+1)+1]=yl:=⟨_,rfl⟩
              have hyc:=(HW.out.cell (p:=⟨g,off+((k+1)+1),none⟩) HCC.out.1).trans (HCC.out.2 ((k+1)+1) hnl)
              rw [hyl] at hyc
              obtain ⟨yb,hyb⟩:∃ yb,toB yl=yb:=⟨_,rfl⟩
              rw [hyb] at hyc
              have hys:yb.size≤200:=by rw [← hyb,toB_size];exact HW0.out.2.1 yl (by rw [← hyl];exact List.getElem_mem hnl)
              obtain ⟨cy,hcy⟩:∃ cy,colW yl=cy:=⟨_,rfl⟩
              have HCY:Hid (colW yb.data.toList=cy):=Lib.hid (by rw [← hyb,toB_list,hcy])
              have HCY2:=Lib.hid hcy
              have HDR:Hid (W.drop ((k+1)+1)=yl::W.drop ((k+1)+1+1)):=Lib.hid (by rw [List.drop_eq_getElem_cons hnl,hyl])
              clear hyl hyb hcy hnl
              go_wp2_with fail
              refine (gColumn_any yb cy _ (by omega) HCY).mono ?_
              rintro e w9 ⟨rfl,hww⟩
              rw [hww]
              clear hww w9
              by_cases hc1:0≤cy
              · obtain ⟨t1,ht1⟩:∃ t1,(⟨#[]⟩:ByteArray)++xb=t1:=⟨_,rfl⟩
                have hsz:t1.size≤300:=by
                 rw [← ht1,ByteArray.size_append]
                 have:(⟨#[]⟩:ByteArray).size≤1:=by decide
                 omega
                have hT:toB ([]++xl)=t1:=by rw [← ht1, ← HXL.out];apply ByteArray.ext;simp [toB]
                have HR2:Hid (PrAt W ((k+1)+1+1) c (l++[(cy,t1)]) (⟨#[]⟩:ByteArray)):=Lib.hid (.inr ⟨by omega,by rw [← HR.out,HDR.out,stepR_next (by rw [HCX2.out];omega) (by rw [HCY2.out];omega),HCY2.out,hT]⟩)
                have HI2:Hid (PrIn ((k+1)+1+1) c (l++[(cy,t1)])):=Lib.hid (HI.out.push (cy,t1) hsz (by omega))
                clear hT
                go_wp2_with fail
                refine (gColumn_any yb cy _ (by omega) HCY).mono ?_
                rintro e w9 ⟨rfl,hww⟩
                rw [hww]
                clear hww w9
                have hA4:=(Below.refl wr.heap.size wr).alloc (Nat.le_refl _) (.cells #[.int .i64 cy,.string t1] 68)
                have HROW4:=Lib.hid (row_below HROW.out hA4)
                have HW4:=Lib.hid (HW.out.trans (hA4.mono HW.out.size))
                have HTN:=Lib.hid (two_new wr (.int .i64 cy) (.string t1) 68)
                have hll:l.length≤300:=by have:=HI.out.2.2;omega
                have HLL:=Lib.hid (And.intro trivial hll)
                have hbase:w1.heap.size≤wr.heap.size:=HW.out.size
                obtain ⟨i0,hi,hz0,hz1,hz2⟩:=info_parts infoTm
                have HIN:=Lib.hid (And.intro hi (And.intro hz0 (And.intro hz1 hz2)))
                clear hA4 hll hi hz0 hz1 hz2
                go_wp2_with (first | (at_builtin;refine wpList_append_own _ rfl _ _ 22 rfl w1.heap.size 68 i0 (.agg #[.int .i64 0,.string ⟨#[]⟩]) 2 24 Tryz.underlying22 HIN.out.1 HIN.out.2.1 HIN.out.2.2.1 HIN.out.2.2.2 rfl (by decide) _ _ _ rfl HROW4.out _ 1 1 [.int .i64 cy,.string t1] rfl rfl HTN.out (by simp [Value.oneCell']) (by have:=HLL.out.2;unfold maxLen;omega) (by have:=HLL.out.2;omega) (by simp;omega) ?_;intro v5 w5 hown hgrow hnil;refine hold ?_))
                have HROW5:Hid (w5.ownsRow w1.heap.size 68 2 v5 (l++[(cy,t1)]).length (flatB (l++[(cy,t1)]))):=Lib.hid (by
                 rw [flatB_snoc,List.length_append]
                 exact hown)
                have HW5:=Lib.hid (HW4.out.grown hgrow HW4.out.size (fun j e=>(HROW4.out.lt j e).1))
                clear hown hgrow hnil
                refine go_on ?_
                go_wp2
                go_roundw
                case rel=>exact ⟨(k+1)+1+1,c,_,v5,l++[(cy,t1)],by omega,rfl,rfl,rfl,by go_num,HR2,HI2,HROW5,HW5⟩
                case measure=>simp [intOf];omega
              · have hcn1:cy<0:=by omega
                obtain ⟨t1,ht1⟩:∃ t1,(⟨#[]⟩:ByteArray)++xb=t1:=⟨_,rfl⟩
                have hsz:t1.size≤300:=by
                 rw [← ht1,ByteArray.size_append]
                 have:(⟨#[]⟩:ByteArray).size≤1:=by decide
                 omega
                have hT:[]++xl=t1.data.toList:=by rw [← ht1, ← HXL.out];simp
                have HR2:Hid (PrAt W ((k+1)+1) t1 l (⟨#[]⟩:ByteArray)):=Lib.hid (.inr ⟨by omega,by rw [← HR.out,HDR.out,stepR_const (by rw [HCX2.out];omega) (by rw [HCY2.out];omega),hT]⟩)
                have HI2:Hid (PrIn ((k+1)+1) t1 l):=Lib.hid ⟨hsz,HI.out.2.1,by have:=HI.out.2.2;omega⟩
                clear hT hsz
                go_wp2
                go_roundw
                case rel=>exact ⟨(k+1)+1,t1,_,v,l,by omega,by rw [← ht1],rfl,rfl,by go_num,HR2,HI2,HROW,HW⟩
                case measure=>simp [intOf];omega
            · have hnz:W.drop ((k+1)+1)=[]:=List.drop_eq_nil_of_le (by rw [← HN.out.2];omega)
              have HNZ:=Lib.hid hnz
              have hn1y:¬ (((k+1):Nat):Int)+1<n:=by omega
              clear hnz
              obtain ⟨t1,ht1⟩:∃ t1,(⟨#[]⟩:ByteArray)++xb=t1:=⟨_,rfl⟩
              have hsz:t1.size≤300:=by
               rw [← ht1,ByteArray.size_append]
               have:(⟨#[]⟩:ByteArray).size≤1:=by decide
               omega
              have hT:[]++xl=t1.data.toList:=by rw [← ht1, ← HXL.out];simp
              have HR2:Hid (PrAt W ((k+1)+1) t1 l (⟨#[]⟩:ByteArray)):=Lib.hid (.inr ⟨by omega,by rw [← HR.out,HNZ.out,stepR_end (by rw [HCX2.out];omega),hT]⟩)
              have HI2:Hid (PrIn ((k+1)+1) t1 l):=Lib.hid ⟨hsz,HI.out.2.1,by have:=HI.out.2.2;omega⟩
              clear hT hsz
              go_wp2
              go_roundw
              case rel=>exact ⟨(k+1)+1,t1,_,v,l,by omega,by rw [← ht1],rfl,rfl,by go_num,HR2,HI2,HROW,HW⟩
              case measure=>simp [intOf];omega
      · have hdn:W.drop (k+1)=[]:=List.drop_eq_nil_of_le (by rw [← HN.out.2];omega)
        have HNO:Hid (¬ ∃ qc q,IsF s qc q):=Lib.hid (by
         rintro ⟨qc,q,hf,_,ht⟩
         have h:=rfirst_form (qc:=qc) (q:=q) (fun p hp=>(hf.1 p hp).1)
         rw [ht,HW0.out.1, ← hR0,hdn,rgo_one] at h
         cases h)
        have i4:(n:Int)≤(k:Int)+1:=by omega
        have hge2:(gb.toList==[45])=true∨(gb.toList==[45])=false:=by cases (gb.toList==[45]) <;> simp
        clear hR0 hd hdn hgb hgl hgdl hwl
        rcases hge2 with hge | hge
        all_goals
         go_wp2
         refine bodyPost_ret (v := .tuple #[.string ⟨#[]⟩,.slice none 0 0,.int .i64 4]) (by simp only [results,Tryz.results31];simp [go_sem]) rfl ?_
         exact GPost.bad (HW1.out.trans (HW.out.mono HW1.out.size)) HNO.out
  · obtain rfl:n=k:=by omega
    have hnn:¬ (n:Int)<n:=by omega
    have hRR:some (c.data.toList,l)=rfirst W:=by
     rcases HP.out with ⟨h,_⟩ | ⟨_,h⟩
     · omega
     · rw [List.drop_eq_nil_of_le (by rw [← HN.out.2];exact Nat.le_refl _),rgo_nil] at h;exact h
    have HRR:=Lib.hid hRR
    have HWF:=Lib.hid (HW1.out.trans (HW.out.mono HW1.out.size))
    obtain ⟨ad2,n2,cap2,rfl,hn2⟩:∃ ad2 n2 cap2,v = .slice ad2 n2 cap2∧n2=l.length:=by
     rcases HROW.out.2 with ⟨h,h0⟩ | ⟨g,cap,cur,h,_⟩
     · exact ⟨none,0,0,h,h0.symm⟩
     · exact ⟨_,_,cap,h,rfl⟩
    have hts:=terms_of_flat (by rw [hn2] at HROW ⊢;exact HROW.out) hn2
    have HTS:=Lib.hid hts
    have hsz:=HI.out
    have HTZ:=Lib.hid (And.intro (show c.size≤100000 by have:=hsz.1;omega) (And.intro (show ∀ t∈l,t.2.size≤100000 from fun t ht=>by have:=hsz.2.1 t ht;omega) (show l.length≤500 by have:=hsz.2.2;omega)))
    clear hts hsz hRR hn2 hlt hk
    by_cases hok:checkErr c l=0
    · obtain ⟨qc,q,hcq,hsh,hlq,hfo⟩:=checkErr_zero hok
      subst hlq
      have HQ:=Lib.hid (And.intro hcq (And.intro hsh hfo))
      obtain ⟨S,ec,hSE⟩:∃ (S:ByteArray) (ec:Int),if 65536<(formT qc q).length then S=⟨#[]⟩∧ec=5 else S=⟨(formT qc q).toArray⟩∧ec=0:=by
       by_cases h:65536<(formT qc q).length
       · exact ⟨_,_,by rw [if_pos h];exact ⟨rfl,rfl⟩⟩
       · exact ⟨_,_,by rw [if_neg h];exact ⟨rfl,rfl⟩⟩
      have HSE:=Lib.hid hSE
      have HIV:Hid (InV wr ad2 n2 cap2 qc c q):=Lib.hid ⟨⟨HTS.out,HTZ.out.1,HTZ.out.2.1,HTZ.out.2.2,fun h=>by
       rcases HROW.out.2 with ⟨h1,_⟩ | ⟨g,cap,cur,h1,_⟩
       · cases h1;rfl
       · cases h1;cases h⟩,hcq.symm,hsh,hfo⟩
      clear hcq hsh hfo hSE hok
      go_wp2_with fail
      refine (gText_good qc c ad2 n2 cap2 q S ec _ HIV.out HSE).mono ?_
      rintro e w3 ⟨rfl,hb⟩
      have HWZ:=Lib.hid (HWF.out.trans (hb.mono HWF.out.size))
      have HTZ2:=Lib.hid (HTS.out.keep hb (Nat.le_refl _))
      clear hb
      by_cases heq:formT qc q=s.data.toList
      · have hbig:¬ 65536<(formT qc q).length:=by
         rw [heq,show s.data.toList.length=s.size from Array.length_toList]
         have:=HSZ.out.2
         omega
        have h:=HSE.out
        rw [if_neg hbig] at h
        obtain ⟨rfl,rfl⟩:=h
        have hS:(⟨(formT qc q).toArray⟩:ByteArray)=s:=by rw [heq];first | done | exact toB_back s
        have HEQ:=Lib.hid heq
        rw [hS]
        clear hbig hS heq
        go_wp2
        refine bodyPost_ret (v := .tuple #[.string c,.slice ad2 n2 cap2,.int .i64 0]) (by simp only [results,Tryz.results31];first | done | simp [go_sem]) rfl ?_
        exact ⟨HWZ.out,.inl ⟨qc,q,ad2,n2,cap2,⟨HQ.out.2.2,HQ.out.2.1,HEQ.out⟩,by rw [← HQ.out.1],HTZ2.out⟩⟩
      · have HNO:Hid (¬ ∃ qc q,IsF s qc q):=Lib.hid (by
         rintro ⟨qc',q',hf,hs',ht⟩
         have h:=rfirst_form (qc:=qc') (q:=q') (fun p hp=>(hf.1 p hp).1)
         rw [ht,HW0.out.1, ← HRR.out] at h
         simp only [Option.some.injEq,Prod.mk.injEq] at h
         have e1:qc=qc':=txt_inj HQ.out.2.1 hs' (by rw [← HQ.out.1];apply ByteArray.ext;apply Array.ext';rw [h.1];simp [txt])
         have e2:q=q':=tms_inj (fun p hp=>(HQ.out.2.2.1 p hp).2.1) (fun p hp=>(hf.1 p hp).2.1) h.2
         subst e1 e2
         exact heq ht)
        have hSn:ec≠0∨(ec=0∧(S.toList==s.toList)=false):=by
         have h:=HSE.out
         by_cases hb:65536<(formT qc q).length
         · rw [if_pos hb] at h;left;rw [h.2];decide
         · rw [if_neg hb] at h
           right
           refine ⟨h.2,?_⟩
           rw [h.1,Lib.toList_data,Lib.toList_data]
           simpa using heq
        clear heq
        rcases hSn with h | ⟨rfl,h⟩
        · have hec:(ec != 0)=true:=by simpa using h
          clear h
          go_wp2
          refine bodyPost_ret (v := .tuple #[.string ⟨#[]⟩,.slice none 0 0,.int .i64 4]) (by simp only [results,Tryz.results31];simp [go_sem]) rfl ?_
          exact GPost.bad HWZ.out HNO.out
        · go_wp2
          refine bodyPost_ret (v := .tuple #[.string ⟨#[]⟩,.slice none 0 0,.int .i64 4]) (by simp only [results,Tryz.results31];simp [go_sem]) rfl ?_
          exact GPost.bad HWZ.out HNO.out
    · have HNO:Hid (¬ ∃ qc q,IsF s qc q):=Lib.hid (by
       rintro ⟨qc',q',hf,hs',ht⟩
       have h:=rfirst_form (qc:=qc') (q:=q') (fun p hp=>(hf.1 p hp).1)
       rw [ht,HW0.out.1, ← HRR.out] at h
       simp only [Option.some.injEq,Prod.mk.injEq] at h
       apply hok
       rw [h.2,show c=txt qc' from by apply ByteArray.ext;apply Array.ext';rw [h.1];simp [txt]]
       exact checkErr_fo hs' hf)
      have HBAD:=Lib.hid hok
      clear hok
      go_wp2_with fail
      refine (gText_bad c ad2 n2 cap2 l _ HTS.out HTZ.out.1 HTZ.out.2.1 HTZ.out.2.2 HBAD.out).mono ?_
      rintro e w3 ⟨rfl,hb⟩
      have HWZ:=Lib.hid (HWF.out.trans (hb.mono HWF.out.size))
      clear hb
      go_wp2
      refine bodyPost_ret (v := .tuple #[.string ⟨#[]⟩,.slice none 0 0,.int .i64 4]) (by simp only [results,Tryz.results31];simp [go_sem]) rfl ?_
      exact GPost.bad HWZ.out HNO.out
end Go.Proofs.YtkhdocdddicgpaaGreatDoor
