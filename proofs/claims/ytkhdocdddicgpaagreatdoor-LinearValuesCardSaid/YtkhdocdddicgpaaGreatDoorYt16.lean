/- Part 16: what the law's walk leans on. -/
import Derived.Test.YtkhdocdddicgpaaGreatDoorYt15
import Derived.Lib.AppendZeros
import Derived.Laws.AppendOwnNone
set_option linter.unusedVariables false
set_option linter.unusedSimpArgs false
namespace Go.Proofs.YtkhdocdddicgpaaGreatDoor
open Go.RowKit Go.Maps _root_.Go.Proofs.YtkhdocdddicgpaaGreatDoor.Nm
set_option maxRecDepth 100000 in
set_option maxHeartbeats 1600000 in
theorem coefOf1_any (a:Int) (s:ByteArray) (c r:Int) (W:World) (hr:Hid (Lib.compareInt a c=r)):Calls Tryz.prog 86 #[.agg #[.int .i64 a,.string s],.int .i64 c] W fun e W'=>e = .returned (.int .i64 r)∧Below W.heap.size W W':=by
 obtain rfl:=hr.out
 go_enter Tryz.func86,Tryz.ntmps86
 go_wp2_with (first | (go_at_call 87;refine (cmpI_any _ _ _).mono ?_;rintro e w' ⟨rfl,rfl⟩))
 go_ret
 exact ⟨rfl,(Below.refl _ _).alloc (Nat.le_refl _) _⟩
theorem cmp_lt {a c:Int} (h:a<c):Lib.compareInt a c = -1:=by unfold Lib.compareInt;rw [if_pos h]
theorem cmp_gt {a c:Int} (h:c<a):Lib.compareInt a c=1:=by unfold Lib.compareInt;rw [if_neg (by omega),if_pos h]
theorem cmp_eq {a c:Int} (h:a=c):Lib.compareInt a c=0:=by unfold Lib.compareInt;rw [if_neg (by omega),if_neg (by omega)]
theorem cols_mono {q:List Qm} (hs:q.Pairwise (fun a b=>a.1<b.1)) {i j:Nat} (hi:i<q.length) (hj:j<q.length) (h:i≤j):q[i].1≤q[j].1:=by
 rcases Nat.lt_or_ge i j with h1 | h1
 · exact Int.le_of_lt (List.pairwise_iff_getElem.1 hs i j hi hj h1)
 · obtain rfl:i=j:=by omega
   exact Int.le_refl _
def Inv (q:List Qm) (c:Int) (lo hi:Nat):Prop:=(∀ (i:Nat) (h:i<q.length),i<lo→q[i].1<c)∧∀ (i:Nat) (h:i<q.length),hi≤i→c≤q[i].1
theorem Inv.right {q:List Qm} {c:Int} {lo hi m:Nat} (h:Inv q c lo hi) (hs:q.Pairwise (fun a b=>a.1<b.1)) (hm:m<q.length) (hc:q[m].1<c):Inv q c (m+1) hi :=
 ⟨fun i hi' hl=>Int.lt_of_le_of_lt (cols_mono hs hi' hm (by omega)) hc,h.2⟩
theorem Inv.left {q:List Qm} {c:Int} {lo hi m:Nat} (h:Inv q c lo hi) (hs:q.Pairwise (fun a b=>a.1<b.1)) (hm:m<q.length) (hc:c≤q[m].1):Inv q c lo m :=
 ⟨h.1,fun i hi' hl=>Int.le_trans hc (cols_mono hs hm hi' hl)⟩
def Found (q:List Qm) (c:Int) (i:Nat) (b:Bool):Prop:=(b=true∧∃ h:i<q.length,q[i].1=c)∨(b=false∧∀ p∈q,p.1≠c)
theorem Inv.miss {q:List Qm} {c:Int} {lo:Nat} (h:Inv q c lo lo) (hs:q.Pairwise (fun a b=>a.1<b.1)) (hc:∀ h:lo<q.length,q[lo].1≠c):Found q c lo false:=by
 refine .inr ⟨rfl,fun p hp => ?_⟩
 obtain ⟨i,hi,rfl⟩:=List.mem_iff_getElem.1 hp
 rcases Nat.lt_trichotomy i lo with h1 | h1 | h1
 · have:=h.1 i hi h1;omega
 · subst h1;exact hc hi
 · have h2:=h.2 lo (by omega) (Nat.le_refl _)
   have h3:=hc (by omega)
   have h4:=cols_mono hs (by omega) hi (Nat.le_of_lt h1)
   omega
set_option maxRecDepth 100000 in
set_option maxHeartbeats 6400000 in
theorem search_any (ad:Option Addr) (n cap:Nat) (q:List Qm) (c:Int) (w:World) (hv:TsAt w (.slice ad n cap) (tms q)) (hs:q.Pairwise (fun a b=>a.1<b.1)) (hn:q.length≤1000) :
 Calls Tryz.prog 85 #[.slice ad n cap,.int .i64 c,.func (.func 86) #[] #[]] w fun e w'=>∃ (i:Nat) (b:Bool),e = .returned (.tuple #[.int .i64 i,.bool b])∧Found q c i b∧Below w.heap.size w w':=by
 have eg:∀ args w,(callFunc 86 args).run Tryz.prog w = .ok (.enter 86 args) w:=enters_of Tryz.func86 (by kernel_rfl) rfl
 obtain ⟨ad',n',cap',e1,e2,hv⟩:=hv
 cases e1
 have hlen:n=q.length:=by simpa [tms] using e2
 have HLEN:=Lib.hid (And.intro trivial hlen)
 have HV:=Lib.hid hv
 have HS:=Lib.hid hs
 have hn1:n≤1000:=by omega
 clear e2 hv hs hlen hn
 go_enter Tryz.func85,Tryz.ntmps85
 go_wp2
 go_loopw [9,10] (fun s9 s10 wr=>∃ lo hi:Nat,s9 = .int .i64 lo∧s10 = .int .i64 hi∧lo≤hi∧hi≤n∧Hid (Inv q c lo hi)∧Hid (Below w.heap.size w wr)) (fun s9 s10 _=>(intOf s10).toNat-(intOf s9).toNat)
 case atStart=>exact ⟨0,n,rfl,rfl,Nat.zero_le _,Nat.le_refl _,Lib.hid ⟨fun i _ h=>absurd h (Nat.not_lt_zero i),fun i h h2=>by have:=HLEN.out.2;omega⟩,Lib.hid (Below.refl _ _)⟩
 case round =>
  obtain ⟨lo,hi,rfl,rfl,hlh,hin,HI,HW⟩:=hrel
  by_cases hlt:lo<hi
  · have hmq:(lo+hi)/2<q.length:=by rw [← HLEN.out.2];omega
    obtain ⟨g,off,rfl,hg,hc⟩:∃ g off,ad=some ⟨g,off,none⟩∧g<w.heap.size∧∀ (i:Nat) (h:i<(tms q).length),w.cell? ⟨g,off+i*2,none⟩=some (.int .i64 (tms q)[i].1)∧w.cell? ⟨g,off+i*2+1,none⟩=some (.string (tms q)[i].2):=by
     rcases HV.out with h | h
     · omega
     · exact h
    obtain ⟨hc0,hc1⟩:=hc ((lo+hi)/2) (by simpa [tms] using hmq)
    have ek:(tms q)[(lo+hi)/2]'(by simpa [tms] using hmq)=(q[(lo+hi)/2].1,txt q[(lo+hi)/2].2):=by simp [tms]
    rw [ek] at hc0 hc1
    have hcell0:=(HW.out.cell (p:=⟨g,off+(lo+hi)/2*2,none⟩) hg).trans hc0
    have hcell1:=(HW.out.cell (p:=⟨g,off+(lo+hi)/2*2+1,none⟩) hg).trans hc1
    dsimp only at hcell0 hcell1
    obtain ⟨y,hy⟩:∃ y,q[(lo+hi)/2].1=y:=⟨_,rfl⟩
    obtain ⟨x,hx⟩:∃ x,txt q[(lo+hi)/2].2=x:=⟨_,rfl⟩
    rw [hy] at hcell0
    rw [hx] at hcell1
    clear hc hc0 hc1 ek hx
    by_cases hyc:y<c
    · have HI2:=Lib.hid (HI.out.right HS.out hmq (by rw [hy];exact hyc))
      have HR:=Lib.hid (cmp_lt hyc)
      clear hy hyc
      go_wp2_with (go_at_fn 86;refine (coefOf1_any y x c (-1) _ HR).mono ?_;rintro e w1 ⟨rfl,hb⟩;have HW1:=Lib.hid (HW.out.trans (hb.mono HW.out.size));clear hb)
      go_roundw
      case rel=>exact ⟨(lo+hi)/2+1,hi,by rw [show ((lo:Int)+(hi:Int))/2+1=(((lo+hi)/2+1:Nat):Int) by omega],rfl,by omega,hin,HI2,HW1⟩
      case measure=>simp [intOf];omega
    · have HI2:=Lib.hid (HI.out.left HS.out hmq (by rw [hy];omega))
      obtain ⟨r,hr,hr0⟩:∃ r,Lib.compareInt y c=r∧decide (r<0)=false:=by
       by_cases h:y=c
       · exact ⟨0,cmp_eq h,by decide⟩
       · exact ⟨1,cmp_gt (by omega),by decide⟩
      have HR:=Lib.hid hr
      clear hy hyc hr
      go_wp2_with (go_at_fn 86;refine (coefOf1_any y x c r _ HR).mono ?_;rintro e w1 ⟨rfl,hb⟩;have HW1:=Lib.hid (HW.out.trans (hb.mono HW.out.size));clear hb)
      go_roundw
      case rel=>exact ⟨lo,(lo+hi)/2,rfl,by rw [show ((lo:Int)+(hi:Int))/2=(((lo+hi)/2:Nat):Int) by omega],by omega,by omega,HI2,HW1⟩
      case measure=>simp [intOf];omega
  · have e:lo=hi:=by omega
    subst e
    by_cases hl:lo<n
    · have hmq:lo<q.length:=by rw [← HLEN.out.2];omega
      obtain ⟨g,off,rfl,hg,hc⟩:∃ g off,ad=some ⟨g,off,none⟩∧g<w.heap.size∧∀ (i:Nat) (h:i<(tms q).length),w.cell? ⟨g,off+i*2,none⟩=some (.int .i64 (tms q)[i].1)∧w.cell? ⟨g,off+i*2+1,none⟩=some (.string (tms q)[i].2):=by
       rcases HV.out with h | h
       · omega
       · exact h
      obtain ⟨hc0,hc1⟩:=hc lo (by simpa [tms] using hmq)
      have ek:(tms q)[lo]'(by simpa [tms] using hmq)=(q[lo].1,txt q[lo].2):=by simp [tms]
      rw [ek] at hc0 hc1
      have hcell0:=(HW.out.cell (p:=⟨g,off+lo*2,none⟩) hg).trans hc0
      have hcell1:=(HW.out.cell (p:=⟨g,off+lo*2+1,none⟩) hg).trans hc1
      dsimp only at hcell0 hcell1
      obtain ⟨y,hy⟩:∃ y,q[lo].1=y:=⟨_,rfl⟩
      obtain ⟨x,hx⟩:∃ x,txt q[lo].2=x:=⟨_,rfl⟩
      rw [hy] at hcell0
      rw [hx] at hcell1
      clear hc hc0 hc1 ek hx
      by_cases hyc:y=c
      · have HF:Hid (Found q c lo true):=Lib.hid (.inl ⟨rfl,hmq,hy.trans hyc⟩)
        have HR:=Lib.hid (cmp_eq hyc)
        clear hy hyc
        go_wp2_with (go_at_fn 86;refine (coefOf1_any y x c 0 _ HR).mono ?_;rintro e w1 ⟨rfl,hb⟩;have HW1:=Lib.hid (HW.out.trans (hb.mono HW.out.size));clear hb)
        go_ret2
        exact ⟨lo,true,rfl,HF.out,HW1.out⟩
      · have HF:Hid (Found q c lo false):=Lib.hid (HI.out.miss HS.out fun h=>by rw [hy];exact hyc)
        obtain ⟨r,hr,hr0⟩:∃ r,Lib.compareInt y c=r∧(r==0)=false:=by
         rcases Int.lt_trichotomy y c with h | h | h
         · exact ⟨-1,cmp_lt h,by decide⟩
         · exact absurd h hyc
         · exact ⟨1,cmp_gt h,by decide⟩
        have HR:=Lib.hid hr
        clear hy hyc hr
        go_wp2_with (go_at_fn 86;refine (coefOf1_any y x c r _ HR).mono ?_;rintro e w1 ⟨rfl,hb⟩;have HW1:=Lib.hid (HW.out.trans (hb.mono HW.out.size));clear hb)
        go_ret2
        exact ⟨lo,false,rfl,HF.out,HW1.out⟩
    · have HF:Hid (Found q c lo false):=Lib.hid (HI.out.miss HS.out fun h=>by have:=HLEN.out.2;omega)
      go_wp2
      go_ret2
      exact ⟨lo,false,rfl,HF.out,HW.out⟩
theorem Found.co {q:List Qm} {c:Int} {i:Nat} (hs:q.Pairwise (fun a b=>a.1<b.1)) (h:Found q c i true):∃ h:i<q.length,q[i].2=co q c:=by
 rcases h with ⟨_,h1,h2⟩ | ⟨h,_⟩
 · exact ⟨h1,by rw [← h2];exact (co_mem q hs _ (List.getElem_mem h1)).symm⟩
 · cases h
theorem Found.none {q:List Qm} {c:Int} {i:Nat} (h:Found q c i false):_root_.Go.Proofs.YtkhdocdddicgpaaGreatDoor.co q c=0:=by
 rcases h with ⟨h,_⟩ | ⟨_,h⟩
 · cases h
 · exact co_none q c h
set_option maxRecDepth 100000 in
set_option maxHeartbeats 6400000 in
theorem coefOf_any (ad:Option Addr) (n cap:Nat) (q:List Qm) (k:ByteArray) (c:Int) (x:ByteArray) (w:World) (hv:TsAt w (.slice ad n cap) (tms q)) (hs:q.Pairwise (fun a b=>a.1<b.1)) (hn:q.length≤1000) (hx:Hid (txt (co q c)=x)) :
 Calls Tryz.prog 52 #[.agg #[.slice ad n cap,.string k],.int .i64 c] w fun e w'=>e = .returned (.string x)∧Below w.heap.size w w':=by
 have hA:=(Below.refl w.heap.size w).alloc (Nat.le_refl _) (.cells #[.slice ad n cap,.string k] 24)
 have HV:=Lib.hid (hv.keep hA (Nat.le_refl _))
 have HB:=Lib.hid (Bx.new w (.slice ad n cap) (.string k) 24)
 have HW:=Lib.hid hA
 have HS:=Lib.hid hs
 have HN:=Lib.hid hn
 clear hv hs hn hA
 go_enter Tryz.func52,Tryz.ntmps52
 go_wp2_with fail
 refine (search_any ad n cap q c _ HV.out HS.out HN.out).mono ?_
 rintro e w1 ⟨i,b,rfl,hf,hb⟩
 have HB1:=Lib.hid (HB.out.below hb HB.out.lt)
 have HV1:=Lib.hid (HV.out.keep hb (Nat.le_refl _))
 have HW1:=Lib.hid (HW.out.trans (hb.mono HW.out.size))
 clear hb
 cases b
 · obtain rfl:x=⟨#[48]⟩:=by rw [← hx.out,hf.none];exact rt_zero
   clear hf
   go_wp2
   go_ret
   exact ⟨rfl,HW1.out⟩
 · obtain ⟨hi,he⟩:=hf.co HS.out
   obtain ⟨ad',n',cap',e1,e2,hv⟩:=HV1.out
   cases e1
   have hlen:n=q.length:=by simpa [tms] using e2
   obtain ⟨g,off,rfl,hg,hc⟩:∃ g off,ad=some ⟨g,off,none⟩∧g<w1.heap.size∧∀ (i:Nat) (h:i<(tms q).length),w1.cell? ⟨g,off+i*2,none⟩=some (.int .i64 (tms q)[i].1)∧w1.cell? ⟨g,off+i*2+1,none⟩=some (.string (tms q)[i].2):=by
    rcases hv with h | h
    · omega
    · exact h
   have hc1:=(hc i (by simpa [tms] using hi)).2
   have ek:((tms q)[i]'(by simpa [tms] using hi)).2=x:=by simp [tms];rw [he];exact hx.out
   rw [ek] at hc1
   have h1:(0:Int)≤i:=by omega
   have h2:(i:Int)<n:=by omega
   clear hc ek hf he hv
   obtain ⟨b0,b1,b2,b3⟩:=HB1.out.cell
   go_wp2
   go_ret
   exact ⟨rfl,HW1.out⟩
end Go.Proofs.YtkhdocdddicgpaaGreatDoor
set_option linter.unusedVariables false
set_option linter.unusedSimpArgs false
namespace Go.Proofs.YtkhdocdddicgpaaGreatDoor
open Go.RowKit Go.Maps _root_.Go.Proofs.YtkhdocdddicgpaaGreatDoor.Nm
def Part (W:World) (G n:Nat) (q:List Qm):Prop:=∃ cs:List Value,W.heap[G]?=some (.cells cs.toArray 68 (0,0))∧cs.length=n*2∧q.length≤n∧∀ (i:Nat) (h:i<q.length),cs[i*2]?=some (.int .i64 q[i].1)∧cs[i*2+1]?=some (.string (txt q[i].2))
theorem Part.lt {W:World} {G n:Nat} {q:List Qm} (h:Part W G n q):G<W.heap.size:=by
 obtain ⟨cs,h1,_⟩:=h
 exact (Array.getElem?_eq_some_iff.1 h1).1
theorem Part.keep {W W':World} {G n B:Nat} {q:List Qm} (h:Part W G n q) (hb:Below B W W') (hB:W.heap.size≤B):Part W' G n q:=by
 have hlt:=h.lt
 obtain ⟨cs,h1,h2⟩:=h
 exact ⟨cs,(hb.block G (Nat.lt_of_lt_of_le hlt hB)).trans h1,h2⟩
theorem Part.cell {W:World} {G n:Nat} {q:List Qm} (h:Part W G n q) (o:Nat) (ho:o<n*2):(∃ v,W.cell? ⟨G,o,none⟩=some v)∧W.frozen? ⟨G,o,none⟩=false:=by
 obtain ⟨cs,h1,h2,_⟩:=h
 refine ⟨⟨cs[o]'(by omega),?_⟩,?_⟩
 · simp only [World.cell?,h1]
   simp [h2,ho]
 · simp [World.frozen?,h1]
theorem set_cells (W:World) (G o:Nat) (cs:List Value) (T:TypeId) (v:Value) (h:W.heap[G]?=some (.cells cs.toArray T (0,0))):(W.setCell ⟨G,o,none⟩ v).heap[G]?=some (.cells (cs.set o v).toArray T (0,0)):=by
 obtain ⟨hlt,h2⟩:=Array.getElem?_eq_some_iff.1 h
 show (W.heap.modify G _)[G]?=_
 rw [Array.getElem?_eq_getElem (by rw [Array.size_modify];exact hlt),Array.getElem_modify_self,h2]
 simp
theorem Part.put {W:World} {G n k:Nat} {q:List Qm} {p:Qm} (h:Part W G n q) (hk:q.length=k) (hkn:k<n) :
 Part ((W.setCell ⟨G,k*2,none⟩ (.int .i64 p.1)).setCell ⟨G,k*2+1,none⟩ (.string (txt p.2))) G n (q++[p]):=by
 obtain ⟨cs,h1,h2,h3,h4⟩:=h
 refine ⟨(cs.set (k*2) (.int .i64 p.1)).set (k*2+1) (.string (txt p.2)),set_cells _ _ _ _ _ _ (set_cells _ _ _ _ _ _ h1),by simp [h2],by simp;omega,fun i hi => ?_⟩
 have hi':i<q.length+1:=by simpa using hi
 by_cases e:i=k
 · subst e
   have e1:(q++[p])[i]=p:=by simp [← hk]
   rw [e1]
   refine ⟨?_,?_⟩
   · rw [List.getElem?_set_ne (by omega),List.getElem?_set_self (by omega)]
   · rw [List.getElem?_set_self (by simp;omega)]
 · have hq:i<q.length:=by omega
   have e1:(q++[p])[i]=q[i]:=by simp [List.getElem_append_left hq]
   rw [e1]
   refine ⟨?_,?_⟩
   · rw [List.getElem?_set_ne (by omega),List.getElem?_set_ne (by omega)];exact (h4 i hq).1
   · rw [List.getElem?_set_ne (by omega),List.getElem?_set_ne (by omega)];exact (h4 i hq).2
theorem Part.start {W:World} {B G n:Nat} (h:W.ownsRow B 68 2 (.slice (some ⟨G,0,none⟩) n n) n (madeCells (Value.agg #[.int .i64 0,.string ⟨#[]⟩]).cells (n*2)).toList):Part W G n []:=by
 obtain ⟨h1,h2⟩:=h
 rcases h2 with ⟨h,_⟩ | ⟨g,cap,cur,h3,h4,h5,h6,h7,h8,h9⟩
 · cases h
 · cases h3
   exact ⟨cur.toList,by simpa using h5,by simpa using h8,Nat.zero_le _,fun i hi=>absurd hi (Nat.not_lt_zero i)⟩
theorem Part.all {W:World} {G n:Nat} {q:List Qm} (h:Part W G n q) (hn:q.length=n):TsAt W (.slice (some ⟨G,0,none⟩) n n) (tms q):=by
 have hlt:=h.lt
 obtain ⟨cs,h1,h2,h3,h4⟩:=h
 refine ⟨_,_,_,rfl,by simp [tms,hn],.inr ⟨G,0,rfl,hlt,fun i hi => ?_⟩⟩
 have hi':i<q.length:=by simpa [tms] using hi
 have ek:(tms q)[i]=(q[i].1,txt q[i].2):=by simp [tms]
 rw [ek]
 obtain ⟨h5,h6⟩:=h4 i hi'
 refine ⟨?_,?_⟩
 · simp only [World.cell?,h1];simpa using h5
 · simp only [World.cell?,h1];simpa using h6
def scl (r:Rat) (q:List Qm):List Qm:=q.map fun p=>(p.1,p.2*r)
def scOk (qc r:Rat) (q:List Qm):Bool:=rshort (qc*r)&&q.all fun p=>rshort (p.2*r)
def sclRes (qc r:Rat) (q:List Qm):Option (Int→Rat):=if scOk qc r q=true then acc (fun _=>0) (scl r q) else none
theorem mulRes {p q:Rat} (hp:rshort p=true) (hq:rshort q=true):(rshort (p*q)=true→OpRes fMul gAdd (txt p) (txt q) (txt (p*q)) 0)∧(rshort (p*q)=false→OpRes fMul gAdd (txt p) (txt q) ⟨#[]⟩ 5) :=
 ⟨fun h=>Mul_res (txt_is hp) (txt_is hq) (txt_is h) rfl,fun h=>Mul_long (txt_is hp) (txt_is hq) rfl h⟩
theorem FormRes.boxedAt {o:Option (Int→Rat)} {c:ByteArray} {w w1 w2:World} {ad:Option Addr} {n cap g:Nat} {s:ByteArray} {ec:Int} (hb:Below w.heap.size w w1) (hg:w.heap.size≤g) (hlt:g<w1.heap.size) (h:FormRes o c w1 (.returned (.tuple #[.agg #[.slice ad n cap,.string s],.int .i64 ec])) w2) :
 FormRes o c w (.returned (.tuple #[.agg #[.slice ad n cap,.string s],.int .i64 ec])) ((w2.setCell ⟨g,0,none⟩ (.slice ad n cap)).setCell ⟨g,1,none⟩ (.string s)):=by
 obtain ⟨h1,h2⟩:=h
 refine ⟨((hb.trans (h1.mono hb.size)).setCell hg _).setCell hg _,?_⟩
 cases o with
 | none=>exact h2
 | some f =>
  obtain ⟨ad',n',cap',e1,h3,h4⟩:=h2
  cases e1
  exact ⟨_,_,_,rfl,(h3.set (fresh_all h4) hlt).set (fresh_all h4) hlt,by obtain ⟨a,ha,hl⟩:=h4;exact ⟨a,ha,Nat.le_trans hb.size hl⟩⟩
theorem FormRes.zero {c:ByteArray} {w w2:World} {g:Nat} (hb:Below w.heap.size w w2) (hg:w.heap.size≤g) (u v:Value):FormRes none c w (.returned (.tuple #[.agg #[.slice none 0 0,.string ⟨#[]⟩],.int .i64 5])) ((w2.setCell ⟨g,0,none⟩ u).setCell ⟨g,1,none⟩ v) :=
 ⟨(hb.setCell hg _).setCell hg _,rfl⟩
theorem scl_take (r:Rat) (q:List Qm) (k:Nat) (h:k<q.length):scl r (q.take (k+1))=scl r (q.take k)++[(q[k].1,q[k].2*r)]:=by
 rw [← List.take_append_getElem h];unfold scl;rw [List.map_append];rfl
set_option maxRecDepth 100000 in
set_option maxHeartbeats 6400000 in
theorem scaled_any (qc r:Rat) (x y:ByteArray) (ad:Option Addr) (n cap:Nat) (q:List Qm) (o:Option (Int→Rat)) (w:World) (hv:TsAt w (.slice ad n cap) (tms q)) (hx:Hid (txt qc=x)) (hy:Hid (txt r=y)) (hc:rshort qc=true) (hr:rshort r=true) (hq:∀ p∈q,ColIn p.1∧rshort p.2=true) (hn:q.length≤1000) (htab:Tab w) (ho:Hid (sclRes qc r q=o)) :
 Calls Tryz.prog 46 #[.agg #[.slice ad n cap,.string x],.string y] w (FormRes o (txt (qc*r)) w):=by
 obtain ⟨i0,hi,hz0,hz1,hz2⟩:=info_parts infoTm
 have HI:=Lib.hid hi
 have HZ0:=Lib.hid hz0
 have HZ1:=Lib.hid hz1
 have HZ2:=Lib.hid hz2
 have HT:=Lib.hid htab
 have HQ:=Lib.hid hq
 have HRC:=Lib.hid hc
 have HRR:=Lib.hid hr
 have hlen:n=q.length:=by
  obtain ⟨ad',n',cap',e1,e2,_⟩:=hv
  cases e1
  simpa [tms] using e2
 have HLEN:=Lib.hid (And.intro trivial hlen)
 have hn1:n≤1000:=by omega
 obtain ⟨xc,hxc⟩:∃ xc,txt (qc*r)=xc:=⟨_,rfl⟩
 have HXC:=Lib.hid hxc
 rw [hxc]
 have hA:=(Below.refl w.heap.size w).alloc (Nat.le_refl _) (.cells #[.slice ad n cap,.string x] 24)
 have hA2:=hA.alloc (by simp) (.cells #[.slice none 0 0,.string ⟨#[]⟩] 24)
 have HV:=Lib.hid (hv.keep hA2 (Nat.le_refl _))
 have HV0:=Lib.hid hv
 have HB:=Lib.hid ((Bx.new w (.slice ad n cap) (.string x) 24).alloc (.cells #[.slice none 0 0,.string ⟨#[]⟩] 24))
 have hr0:=Bx.new (w.alloc (.cells #[.slice ad n cap,.string x] 24)) (.slice none 0 0) (.string ⟨#[]⟩) 24
 rw [World.size_alloc] at hr0
 have HRB:=Lib.hid hr0
 have HW:=Lib.hid hA2
 have hxs:x.size≤100000:=by rw [← hx.out];have:=txt_size hc;omega
 have hys:y.size≤100000:=by rw [← hy.out];have:=txt_size hr;omega
 have hsr:=ho.out
 unfold sclRes scOk at hsr
 clear hi hz0 hz1 hz2 htab hq hc hr hlen hxc hv hA hA2 hr0 hn
 by_cases hsc:rshort (qc*r)=true
 · rw [hsc] at hsr
   simp only [Bool.true_and] at hsr
   have HSR:=Lib.hid hsr
   have HSC:=Lib.hid hsc
   have HM:Hid (OpRes fMul gAdd x y xc 0):=Lib.hid (by rw [← hx.out, ← hy.out, ← HXC.out];exact (mulRes HRC.out HRR.out).1 hsc)
   clear hsr hsc ho
   go_enter Tryz.func46,Tryz.ntmps46
   go_wp2_with fail
   refine (qMul_any x y xc 0 _ HM hxs hys (tab_keep HT.out HW.out)).mono ?_
   rintro e w1 ⟨rfl,hb⟩
   have HV1:=Lib.hid (HV.out.keep hb (Nat.le_refl _))
   have HB1:=Lib.hid (HB.out.below hb HB.out.lt)
   have HRB1:=Lib.hid (HRB.out.below hb HRB.out.lt)
   have HW1:=Lib.hid (HW.out.trans (hb.mono HW.out.size))
   clear hb
   obtain ⟨b0,b1,b2,b3⟩:=HB1.out.cell
   go_wp2_with (refine wpList_make_full _ rfl _ _ 22 rfl w1.heap.size 68 i0 (.agg #[.int .i64 0,.string ⟨#[]⟩]) 2 Tryz.underlying22 HI.out HZ0.out HZ1.out .i64 .i64 _ _ n rfl rfl rfl rfl (by rw [HZ2.out];omega) (by unfold maxLen;omega) (Nat.le_refl _) ?_;intro w2 hown hgrow;refine hold ?_)
   have HP2:=Lib.hid (Part.start hown)
   have HB2:=Lib.hid (Bx.grown HB1.out hgrow (by simp))
   have HRB2:=Lib.hid (Bx.grown HRB1.out hgrow (by simp))
   have HW2:=Lib.hid (HW1.out.grown hgrow HW1.out.size (by simp))
   have HV2:=Lib.hid (HV1.out.keep ((Below.refl w1.heap.size w1).grown hgrow (Nat.le_refl _) (by simp)) (Nat.le_refl _))
   have HLT:=Lib.hid (And.intro HB1.out.lt HRB1.out.lt)
   clear hown hgrow b0 b1 b2 b3
   obtain ⟨b0,b1,b2,b3⟩:=HB2.out.cell
   obtain ⟨G,hG⟩:∃ G,w1.heap.size=G:=⟨_,rfl⟩
   rw [hG] at HP2 HLT ⊢
   clear hG
   refine go_on ?_
   go_wp2
   clear b0 b1 b2 b3
   go_loopw [31] (fun i wr=>∃ k:Nat,k≤n∧i = .int .i64 k∧Hid (∀ p∈q.take k,rshort (p.2*r)=true)∧Hid (Part wr G n (scl r (q.take k)))∧Hid (Bx wr w.heap.size (.slice ad n cap) (.string x))∧Hid (Bx wr (w.heap.size+1) (.slice none 0 0) (.string ⟨#[]⟩))∧Hid (Below w.heap.size w wr)) (fun i _=>n-(intOf i).toNat)
   case atStart=>exact ⟨0,Nat.zero_le _,rfl,Lib.hid (fun p h=>absurd h (by simp)),HP2,HB2,HRB2,HW2⟩
   case round =>
    obtain ⟨k,hk,rfl,HAL,HPk,HBk,HRk,HWk⟩:=hrel
    have HVk:=Lib.hid (HV0.out.keep HWk.out (Nat.le_refl _))
    by_cases hlt:k<n
    · have hkq:k<q.length:=by rw [← HLEN.out.2];exact hlt
      obtain ⟨p,hp⟩:∃ p,q[k]=p:=⟨_,rfl⟩
      obtain ⟨hcol,hsh⟩:ColIn p.1∧rshort p.2=true:=by rw [← hp];exact HQ.out _ (List.getElem_mem hkq)
      obtain ⟨ad',n',cap',e1,e2,hv⟩:=HVk.out
      cases e1
      clear e2
      obtain ⟨g,off,rfl,hg,hc⟩:∃ g off,ad=some ⟨g,off,none⟩∧g<wr.heap.size∧∀ (i:Nat) (h:i<(tms q).length),wr.cell? ⟨g,off+i*2,none⟩=some (.int .i64 (tms q)[i].1)∧wr.cell? ⟨g,off+i*2+1,none⟩=some (.string (tms q)[i].2):=by
       rcases hv with h | h
       · omega
       · exact h
      obtain ⟨hcell0,hcell1⟩:=hc k (by simpa [tms] using hkq)
      have ek:(tms q)[k]'(by simpa [tms] using hkq)=(p.1,txt p.2):=by simp [tms,hp]
      rw [ek] at hcell0 hcell1
      obtain ⟨col,hcl⟩:∃ col,p.1=col:=⟨_,rfl⟩
      obtain ⟨z,hz⟩:∃ z,txt p.2=z:=⟨_,rfl⟩
      dsimp only at hcell0 hcell1
      rw [hcl] at hcell0
      rw [hz] at hcell1
      have htk:scl r (q.take (k+1))=scl r (q.take k)++[(p.1,p.2*r)]:=by rw [scl_take r q k hkq,hp]
      have htq:q.take (k+1)=q.take k++[p]:=by rw [← hp];exact (List.take_append_getElem hkq).symm
      have hlenk:(scl r (q.take k)).length=k:=by simp [scl];omega
      have hmem:p∈q:=by rw [← hp];exact List.getElem_mem hkq
      have HCL:=Lib.hid hcl
      have HTK:=Lib.hid htk
      have HTQ:=Lib.hid htq
      have HLK:=Lib.hid hlenk
      have HMEM:=Lib.hid hmem
      have HZS:Hid (z.size≤100000):=Lib.hid (by rw [← hz];have:=txt_size hsh;omega)
      have HWA:=Lib.hid (HWk.out.alloc HWk.out.size (.cells #[.int .i64 col,.string z] 68))
      have hAA:=(Below.refl wr.heap.size wr).alloc (Nat.le_refl _) (.cells #[.int .i64 col,.string z] 68)
      have HBA:=Lib.hid (HBk.out.alloc (.cells #[.int .i64 col,.string z] 68))
      have HRBA:=Lib.hid (HRk.out.alloc (.cells #[.int .i64 col,.string z] 68))
      have HVA:=Lib.hid (HVk.out.keep hAA (Nat.le_refl _))
      have HPA:=Lib.hid (HPk.out.keep hAA (Nat.le_refl _))
      have HNE:=Lib.hid (Bx.new wr (.int .i64 col) (.string z) 68)
      have h1:(0:Int)≤k:=by omega
      have h2:(k:Int)<n:=by omega
      by_cases hs2:rshort (p.2*r)=true
      · obtain ⟨z2,hz2⟩:∃ z2,txt (p.2*r)=z2:=⟨_,rfl⟩
        have HM:Hid (OpRes fMul gAdd z y z2 0):=Lib.hid (by rw [← hz, ← hy.out, ← hz2];exact (mulRes hsh HRR.out).1 hs2)
        have HZ2':=Lib.hid hz2
        have HAL2:Hid (∀ x∈q.take (k+1),rshort (x.2*r)=true):=Lib.hid (fun x hx=>by
         rw [HTQ.out] at hx
         rcases List.mem_append.1 hx with h | h
         · exact HAL.out x h
         · simp at h;subst h;exact hs2)
        clear hv hc ek hz htk htq hlenk hmem hcl hcol hsh hAA hz2 hs2 hp hg
        go_wp2_with fail
        refine (qMul_any z y z2 0 _ HM HZS.out hys (tab_keep HT.out HWA.out)).mono ?_
        rintro e w3 ⟨rfl,hb⟩
        have HB3:=Lib.hid (HBA.out.below hb HBA.out.lt)
        have HRB3:=Lib.hid (HRBA.out.below hb HRBA.out.lt)
        have HV3:=Lib.hid (HVA.out.keep hb (Nat.le_refl _))
        have HP3:=Lib.hid (HPA.out.keep hb (Nat.le_refl _))
        have HW3:=Lib.hid (HWA.out.trans (hb.mono HWA.out.size))
        have HN3:=Lib.hid (HNE.out.below hb HNE.out.lt)
        clear hb
        obtain ⟨c0,c1,c2,c3⟩:=HN3.out.cell
        obtain ⟨⟨u0,d0⟩,f0⟩:=HP3.out.cell (k*2) (by omega)
        obtain ⟨⟨u1,d1⟩,f1⟩:=HP3.out.cell (k*2+1) (by omega)
        have hne:G≠w.heap.size:=by have:=HLT.out.1;omega
        have hne2:G≠w.heap.size+1:=by have:=HLT.out.2;omega
        have HP4:Hid (Part ((w3.setCell ⟨G,k*2,none⟩ (.int .i64 col)).setCell ⟨G,k*2+1,none⟩ (.string z2)) G n (scl r (q.take (k+1)))):=Lib.hid (by
         rw [HTK.out, ← HCL.out, ← HZ2'.out]
         exact HP3.out.put (p:=(p.1,p.2*r)) HLK.out hlt)
        have ho:=((Only.refl G w3).set (k*2) (.int .i64 col)).set (k*2+1) (.string z2)
        have HW4:=Lib.hid (HW3.out.trans (ho.below (by have:=HLT.out.1;omega)))
        have HB4:=Lib.hid (HB3.out.only ho (fun e=>hne e.symm))
        have HRB4:=Lib.hid (HRB3.out.only ho (fun e=>hne2 e.symm))
        clear ho hne hne2
        go_wp2
        go_roundw
        case rel=>exact ⟨k+1,by omega,by go_num,HAL2,HP4,HB4,HRB4,HW4⟩
        case measure=>simp [intOf];omega
      · have hs3:rshort (p.2*r)=false:=by simpa using hs2
        have HM:Hid (OpRes fMul gAdd z y ⟨#[]⟩ 5):=Lib.hid (by rw [← hz, ← hy.out];exact (mulRes hsh HRR.out).2 hs3)
        have ho:o=none:=by
         have h:=HSR.out
         rw [if_neg (by
          intro h
          have:=List.all_eq_true.1 h p HMEM.out
          rw [hs3] at this;cases this)] at h
         exact h.symm
        subst ho
        clear hv hc ek hz htk htq hlenk hmem hcl hcol hsh hAA hs2 hs3 hp hg
        go_wp2_with fail
        refine (qMul_any z y ⟨#[]⟩ 5 _ HM HZS.out hys (tab_keep HT.out HWA.out)).mono ?_
        rintro e w3 ⟨rfl,hb⟩
        have HRB3:=Lib.hid (HRBA.out.below hb HRBA.out.lt)
        have HW3:=Lib.hid (HWA.out.trans (hb.mono HWA.out.size))
        clear hb
        obtain ⟨b0,b1,b2,b3⟩:=HRB3.out.cell
        go_wp2
        obtain ⟨d0,d1,d2,d3⟩:=((Bx.put HRB3.out (.slice none 0 0) (.string ⟨#[]⟩))).cell
        refine bodyPost_ret (v := .tuple #[.agg #[.slice none 0 0,.string ⟨#[]⟩],.int .i64 5]) (by simp only [results,Tryz.results46];simp [go_sem,d0,d1]) rfl ?_
        exact FormRes.zero HW3.out (by omega) _ _
    · have e:k=n:=by omega
      subst e
      have htq:q.take k=q:=List.take_of_length_le (by rw [HLEN.out.2];exact Nat.le_refl _)
      have hall:(q.all fun p=>rshort (p.2*r))=true:=List.all_eq_true.2 (fun p hp=>HAL.out p (by rw [htq];exact hp))
      have hacc:acc (fun _=>0) (scl r q)=o:=by have h:=HSR.out;rw [if_pos hall] at h;exact h
      have hts:TsAt wr (.slice (some ⟨G,0,none⟩) k k) (tms (scl r q)):=by
       have h:=HPk.out.all (by simp [scl];have:=HLEN.out.2;omega)
       rw [htq] at h;exact h
      have hgood:∀ p∈scl r q,ColIn p.1∧rshort p.2=true:=fun p hp=>by
       obtain ⟨t,ht,rfl⟩:=List.mem_map.1 hp
       exact ⟨(HQ.out t ht).1,by have:=List.all_eq_true.1 hall t ht;exact this⟩
      have HACC:=Lib.hid hacc
      have HTS:=Lib.hid hts
      have HGD:=Lib.hid hgood
      have HLS:Hid ((scl r q).length≤1000):=Lib.hid (by simp [scl];have:=HLEN.out.2;omega)
      obtain ⟨wo,hwo⟩:∃ wo:World,wo=wr:=⟨_,rfl⟩
      rw [← hwo] at HTS HRk HWk ⊢
      clear htq hall hacc hts hgood hwo
      go_wp2_with fail
      refine (collect_any xc (some ⟨G,0,none⟩) k k (scl r q) _ HTS.out HGD.out HLS.out (tab_keep HT.out HWk.out)).mono ?_
      intro e w3 h
      rw [HACC.out] at h
      obtain ⟨ad2,n2,cap2,s2,e2,rfl⟩:=h.form
      have HR:=Lib.hid (FormRes.boxedAt (g:=w.heap.size+1) HWk.out (by omega) HRk.out.lt h)
      have HB3:=Lib.hid (HRk.out.below h.1 HRk.out.lt)
      clear h
      obtain ⟨b0,b1,b2,b3⟩:=HB3.out.cell
      go_wp2
      obtain ⟨d0,d1,d2,d3⟩:=((Bx.put HB3.out (.slice ad2 n2 cap2) (.string s2))).cell
      refine bodyPost_ret (v := .tuple #[.agg #[.slice ad2 n2 cap2,.string s2],.int .i64 e2]) (by simp only [results,Tryz.results46];simp [go_sem,d0,d1]) rfl ?_
      exact HR.out
 · have hs3:rshort (qc*r)=false:=by simpa using hsc
   have HM:Hid (OpRes fMul gAdd x y ⟨#[]⟩ 5):=Lib.hid (by rw [← hx.out, ← hy.out];exact (mulRes HRC.out HRR.out).2 hs3)
   have ho2:o=none:=by rw [hs3] at hsr;simpa using hsr.symm
   subst ho2
   clear hsr hsc hs3
   go_enter Tryz.func46,Tryz.ntmps46
   go_wp2_with fail
   refine (qMul_any x y ⟨#[]⟩ 5 _ HM hxs hys (tab_keep HT.out HW.out)).mono ?_
   rintro e w1 ⟨rfl,hb⟩
   have HRB1:=Lib.hid (HRB.out.below hb HRB.out.lt)
   have HW1:=Lib.hid (HW.out.trans (hb.mono HW.out.size))
   clear hb
   obtain ⟨b0,b1,b2,b3⟩:=HRB1.out.cell
   go_wp2
   obtain ⟨d0,d1,d2,d3⟩:=((Bx.put HRB1.out (.slice none 0 0) (.string ⟨#[]⟩))).cell
   refine bodyPost_ret (v := .tuple #[.agg #[.slice none 0 0,.string ⟨#[]⟩],.int .i64 5]) (by simp only [results,Tryz.results46];simp [go_sem,d0,d1]) rfl ?_
   exact FormRes.zero HW1.out (by omega) _ _
end Go.Proofs.YtkhdocdddicgpaaGreatDoor
set_option linter.unusedVariables false
set_option linter.unusedSimpArgs false
namespace Go.Proofs.YtkhdocdddicgpaaGreatDoor
open Go.RowKit Go.Maps _root_.Go.Proofs.YtkhdocdddicgpaaGreatDoor.Nm
set_option maxRecDepth 100000 in
set_option maxHeartbeats 1600000 in
theorem grow_any (n:Nat) (w:World) (hn:n≤100000) :
 Calls Tryz.prog 115 #[.slice none 0 0,.int .i64 n] w fun e w'=>∃ ad cap,e = .returned (.slice ad 0 cap)∧w'.ownsRow w.heap.size 68 2 (.slice ad 0 cap) 0 []∧w.grownBy w' none:=by
 obtain ⟨i0,hi,hz0,hz1,hz2⟩:=info_parts infoTm
 have HI:=Lib.hid hi
 have HZ0:=Lib.hid hz0
 have HZ1:=Lib.hid hz1
 have HZ2:=Lib.hid hz2
 clear hi hz0 hz1 hz2
 by_cases h0:n=0
 · subst h0
   go_enter Tryz.func115,Tryz.ntmps115
   go_wp2
   go_ret
   exact ⟨none,0,rfl,⟨rfl,.inl ⟨rfl,rfl⟩⟩,⟨rfl,rfl,rfl,Nat.le_refl _,fun _ _ _=>rfl⟩⟩
 · have h1:¬ ((n:Int)<0):=by omega
   have h2:0<n:=by omega
   have h3:(0:Int)<n:=by omega
   have h4:wrap64 (n:Int)=n:=by unfold wrap64;omega
   have hrun:∀ ty,(Builtin.append_ #[22,3] ty #[.slice none 0 0,.int .i64 n]).run Tryz.prog w = .ok (.slice (some ⟨w.heap.size,0,none⟩) n (grownCap w n 0 68)) (w.drew.alloc (.cells (Builtin.zeroCells #[.int .i64 0,.string ⟨#[]⟩] n++Builtin.zeroCells #[.int .i64 0,.string ⟨#[]⟩] (grownCap w n 0 68-n)) 68)) :=
    fun ty=>Lib.run_append_nil_zeros w 22 3 ty 68 i0 (.agg #[.int .i64 0,.string ⟨#[]⟩]) .i64 .i64 Tryz.underlying22 Tryz.underlying3 HI.out HZ0.out n h2 (by rw [HZ1.out];decide) (by omega) (by rw [HZ2.out];omega)
   obtain ⟨C,hC⟩:∃ C,grownCap w n 0 68=C:=⟨_,rfl⟩
   have hge:n≤C:=by rw [← hC];exact grownCap_ge _ _ _ _
   have hle:C≤maxLen:=by rw [← hC];exact grownCap_le_maxLen _ _ _ _ (by unfold maxLen;omega)
   have hrow:(w.drew.alloc (.cells (Builtin.zeroCells #[.int .i64 0,.string ⟨#[]⟩] n++Builtin.zeroCells #[.int .i64 0,.string ⟨#[]⟩] (C-n)) 68)).ownsRow w.heap.size 68 2 (.slice (some ⟨w.heap.size,0,none⟩) 0 C) 0 [] :=
    ⟨rfl,.inr ⟨w.heap.size,C,_,rfl,Nat.le_refl _,heap_alloc_new _ _,Nat.zero_le _,hle,by rw [Array.size_append,size_zeroCells,size_zeroCells];show n*2+(C-n)*2=C*2;omega,rfl⟩⟩
   have HROW:=Lib.hid hrow
   have HG:Hid (w.grownBy (w.drew.alloc (.cells (Builtin.zeroCells #[.int .i64 0,.string ⟨#[]⟩] n++Builtin.zeroCells #[.int .i64 0,.string ⟨#[]⟩] (C-n)) 68)) none):=Lib.hid ⟨rfl,rfl,rfl,by show w.heap.size≤(w.heap.push _).size;rw [Array.size_push];omega,fun k hk _=>Below.heap_alloc w.drew _ k hk⟩
   rw [hC] at hrun
   have HRUN:=Lib.hid hrun
   clear hrow hrun hC HI HZ0 HZ1 HZ2
   go_enter Tryz.func115,Tryz.ntmps115
   go_wp2_with (first | (at_builtin;refine Lib.wpList_append_run _ rfl _ _ _ _ rfl _ _ rfl rfl _ _ (HRUN.out _) ?_))
   go_ret
   exact ⟨_,_,rfl,HROW.out,HG.out⟩
theorem rowCells {W:World} {q:List Qm} {g off n cap:Nat} (h:TsAt W (.slice (some ⟨g,off,none⟩) n cap) (tms q)):∀ j u,(flatT q)[j]?=some u→W.cell? ((⟨g,off,none⟩:Addr).add j)=some u:=by
 obtain ⟨ad',n',cap',e1,e2,h⟩:=h
 cases e1
 intro j u hj
 have hjl:j<q.length*2:=by
  rw [← flatT_length]
  exact (List.getElem?_eq_some_iff.1 hj).1
 rcases h with h | ⟨g',off',e3,h1,h2⟩
 · have:n=q.length:=by simpa [tms] using e2
   omega
 · cases e3
   have hq:j/2<q.length:=by omega
   have hc:=h2 (j/2) (by simpa [tms] using hq)
   have ek:(tms q)[j/2]'(by simpa [tms] using hq)=(q[j/2].1,txt q[j/2].2):=by simp [tms]
   rw [ek] at hc
   have hf:=flatT_get q (j/2) hq
   rw [Addr.add_lit]
   rcases Nat.mod_two_eq_zero_or_one j with e | e
   · have e1:j/2*2=j:=by omega
     rw [e1] at hc hf
     rw [hf.1] at hj
     cases hj
     exact hc.1
   · have e1:j/2*2+1=j:=by omega
     have e2:off+j/2*2+1=off+j:=by omega
     rw [e1] at hf
     rw [e2] at hc
     rw [hf.2] at hj
     cases hj
     exact hc.2
theorem flatT_one (q:List Qm):∀ u∈flatT q,u.oneCell'=true:=by
 intro u hu
 simp only [flatT,List.mem_flatMap] at hu
 obtain ⟨p,_,hp⟩:=hu
 simp [encT] at hp
 rcases hp with rfl | rfl <;> rfl
theorem terms_of_row {W:World} {B:Nat} {ad:Option Addr} {n cap:Nat} {q:List Qm} (h:W.ownsRow B 68 2 (.slice ad n cap) q.length (flatT q)) (hn:n=q.length):TsAt W (.slice ad n cap) (tms q):=by
 obtain ⟨h1,h2⟩:=h
 rcases h2 with ⟨h,h0⟩ | ⟨g,cap',cur,h3,h4,h5,h6,h7,h8,h9⟩
 · cases h
   exact ⟨_,_,_,rfl,by simp [tms,hn],.inl rfl⟩
 · cases h3
   refine ⟨_,_,_,rfl,by simp [tms],.inr ⟨g,0,rfl,(Array.getElem?_eq_some_iff.1 h5).1,fun i hi => ?_⟩⟩
   have hi':i<q.length:=by simpa [tms] using hi
   have ek:(tms q)[i]=(q[i].1,txt q[i].2):=by simp [tms]
   rw [ek]
   have hf:=flatT_get q i hi'
   have hcur:∀ (j:Nat),j<q.length*2→cur[j]?=(flatT q)[j]?:=fun j hj=>by
    rw [← h9,List.getElem?_take,if_pos hj];simp
   refine ⟨?_,?_⟩
   · simp only [World.cell?,h5]
     rw [← hf.1, ← hcur _ (by omega)];simp
   · simp only [World.cell?,h5]
     rw [← hf.2, ← hcur _ (by omega)];simp
def pre2 (q1 q2:List Qm) (k:Nat):List Qm:=if k=0 then [] else if k=1 then q1 else q1++q2
set_option maxRecDepth 100000 in
set_option maxHeartbeats 6400000 in
theorem concat_any (b:Nat) (ad1 ad2:Option Addr) (n1 c1 n2 c2:Nat) (q1 q2:List Qm) (w:World) (hb:b<w.heap.size) (hc0:w.cell? ⟨b,0,none⟩=some (.slice ad1 n1 c1)) (hc1:w.cell? ⟨b,1,none⟩=some (.slice ad2 n2 c2))
 (hv1:TsAt w (.slice ad1 n1 c1) (tms q1)) (hv2:TsAt w (.slice ad2 n2 c2) (tms q2)) (hl1:q1.length≤500) (hl2:q2.length≤500) (hz1:ad1=none→c1=0) (hz2:ad2=none→c2=0) :
 Calls Tryz.prog 74 #[.slice (some ⟨b,0,none⟩) 2 2] w fun e w'=>∃ ad n cap,e = .returned (.slice ad n cap)∧TsAt w' (.slice ad n cap) (tms (q1++q2))∧Below w.heap.size w w':=by
 obtain ⟨i0,hi,hz0,hy1,hy2⟩:=info_parts infoTm
 have HI:=Lib.hid hi
 have HZ0:=Lib.hid hz0
 have HY1:=Lib.hid hy1
 have HY2:=Lib.hid hy2
 have hn1:n1=q1.length:=by obtain ⟨_,_,_,e1,e2,_⟩:=hv1;cases e1;simpa [tms] using e2
 have hn2:n2=q2.length:=by obtain ⟨_,_,_,e1,e2,_⟩:=hv2;cases e1;simpa [tms] using e2
 have HN1:=Lib.hid (And.intro trivial hn1)
 have HN2:=Lib.hid (And.intro trivial hn2)
 have HV1:=Lib.hid hv1
 have HV2:=Lib.hid hv2
 have HZZ1:=Lib.hid hz1
 have HZZ2:=Lib.hid hz2
 have HC0:=Lib.hid hc0
 have HC1:=Lib.hid hc1
 have hb1:n1≤500:=by omega
 have hb2:n2≤500:=by omega
 obtain ⟨S,hS⟩:∃ S,n1+n2=S:=⟨_,rfl⟩
 have HS:=Lib.hid (And.intro trivial hS)
 have hS1:S≤1000:=by omega
 clear hi hz0 hy1 hy2 hn1 hn2 hv1 hv2 hl1 hl2 hz1 hz2 hS
 go_enter Tryz.func74,Tryz.ntmps74
 go_wp2
 go_loopw [11,3] (fun i s wr=>∃ k:Nat,k≤2∧i = .int .i64 k∧s = .int .i64 ((if k=0 then 0 else if k=1 then n1 else S:Nat):Int)∧w=wr) (fun i _ _=>2-(intOf i).toNat)
 case atStart=>exact ⟨0,Nat.zero_le _,rfl,rfl,rfl⟩
 case round =>
  obtain ⟨k,hk,rfl,rfl,rfl⟩:=hrel
  by_cases h2:k=2
  · subst h2
    clear hc0 hc1
    go_wp2_with fail
    refine (grow_any S _ (by omega)).mono ?_
    rintro e w1 ⟨ad0,cap0,rfl,hrow,hg⟩
    have HB1:=Lib.hid ((Below.refl w.heap.size w).grown hg (Nat.le_refl _) (by simp))
    have HR1:Hid (w1.ownsRow w.heap.size 68 2 (.slice ad0 0 cap0) 0 (flatT (pre2 q1 q2 0))):=Lib.hid hrow
    clear hrow hg
    go_wp2
    go_loopw [27,6] (fun i v wq=>∃ (k:Nat) (ad:Option Addr) (cap:Nat),k≤2∧i = .int .i64 k∧v = .slice ad (pre2 q1 q2 k).length cap∧Hid (wq.ownsRow w.heap.size 68 2 (.slice ad (pre2 q1 q2 k).length cap) (pre2 q1 q2 k).length (flatT (pre2 q1 q2 k)))∧Hid (Below w.heap.size w wq)) (fun i _ _=>2-(intOf i).toNat)
    case atStart=>exact ⟨0,ad0,cap0,Nat.zero_le _,rfl,rfl,HR1,HB1⟩
    case round =>
     obtain ⟨k,ad,cap,hk,rfl,rfl,HR,HB⟩:=hrel
     have hd0:=(HB.out.cell (p:=⟨b,0,none⟩) hb).trans HC0.out
     have hd1:=(HB.out.cell (p:=⟨b,1,none⟩) hb).trans HC1.out
     by_cases h2:k=2
     · subst h2
       go_wp2
       go_ret
       exact ⟨_,_,_,rfl,terms_of_row HR.out rfl,HB.out⟩
     · by_cases h1:k=1
       · subst h1
         have HT:=Lib.hid (HV2.out.keep HB.out (Nat.le_refl _))
         cases ad2 with
         | none =>
          obtain rfl:=HZZ2.out rfl
          obtain rfl:n2=0:=by
           obtain ⟨_,_,_,e1,_,h⟩:=HT.out
           cases e1
           rcases h with h | ⟨_,_,h,_⟩
           · exact h
           · cases h
          have hq2:q2=[]:=List.length_eq_zero_iff.1 HN2.out.2.symm
          have he:pre2 q1 q2 2=pre2 q1 q2 1:=by simp [pre2,hq2]
          have HE:=Lib.hid he
          clear hq2 he
          go_wp2_with (first | (at_builtin;refine wpList_append_own_none rfl _ _ 22 rfl w.heap.size 68 i0 2 Tryz.underlying22 HI.out _ _ _ rfl HR.out rfl ?_;refine hold ?_))
          refine go_on ?_
          go_wp2
          go_roundw
          case rel=>exact ⟨2,ad,cap,by omega,rfl,by rw [HE.out],Lib.hid (by rw [HE.out];exact HR.out),HB⟩
          case measure=>decide
         | some a2 =>
          have HRC:Hid (∀ j u,(flatT q2)[j]?=some u→wr.cell? (a2.add j)=some u):=Lib.hid (by
           obtain ⟨_,_,_,e1,_,h⟩:=HT.out
           cases e1
           rcases h with h | ⟨g,o,h,_⟩
           · have hq2:q2=[]:=List.length_eq_zero_iff.1 (HN2.out.2.symm.trans h)
             intro j u hj;rw [hq2] at hj;simp [flatT] at hj
           · cases h;exact rowCells HT.out)
          have he:pre2 q1 q2 2=pre2 q1 q2 1++q2:=by simp [pre2]
          have HE:=Lib.hid he
          have hle:(pre2 q1 q2 1).length+n2≤1000:=by
           have h1:=HN1.out.2
           have h2:=HN2.out.2
           simp [pre2];omega
          have HFL:Hid ((flatT q2).length=n2*2):=Lib.hid (by rw [flatT_length, ← HN2.out.2])
          have hws:w.heap.size≤wr.heap.size:=HB.out.size
          clear he
          go_wp2_with (first | (at_builtin;refine wpList_append_own _ rfl _ _ 22 rfl w.heap.size 68 i0 (.agg #[.int .i64 0,.string ⟨#[]⟩]) 2 24 Tryz.underlying22 HI.out HZ0.out HY1.out HY2.out rfl (by decide) _ _ _ rfl HR.out a2 n2 c2 (flatT q2) rfl HFL.out HRC.out (flatT_one _) (by unfold maxLen;omega) (by omega) hws ?_;intro v' w2 hown' hgrow _;refine hold ?_))
          have HB2:=Lib.hid (HB.out.grown hgrow hws (fun j hj=>(HR.out.lt j hj).1))
          have hown2:w2.ownsRow w.heap.size 68 2 v' (pre2 q1 q2 2).length (flatT (pre2 q1 q2 2)):=by
           rw [HE.out,List.length_append, ← HN2.out.2,show flatT (pre2 q1 q2 1++q2)=flatT (pre2 q1 q2 1)++flatT q2 from by simp [flatT]]
           exact hown'
          obtain ⟨ad3,cap3,rfl⟩:∃ ad3 cap3,v' = .slice ad3 (pre2 q1 q2 2).length cap3:=by
           rcases hown2.2 with ⟨h,h0⟩ | ⟨g,c,cur,h,_⟩
           · exact ⟨none,0,by rw [h0];exact h⟩
           · exact ⟨_,_,h⟩
          have HR2:=Lib.hid hown2
          clear hown' hown2 hgrow
          refine go_on ?_
          go_wp2
          go_roundw
          case rel=>exact ⟨2,ad3,cap3,by omega,rfl,rfl,HR2,HB2⟩
          case measure=>decide
       · obtain rfl:k=0:=by omega
         have HT:=Lib.hid (HV1.out.keep HB.out (Nat.le_refl _))
         cases ad1 with
         | none =>
          obtain rfl:=HZZ1.out rfl
          obtain rfl:n1=0:=by
           obtain ⟨_,_,_,e1,_,h⟩:=HT.out
           cases e1
           rcases h with h | ⟨_,_,h,_⟩
           · exact h
           · cases h
          have hq2:q1=[]:=List.length_eq_zero_iff.1 HN1.out.2.symm
          have he:pre2 q1 q2 1=pre2 q1 q2 0:=by simp [pre2,hq2]
          have HE:=Lib.hid he
          clear hq2 he
          go_wp2_with (first | (at_builtin;refine wpList_append_own_none rfl _ _ 22 rfl w.heap.size 68 i0 2 Tryz.underlying22 HI.out _ _ _ rfl HR.out rfl ?_;refine hold ?_))
          refine go_on ?_
          go_wp2
          go_roundw
          case rel=>exact ⟨1,ad,cap,by omega,rfl,by rw [HE.out],Lib.hid (by rw [HE.out];exact HR.out),HB⟩
          case measure=>decide
         | some a2 =>
          have HRC:Hid (∀ j u,(flatT q1)[j]?=some u→wr.cell? (a2.add j)=some u):=Lib.hid (by
           obtain ⟨_,_,_,e1,_,h⟩:=HT.out
           cases e1
           rcases h with h | ⟨g,o,h,_⟩
           · have hq2:q1=[]:=List.length_eq_zero_iff.1 (HN1.out.2.symm.trans h)
             intro j u hj;rw [hq2] at hj;simp [flatT] at hj
           · cases h;exact rowCells HT.out)
          have he:pre2 q1 q2 1=pre2 q1 q2 0++q1:=by simp [pre2]
          have HE:=Lib.hid he
          have hle:(pre2 q1 q2 0).length+n1≤1000:=by
           have h1:=HN1.out.2
           have h2:=HN2.out.2
           simp [pre2];omega
          have HFL:Hid ((flatT q1).length=n1*2):=Lib.hid (by rw [flatT_length, ← HN1.out.2])
          have hws:w.heap.size≤wr.heap.size:=HB.out.size
          clear he
          go_wp2_with (first | (at_builtin;refine wpList_append_own _ rfl _ _ 22 rfl w.heap.size 68 i0 (.agg #[.int .i64 0,.string ⟨#[]⟩]) 2 24 Tryz.underlying22 HI.out HZ0.out HY1.out HY2.out rfl (by decide) _ _ _ rfl HR.out a2 n1 c1 (flatT q1) rfl HFL.out HRC.out (flatT_one _) (by unfold maxLen;omega) (by omega) hws ?_;intro v' w2 hown' hgrow _;refine hold ?_))
          have HB2:=Lib.hid (HB.out.grown hgrow hws (fun j hj=>(HR.out.lt j hj).1))
          have hown2:w2.ownsRow w.heap.size 68 2 v' (pre2 q1 q2 1).length (flatT (pre2 q1 q2 1)):=by
           rw [HE.out,List.length_append, ← HN1.out.2,show flatT (pre2 q1 q2 0++q1)=flatT (pre2 q1 q2 0)++flatT q1 from by simp [flatT]]
           exact hown'
          obtain ⟨ad3,cap3,rfl⟩:∃ ad3 cap3,v' = .slice ad3 (pre2 q1 q2 1).length cap3:=by
           rcases hown2.2 with ⟨h,h0⟩ | ⟨g,c,cur,h,_⟩
           · exact ⟨none,0,by rw [h0];exact h⟩
           · exact ⟨_,_,h⟩
          have HR2:=Lib.hid hown2
          clear hown' hown2 hgrow
          refine go_on ?_
          go_wp2
          go_roundw
          case rel=>exact ⟨1,ad3,cap3,by omega,rfl,rfl,HR2,HB2⟩
          case measure=>decide
  · by_cases h1:k=1
    · subst h1
      have hw1:¬ ((S:Int)<0):=by omega
      have hw2:wrap64 ((n1:Int)+(n2:Int))=(S:Int):=by have:=HS.out.2;unfold wrap64;omega
      go_wp2
      go_roundw
      case rel=>exact ⟨2,by omega,rfl,by have:=HS.out.2;simp;omega,by first | rfl | trivial⟩
      case measure=>decide
    · obtain rfl:k=0:=by omega
      have hw1:¬ (((n1:Nat):Int)<0):=by omega
      have hw2:wrap64 (n1:Int)=(n1:Int):=by unfold wrap64;omega
      go_wp2
      go_roundw
      case rel=>exact ⟨1,by omega,rfl,by simp,by first | rfl | trivial⟩
      case measure=>decide
def sumRes (p1 p2:Rat) (q1 q2:List Qm):Option (Int→Rat):=if rshort (p1+p2)=true then acc (fun _=>0) (q1++q2) else none
set_option maxRecDepth 100000 in
set_option maxHeartbeats 6400000 in
theorem fsum_any (p1 p2:Rat) (x1 x2:ByteArray) (ad1 ad2:Option Addr) (n1 c1 n2 c2:Nat) (q1 q2:List Qm) (o:Option (Int→Rat)) (w:World) (hx1:Hid (txt p1=x1)) (hx2:Hid (txt p2=x2)) (hp1:rshort p1=true) (hp2:rshort p2=true)
 (hv1:TsAt w (.slice ad1 n1 c1) (tms q1)) (hv2:TsAt w (.slice ad2 n2 c2) (tms q2)) (hq1:∀ p∈q1,ColIn p.1∧rshort p.2=true) (hq2:∀ p∈q2,ColIn p.1∧rshort p.2=true) (hl1:q1.length≤500) (hl2:q2.length≤500) (hz1:ad1=none→c1=0) (hz2:ad2=none→c2=0) (htab:Tab w) (ho:Hid (sumRes p1 p2 q1 q2=o)) :
 Calls Tryz.prog 37 #[.agg #[.slice ad1 n1 c1,.string x1],.agg #[.slice ad2 n2 c2,.string x2]] w (FormRes o (txt (p1+p2)) w):=by
 have HT:=Lib.hid htab
 have HQ1:=Lib.hid hq1
 have HQ2:=Lib.hid hq2
 have HL:=Lib.hid (And.intro hl1 hl2)
 have HZ1:=Lib.hid hz1
 have HZ2:=Lib.hid hz2
 obtain ⟨xc,hxc⟩:∃ xc,txt (p1+p2)=xc:=⟨_,rfl⟩
 have HXC:=Lib.hid hxc
 rw [hxc]
 have hA:=(Below.refl w.heap.size w).alloc (Nat.le_refl _) (.cells #[.slice ad1 n1 c1,.string x1] 24)
 have hA2:=hA.alloc (by simp) (.cells #[.slice ad2 n2 c2,.string x2] 24)
 have hA3:=hA2.alloc (by simp;omega) (.cells #[.slice none 0 0,.string ⟨#[]⟩] 24)
 have HV1:=Lib.hid (hv1.keep hA3 (Nat.le_refl _))
 have HV2:=Lib.hid (hv2.keep hA3 (Nat.le_refl _))
 have HB1:=Lib.hid (((Bx.new w (.slice ad1 n1 c1) (.string x1) 24).alloc (.cells #[.slice ad2 n2 c2,.string x2] 24)).alloc (.cells #[.slice none 0 0,.string ⟨#[]⟩] 24))
 have hb2:=(Bx.new (w.alloc (.cells #[.slice ad1 n1 c1,.string x1] 24)) (.slice ad2 n2 c2) (.string x2) 24).alloc (.cells #[.slice none 0 0,.string ⟨#[]⟩] 24)
 have hb3:=Bx.new ((w.alloc (.cells #[.slice ad1 n1 c1,.string x1] 24)).alloc (.cells #[.slice ad2 n2 c2,.string x2] 24)) (.slice none 0 0) (.string ⟨#[]⟩) 24
 rw [World.size_alloc] at hb2
 rw [World.size_alloc,World.size_alloc] at hb3
 have HB2:=Lib.hid hb2
 have HB3:=Lib.hid hb3
 have HW:=Lib.hid hA3
 have hs1:x1.size≤100000:=by rw [← hx1.out];have:=txt_size hp1;omega
 have hs2:x2.size≤100000:=by rw [← hx2.out];have:=txt_size hp2;omega
 have hsr:=ho.out
 unfold sumRes at hsr
 have HADD:=Lib.hid (addRes hp1 hp2)
 clear htab hq1 hq2 hl1 hl2 hz1 hz2 hxc hA hA2 hA3 hb2 hb3 hv1 hv2 ho hp1 hp2
 by_cases hsc:rshort (p1+p2)=true
 · rw [if_pos hsc] at hsr
   have HSR:=Lib.hid hsr
   have HM:Hid (OpRes fAdd gAdd x1 x2 xc 0):=Lib.hid (by rw [← hx1.out, ← hx2.out, ← HXC.out];exact HADD.out.1 hsc)
   clear hsr hsc
   go_enter Tryz.func37,Tryz.ntmps37
   go_wp2_with fail
   refine (qAdd_any x1 x2 xc 0 _ HM hs1 hs2 (tab_keep HT.out HW.out)).mono ?_
   rintro e w1 ⟨rfl,hb⟩
   have HW1:=Lib.hid (HW.out.trans (hb.mono HW.out.size))
   have HVa:=Lib.hid (HV1.out.keep hb (Nat.le_refl _))
   have HVb:=Lib.hid (HV2.out.keep hb (Nat.le_refl _))
   have HBa:=Lib.hid (HB1.out.below hb HB1.out.lt)
   have HBb:=Lib.hid (HB2.out.below hb HB2.out.lt)
   have HBc:=Lib.hid (HB3.out.below hb HB3.out.lt)
   have hA4:=(Below.refl w1.heap.size w1).alloc (Nat.le_refl _) (.cells #[.slice ad1 n1 c1,.slice ad2 n2 c2] 22)
   have HX4:=Lib.hid (Bx.new w1 (.slice ad1 n1 c1) (.slice ad2 n2 c2) 22).cell
   have HVc:=Lib.hid (HVa.out.keep hA4 (Nat.le_refl _))
   have HVd:=Lib.hid (HVb.out.keep hA4 (Nat.le_refl _))
   have HBd:=Lib.hid (HBc.out.alloc (.cells #[.slice ad1 n1 c1,.slice ad2 n2 c2] 22))
   have HW4:=Lib.hid (HW1.out.trans (hA4.mono HW1.out.size))
   clear hb hA4
   obtain ⟨a0,a1,a2,a3⟩:=HBa.out.cell
   obtain ⟨b0,b1,b2,b3⟩:=HBb.out.cell
   go_wp2_with fail
   refine (concat_any w1.heap.size ad1 ad2 n1 c1 n2 c2 q1 q2 _ (by simp) HX4.out.1 HX4.out.2.1 HVc.out HVd.out HL.out.1 HL.out.2 HZ1.out HZ2.out).mono ?_
   rintro e w5 ⟨ad,n,cap,rfl,hts,hb⟩
   have HTS:=Lib.hid hts
   have HBe:=Lib.hid (HBd.out.below hb HBd.out.lt)
   have HW5:=Lib.hid (HW4.out.trans (hb.mono HW4.out.size))
   have HLQ:Hid ((q1++q2).length≤1000):=Lib.hid (by have:=HL.out;simp;omega)
   have HQQ:Hid (∀ p∈q1++q2,ColIn p.1∧rshort p.2=true):=Lib.hid (fun p hp=>by
    rcases List.mem_append.1 hp with h | h
    · exact HQ1.out p h
    · exact HQ2.out p h)
   clear hb hts a0 a1 a2 a3 b0 b1 b2 b3
   go_wp2_with fail
   refine (collect_any xc ad n cap (q1++q2) _ HTS.out HQQ.out HLQ.out (tab_keep HT.out HW5.out)).mono ?_
   intro e w6 h
   rw [HSR.out] at h
   obtain ⟨ad2,n2,cap2,s2,e2,rfl⟩:=h.form
   have HR:=Lib.hid (FormRes.boxedAt (g:=w.heap.size+1+1) HW5.out (by omega) HBe.out.lt h)
   have HB6:=Lib.hid (HBe.out.below h.1 HBe.out.lt)
   clear h
   obtain ⟨b0,b1,b2,b3⟩:=HB6.out.cell
   go_wp2
   obtain ⟨d0,d1,d2,d3⟩:=((Bx.put HB6.out (.slice ad2 n2 cap2) (.string s2))).cell
   refine bodyPost_ret (v := .tuple #[.agg #[.slice ad2 n2 cap2,.string s2],.int .i64 e2]) (by simp only [results,Tryz.results37];simp [go_sem,d0,d1]) rfl ?_
   exact HR.out
 · have hs3:rshort (p1+p2)=false:=by simpa using hsc
   have HM:Hid (OpRes fAdd gAdd x1 x2 ⟨#[]⟩ 5):=Lib.hid (by rw [← hx1.out, ← hx2.out];exact HADD.out.2 hs3)
   have ho2:o=none:=by rw [if_neg hsc] at hsr;exact hsr.symm
   subst ho2
   clear hsr hsc hs3
   go_enter Tryz.func37,Tryz.ntmps37
   go_wp2_with fail
   refine (qAdd_any x1 x2 ⟨#[]⟩ 5 _ HM hs1 hs2 (tab_keep HT.out HW.out)).mono ?_
   rintro e w1 ⟨rfl,hb⟩
   have HRB1:=Lib.hid (HB3.out.below hb HB3.out.lt)
   have HW1:=Lib.hid (HW.out.trans (hb.mono HW.out.size))
   clear hb
   obtain ⟨b0,b1,b2,b3⟩:=HRB1.out.cell
   go_wp2
   obtain ⟨d0,d1,d2,d3⟩:=((Bx.put HRB1.out (.slice none 0 0) (.string ⟨#[]⟩))).cell
   refine bodyPost_ret (v := .tuple #[.agg #[.slice none 0 0,.string ⟨#[]⟩],.int .i64 5]) (by simp only [results,Tryz.results37];simp [go_sem,d0,d1]) rfl ?_
   exact FormRes.zero HW1.out (by omega) _ _
end Go.Proofs.YtkhdocdddicgpaaGreatDoor
