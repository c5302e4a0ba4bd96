/- Part 17: what the law's walk leans on. -/
import Derived.Test.YtkhdocdddicgpaaGreatDoorYt16
import Derived.Test.YtkhdocdddicgpaaGreatDoorYt14
import Derived.Deep.RegionWith
import Derived.Lib.SmallJoins
import Derived.Deep.SlicePairs
import Derived.Lib.SliceRun
set_option linter.unusedVariables false
set_option linter.unusedSimpArgs false
namespace Go.Proofs.YtkhdocdddicgpaaGreatDoor
open Go.RowKit Go.Maps _root_.Go.Proofs.YtkhdocdddicgpaaGreatDoor.Nm
def SsAt (W:World) (v:Value) (l:List ByteArray):Prop:=∃ ad n cap,v = .slice ad n cap∧n=l.length ∧
 (n=0∨∃ g off,ad=some ⟨g,off,none⟩∧g<W.heap.size∧∀ (i:Nat) (h:i<l.length),W.cell? ⟨g,off+i,none⟩=some (.string l[i]))
theorem SsAt.keep {W W':World} {v:Value} {l:List ByteArray} {B:Nat} (h:SsAt W v l) (hb:Below B W W') (hB:W.heap.size≤B):SsAt W' v l:=by
 obtain ⟨ad,n,cap,e1,e2,h⟩:=h
 refine ⟨ad,n,cap,e1,e2,?_⟩
 rcases h with h | ⟨g,off,e3,h1,h2⟩
 · exact .inl h
 · refine .inr ⟨g,off,e3,Nat.lt_of_lt_of_le h1 hb.size,fun i hi => ?_⟩
   rw [hb.cell (p:=⟨g,off+i,none⟩) (Nat.lt_of_lt_of_le h1 hB)];exact h2 i hi
set_option maxRecDepth 100000 in
set_option maxHeartbeats 3200000 in
theorem indexNoNum_any (v:Value) (l:List ByteArray) (r:Bool) (w:World) (hv:SsAt w v l) (hl:∀ s∈l,s.size≤100000) (hn:l.length≤1000) (hr:Hid (l.any noNum=r)) :
 Calls Tryz.prog 88 #[v,.func (.func 54) #[] #[]] w fun e w'=>∃ i:Int,e = .returned (.int .i64 i)∧decide (0≤i)=r∧Below w.heap.size w w':=by
 have eg:∀ args w,(callFunc 54 args).run Tryz.prog w = .ok (.enter 54 args) w:=enters_of Tryz.func54 (by kernel_rfl) rfl
 obtain ⟨ad,n,cap,rfl,hlen,hv⟩:=hv
 have HV:=Lib.hid hv
 have HL:=Lib.hid hl
 have HLEN:=Lib.hid (And.intro trivial hlen)
 have hn1:n≤1000:=by omega
 clear hv hl hlen hn
 go_enter Tryz.func88,Tryz.ntmps88
 go_wp2
 go_loopw [8] (fun i wr=>∃ k:Nat,k≤n∧i = .int .i64 k∧Hid (∀ (j:Nat) (h:j<l.length),j<k→noNum l[j]=false)∧Hid (Below w.heap.size w wr)) (fun i _=>n-(intOf i).toNat)
 case atStart=>exact ⟨0,Nat.zero_le _,rfl,Lib.hid (fun j _ h=>absurd h (Nat.not_lt_zero j)),Lib.hid (Below.refl _ _)⟩
 case round =>
  obtain ⟨k,hk,rfl,HA,HW⟩:=hrel
  by_cases hlt:k<n
  · have hkl:k<l.length:=by rw [← HLEN.out.2];exact hlt
    obtain ⟨g,off,rfl,hg,hc⟩:∃ g off,ad=some ⟨g,off,none⟩∧g<w.heap.size∧∀ (i:Nat) (h:i<l.length),w.cell? ⟨g,off+i,none⟩=some (.string l[i]):=by
     rcases HV.out with h | h
     · omega
     · exact h
    have hcell:=(HW.out.cell (p:=⟨g,off+k,none⟩) hg).trans (hc k hkl)
    obtain ⟨x,hx⟩:∃ x,l[k]=x:=⟨_,rfl⟩
    rw [hx] at hcell
    have hxs:x.size≤100000:=by rw [← hx];exact HL.out _ (List.getElem_mem hkl)
    have h1:(0:Int)≤k:=by omega
    have h2:(k:Int)<n:=by omega
    obtain ⟨b,hb⟩:∃ b,noNum x=b:=⟨_,rfl⟩
    have HB:=Lib.hid hb
    clear hc
    cases b
    · have HA2:Hid (∀ (j:Nat) (h:j<l.length),j<k+1→noNum l[j]=false):=Lib.hid (fun j h hj=>by
       rcases Nat.lt_or_ge j k with h3 | h3
       · exact HA.out j h h3
       · obtain rfl:j=k:=by omega
         rw [hx];exact HB.out)
      clear hx hb
      go_wp2_with (go_at_fn 54;refine (isNoNumber_any x false _ HB hxs).mono ?_;rintro e w1 ⟨rfl,hb⟩;have HW1:=Lib.hid (HW.out.trans (hb.mono HW.out.size));clear hb)
      go_roundw
      case rel=>exact ⟨k+1,by omega,by go_num,HA2,HW1⟩
      case measure=>simp [intOf];omega
    · have hr1:r=true:=by
       rw [← hr.out,List.any_eq_true]
       exact ⟨x,by rw [← hx];exact List.getElem_mem hkl,hb⟩
      subst hr1
      clear hx hb
      go_wp2_with (go_at_fn 54;refine (isNoNumber_any x true _ HB hxs).mono ?_;rintro e w1 ⟨rfl,hb⟩;have HW1:=Lib.hid (HW.out.trans (hb.mono HW.out.size));clear hb)
      go_ret
      exact ⟨(k:Int),rfl,by simp,HW1.out⟩
  · obtain rfl:k=n:=by omega
    have hr0:r=false:=by
     rw [← hr.out,List.any_eq_false]
     intro s hs
     obtain ⟨j,hj,rfl⟩:=List.mem_iff_getElem.1 hs
     rw [HA.out j hj (by rw [HLEN.out.2];exact hj)];simp
    subst hr0
    go_wp2
    go_ret
    exact ⟨-1,rfl,by decide,HW.out⟩
set_option maxRecDepth 100000 in
set_option maxHeartbeats 1600000 in
theorem containsNoNum_any (v:Value) (l:List ByteArray) (r:Bool) (w:World) (hv:SsAt w v l) (hl:∀ s∈l,s.size≤100000) (hn:l.length≤1000) (hr:Hid (l.any noNum=r)) :
 Calls Tryz.prog 53 #[v,.func (.func 54) #[] #[]] w fun e w'=>e = .returned (.bool r)∧Below w.heap.size w w':=by
 obtain ⟨ad,n,cap,rfl⟩:∃ ad n cap,v = .slice ad n cap:=by obtain ⟨ad,n,cap,h,_⟩:=hv;exact ⟨ad,n,cap,h⟩
 have H:=Lib.hid (indexNoNum_any _ l r w hv hl hn hr)
 clear hv hl hn hr
 go_enter Tryz.func53,Tryz.ntmps53
 go_wp2_with (first | (go_at_call 88;refine H.out.mono ?_;rintro e w1 ⟨i,rfl,hi,hb⟩))
 go_ret
 exact ⟨by rw [← hi];rfl,hb⟩
def valsQ (vs:List Rat):List ByteArray:=vs.map txt
def atQ (vs:List Rat) (c:Int):Rat:=vs[c.toNat]?.getD 0
theorem valsQ_any {vs:List Rat} (h:∀ v∈vs,rshort v=true):(valsQ vs).any noNum=false:=by
 rw [List.any_eq_false]
 intro s hs
 obtain ⟨v,hv,rfl⟩:=List.mem_map.1 hs
 rw [noNum_txt (h v hv)];simp
def EvalIs (qc:Rat) (q:List Qm) (vs:List Rat) (s:ByteArray) (e:Int):Prop :=
 if (∃ p∈q,(vs.length:Int)≤p.1) then s=⟨#[]⟩∧e=2 else match evalQ qc q (atQ vs) with
  | some t=>s=txt t∧e=0
  | none=>s=⟨#[]⟩∧e=5
theorem last_big {q:List Qm} (hs:q.Pairwise (fun a b=>a.1<b.1)) {m:Int} {k:Nat} (hk:q.length=k+1):(∃ p∈q,m≤p.1)↔m≤(q[k]'(by omega)).1:=by
 constructor
 · rintro ⟨p,hp,h⟩
   obtain ⟨i,hi,rfl⟩:=List.mem_iff_getElem.1 hp
   exact Int.le_trans h (cols_mono hs hi (by omega) (by omega))
 · intro h
   exact ⟨_,List.getElem_mem (by omega),h⟩
set_option maxRecDepth 100000 in
set_option maxHeartbeats 6400000 in
theorem Eval_loop (qc:Rat) (q:List Qm) (vs:List Rat) (ad1 ad2:Option Addr) (n1 c1 n2 c2:Nat) (s:ByteArray) (ec:Int) (w:World) (hv:TsAt w (.slice ad1 n1 c1) (tms q)) (hv2:SsAt w (.slice ad2 n2 c2) (valsQ vs)) (hq:Fo q) (hc:rshort qc=true) (hvs:∀ v∈vs,rshort v=true) (hn:q.length≤1000) (hn2:vs.length≤1000) (htab:Tab w) (hr:Hid (EvalIs qc q vs s ec)) :
 Calls Tryz.prog 22 #[.agg #[.slice ad1 n1 c1,.string (txt qc)],.slice ad2 n2 c2] w fun e w'=>e = .returned (.tuple #[.string s,.int .i64 ec])∧Below w.heap.size w w':=by
 obtain ⟨x,hx⟩:∃ x,txt qc=x:=⟨_,rfl⟩
 have HX:=Lib.hid hx
 have HT:=Lib.hid htab
 have HQ:=Lib.hid hq
 have HVS:=Lib.hid hvs
 have HRC:=Lib.hid hc
 have HN:=Lib.hid (And.intro hn hn2)
 have hl1:n1=q.length:=by obtain ⟨_,_,_,e1,e2,_⟩:=hv;cases e1;simpa [tms] using e2
 have hl2:n2=vs.length:=by obtain ⟨_,_,_,e1,e2,_⟩:=hv2;cases e1;simpa [valsQ] using e2
 have HL:=Lib.hid (And.intro hl1 hl2)
 have hA:=(Below.refl w.heap.size w).alloc (Nat.le_refl _) (.cells #[.slice ad1 n1 c1,.string x] 24)
 have HV0:=Lib.hid hv
 have HS0:=Lib.hid hv2
 have HV:=Lib.hid (hv.keep hA (Nat.le_refl _))
 have HB:=Lib.hid (Bx.new w (.slice ad1 n1 c1) (.string x) 24)
 have HW:=Lib.hid hA
 have HCK:Hid (checkErr x (tms q)=0):=Lib.hid (by rw [← hx];exact checkErr_fo hc hq)
 have HTS:Hid (∀ t∈tms q,t.2.size≤100000):=Lib.hid (fun t ht=>by
  obtain ⟨p,hp,rfl⟩:=List.mem_map.1 ht
  have:=txt_size (hq.1 p hp).2.1
  dsimp only;omega)
 have HSS:Hid (∀ s∈valsQ vs,s.size≤100000):=Lib.hid (fun s hs=>by
  obtain ⟨p,hp,rfl⟩:=List.mem_map.1 hs
  have:=txt_size (hvs p hp);omega)
 have HSN:Hid ((valsQ vs).any noNum=false):=Lib.hid (valsQ_any hvs)
 have hxs:x.size≤100000:=by rw [← hx];have:=txt_size hc;omega
 have hnn1:n1≤1000:=by omega
 have hnn2:n2≤1000:=by omega
 rw [hx]
 clear hv hv2 hq hc hvs hn hn2 htab hl1 hl2 hA hx
 go_enter Tryz.func22,Tryz.ntmps22
 go_wp2_with fail
 refine (Check_any x ad1 n1 c1 (tms q) 0 _ HV.out hxs HTS.out (by have:=HN.out.1;simp [tms];omega) HCK).mono ?_
 rintro e w1 ⟨rfl,hb⟩
 have HW1:=Lib.hid (HW.out.trans (hb.mono HW.out.size))
 have HB1:=Lib.hid (HB.out.below hb HB.out.lt)
 clear hb
 go_wp2_with fail
 refine (containsNoNum_any _ (valsQ vs) false _ (HS0.out.keep HW1.out (Nat.le_refl _)) HSS.out (by have:=HN.out.2;simp [valsQ];omega) HSN).mono ?_
 rintro e w2 ⟨rfl,hb⟩
 have HW2:=Lib.hid (HW1.out.trans (hb.mono HW1.out.size))
 have HB2:=Lib.hid (HB1.out.below hb HB1.out.lt)
 clear hb
 obtain ⟨b0,b1,b2,b3⟩:=HB2.out.cell
 by_cases h0:n1=0
 · have hq0:q=[]:=List.length_eq_zero_iff.1 (HL.out.1.symm.trans h0)
   have hse:s=x∧ec=0:=by
    have h:=hr.out
    unfold EvalIs at h
    rw [hq0,if_neg (by simp)] at h
    simp only [evalQ] at h
    rw [HX.out] at h;exact h
   obtain ⟨rfl,rfl⟩:=hse
   subst h0
   clear hq0 hr
   go_wp2
   go_loopw [41,7] (fun i t wr=>i = .int .i64 0∧t = .string s∧w2=wr) (fun _ _ _=>0)
   case atStart=>exact ⟨rfl,rfl,rfl⟩
   case round =>
    obtain ⟨rfl,rfl,rfl⟩:=hrel
    go_wp2
    go_ret2
    exact ⟨rfl,HW2.out⟩
 · have hg0:decide (0<n1)=true:=decide_eq_true (Nat.pos_of_ne_zero h0)
   have hqm:q.length=(n1-1)+1:=by rw [← HL.out.1];omega
   obtain ⟨ad',n',cap',e1,e2,hv⟩:=HV0.out
   cases e1
   clear e2
   obtain ⟨g,off,rfl,hg,hcc⟩:∃ g off,ad1=some ⟨g,off,none⟩∧g<w.heap.size∧∀ (i:Nat) (h:i<(tms q).length),w.cell? ⟨g,off+i*2,none⟩=some (.int .i64 (tms q)[i].1)∧w.cell? ⟨g,off+i*2+1,none⟩=some (.string (tms q)[i].2):=by
    rcases hv with h | h
    · omega
    · exact h
   have HCC:=Lib.hid (And.intro hg hcc)
   have hlast:=(hcc (n1-1) (by simp [tms];omega)).1
   have ek:((tms q)[n1-1]'(by simp [tms];omega)).1=(q[n1-1]'(by omega)).1:=by simp [tms]
   rw [ek] at hlast
   obtain ⟨lc,hlc⟩:∃ lc,(q[n1-1]'(by omega)).1=lc:=⟨_,rfl⟩
   rw [hlc] at hlast
   have hl2:=(HW2.out.cell (p:=⟨g,off+(n1-1)*2,none⟩) hg).trans hlast
   have hbig:=last_big HQ.out.2 (m:=(vs.length:Int)) hqm
   rw [hlc, ← HL.out.2] at hbig
   clear hv hcc ek hlast hqm hlc
   by_cases hlb:(n2:Int)≤lc
   · have hse:s=⟨#[]⟩∧ec=2:=by
      have h:=hr.out
      unfold EvalIs at h
      rw [← HL.out.2,if_pos (hbig.2 hlb)] at h
      exact h
     obtain ⟨rfl,rfl⟩:=hse
     clear hbig hr
     go_wp2
     go_ret2
     exact ⟨rfl,HW2.out⟩
   · have hse:¬ ∃ p∈q,(vs.length:Int)≤p.1:=by rw [← HL.out.2,hbig];exact hlb
     have HSE:=Lib.hid hse
     have hlb2:lc<(n2:Int):=by omega
     obtain ⟨o,ho⟩:∃ o,evalQ qc q (atQ vs)=o:=⟨_,rfl⟩
     have hres:=hr.out
     unfold EvalIs at hres
     rw [if_neg hse,ho] at hres
     have HRES:=Lib.hid hres
     have HO:=Lib.hid ho
     clear hbig hse hres ho hr hlb
     go_wp2
     clear b0 b1 b2 b3 hl2 hg0 hlb2 h0
     go_loopw [41,7] (fun i t wr=>∃ (k:Nat) (tot:Rat) (ts:ByteArray),k≤n1∧i = .int .i64 k∧t = .string ts∧Hid (ts=txt tot∧rshort tot=true∧evalQ tot (q.drop k) (atQ vs)=o)∧Hid (Below w.heap.size w wr)) (fun i _ _=>n1-(intOf i).toNat)
     case atStart=>exact ⟨0,qc,x,Nat.zero_le _,rfl,rfl,Lib.hid ⟨HX.out.symm,HRC.out,HO.out⟩,HW2⟩
     case round =>
      obtain ⟨k,tot,ts,hk,rfl,rfl,HA,HWk⟩:=hrel
      by_cases hlt:k<n1
      · have hkq:k<q.length:=by rw [← HL.out.1];exact hlt
        obtain ⟨p,hp⟩:∃ p,q[k]=p:=⟨_,rfl⟩
        have hmem:p∈q:=by rw [← hp];exact List.getElem_mem hkq
        obtain ⟨hcol,hsh,hnz⟩:=HQ.out.1 p hmem
        have hj:¬ (vs.length:Int)≤p.1:=fun h=>HSE.out ⟨p,hmem,h⟩
        obtain ⟨j,hpj⟩:∃ j:Nat,p.1=(j:Int):=⟨p.1.toNat,by rw [Int.toNat_of_nonneg hcol.1]⟩
        have hjv:j<vs.length:=by omega
        obtain ⟨hcell0,hcell1⟩:=HCC.out.2 k (by simpa [tms] using hkq)
        have ek:(tms q)[k]'(by simpa [tms] using hkq)=(p.1,txt p.2):=by simp [tms,hp]
        rw [ek] at hcell0 hcell1
        have hd0:=(HWk.out.cell (p:=⟨g,off+k*2,none⟩) HCC.out.1).trans hcell0
        have hd1:=(HWk.out.cell (p:=⟨g,off+k*2+1,none⟩) HCC.out.1).trans hcell1
        obtain ⟨z,hz⟩:∃ z,txt p.2=z:=⟨_,rfl⟩
        dsimp only at hd0 hd1
        rw [hpj] at hd0
        rw [hz] at hd1
        obtain ⟨ad',n',cap',e1,e2,hv⟩:=(HS0.out.keep HWk.out (Nat.le_refl _))
        cases e1
        clear e2
        obtain ⟨g2,off2,rfl,hg2,hc2⟩:∃ g2 off2,ad2=some ⟨g2,off2,none⟩∧g2<wr.heap.size∧∀ (i:Nat) (h:i<(valsQ vs).length),wr.cell? ⟨g2,off2+i,none⟩=some (.string (valsQ vs)[i]):=by
         rcases hv with h | h
         · have:=HL.out.2;omega
         · exact h
        have hy:=hc2 j (by simpa [valsQ] using hjv)
        obtain ⟨v,hvv⟩:∃ v,vs[j]=v:=⟨_,rfl⟩
        have ey:(valsQ vs)[j]'(by simpa [valsQ] using hjv)=txt v:=by simp [valsQ,hvv]
        obtain ⟨y,hyy⟩:∃ y,txt v=y:=⟨_,rfl⟩
        rw [ey,hyy] at hy
        have hvsh:rshort v=true:=by rw [← hvv];exact HVS.out _ (List.getElem_mem hjv)
        have hat:atQ vs p.1=v:=by unfold atQ;rw [hpj];simp [hjv,hvv]
        have hdrop:q.drop k=p::q.drop (k+1):=by rw [List.drop_eq_getElem_cons hkq,hp]
        have hev:=HA.out.2.2
        rw [hdrop] at hev
        unfold evalQ at hev
        rw [hat] at hev
        have hA:=(Below.refl wr.heap.size wr).alloc (Nat.le_refl _) (.cells #[.int .i64 (j:Int),.string z] 68)
        have hy2:=(hA.cell (p:=⟨g2,off2+j,none⟩) hg2).trans hy
        have HWA:=Lib.hid (HWk.out.trans (hA.mono HWk.out.size))
        have HEV:=Lib.hid hev
        have HSZ:Hid (z.size≤100000∧y.size≤100000):=Lib.hid ⟨by rw [← hz];have:=txt_size hsh;omega,by rw [← hyy];have:=txt_size hvsh;omega⟩
        have HMUL:=Lib.hid (mulRes hsh hvsh)
        have HZY:=Lib.hid (And.intro hz hyy)
        obtain ⟨c0,c1',c2',c3⟩:=(Bx.new wr (.int .i64 (j:Int)) (.string z) 68).cell
        have h1:(0:Int)≤k:=by omega
        have h2:(k:Int)<n1:=by omega
        have h3:(0:Int)≤j:=by omega
        have h4:(j:Int)<n2:=by have:=HL.out.2;omega
        clear hv hc2 hy ey hvsh hat hdrop hev hA hz hyy hvv hsh hcol hmem hp hcell0 hcell1 ek hj hnz
        by_cases hs1:rshort (p.2*v)=true
        · obtain ⟨z2,hz2⟩:∃ z2,txt (p.2*v)=z2:=⟨_,rfl⟩
          have HM:Hid (OpRes fMul gAdd z y z2 0):=Lib.hid (by rw [← HZY.out.1, ← HZY.out.2, ← hz2];exact HMUL.out.1 hs1)
          have HADD:=Lib.hid (addRes HA.out.2.1 hs1)
          have HZ2:=Lib.hid hz2
          have HS1:=Lib.hid hs1
          have hz2s:z2.size≤100000:=by rw [← hz2];have:=txt_size hs1;omega
          have HTS1:Hid (ts.size≤100000):=Lib.hid (by rw [HA.out.1];have:=txt_size HA.out.2.1;omega)
          clear hz2 hs1
          go_wp2_with fail
          go_region_held3 (fun w'=>w'.cell? ⟨wr.heap.size,0,none⟩=some (.int .i64 (j:Int))∧w'.cell? ⟨wr.heap.size,1,none⟩=some (.string z)∧w'.cell? ⟨g2,off2+j,none⟩=some (.string y)) (first | ((try dsimp only);(repeat' apply And.intro);all_goals with_reducible assumption) | go_keep) (first | (go_at_call 55;refine (qMul_any z y z2 0 _ HM HSZ.out.1 HSZ.out.2 (by first | exact tab_keep HT.out HWA.out | exact tab_keep HT.out (Bel.drewN HWA.out _) | exact tab_keep HT.out HWA.out.drew)).mono ?_;rintro e w3 ⟨rfl,hb⟩;have hW3:=HWA.out.drew.trans (hb.mono HWA.out.size);have k0:=(hb.cell (p:=⟨wr.heap.size,0,none⟩) (by simp)).trans c0;have k1:=(hb.cell (p:=⟨wr.heap.size,1,none⟩) (by simp)).trans c1';have k2:=(hb.cell (p:=⟨g2,off2+j,none⟩) (by simp;omega)).trans hy2;clear c0 c1' hy2))
          have HW3:=Lib.hid hW3
          clear hW3 hb k0 k1 k2
          go_wp2_with fail
          by_cases hs2:rshort (tot+p.2*v)=true
          · obtain ⟨z3,hz3⟩:∃ z3,txt (tot+p.2*v)=z3:=⟨_,rfl⟩
            have HA2:Hid (OpRes fAdd gAdd ts z2 z3 0):=Lib.hid (by rw [HA.out.1, ← HZ2.out, ← hz3];exact HADD.out.1 hs2)
            have HEV2:Hid (evalQ (tot+p.2*v) (q.drop (k+1)) (atQ vs)=o):=Lib.hid (by have h:=HEV.out;rw [HS1.out,hs2] at h;simpa using h)
            have HS2:=Lib.hid (And.intro hz3.symm hs2)
            clear hz3 hs2
            refine (qAdd_any ts z2 z3 0 _ HA2 HTS1.out hz2s (tab_keep HT.out HW3.out)).mono ?_
            rintro e w4 ⟨rfl,hb⟩
            have HW4:=Lib.hid (HW3.out.trans (hb.mono HW3.out.size))
            clear hb
            go_wp2
            go_roundw
            case rel=>exact ⟨k+1,tot+p.2*v,z3,by omega,by go_num,rfl,Lib.hid ⟨HS2.out.1,HS2.out.2,HEV2.out⟩,HW4⟩
            case measure=>simp [intOf];omega
          · have hs3:rshort (tot+p.2*v)=false:=by simpa using hs2
            have HA2:Hid (OpRes fAdd gAdd ts z2 ⟨#[]⟩ 5):=Lib.hid (by rw [HA.out.1, ← HZ2.out];exact HADD.out.2 hs3)
            have ho:o=none:=by have h:=HEV.out;rw [hs3] at h;simpa using h.symm
            have hse:s=⟨#[]⟩∧ec=5:=by have h:=HRES.out;rw [ho] at h;exact h
            obtain ⟨rfl,rfl⟩:=hse
            clear hs2 hs3 ho
            refine (qAdd_any ts z2 ⟨#[]⟩ 5 _ HA2 HTS1.out hz2s (tab_keep HT.out HW3.out)).mono ?_
            rintro e w4 ⟨rfl,hb⟩
            have HW4:=Lib.hid (HW3.out.trans (hb.mono HW3.out.size))
            clear hb
            go_wp2
            go_ret2
            exact ⟨rfl,HW4.out⟩
        · have hs3:rshort (p.2*v)=false:=by simpa using hs1
          have HM:Hid (OpRes fMul gAdd z y ⟨#[]⟩ 5):=Lib.hid (by rw [← HZY.out.1, ← HZY.out.2];exact HMUL.out.2 hs3)
          have ho:o=none:=by have h:=HEV.out;rw [hs3] at h;simpa using h.symm
          have hse:s=⟨#[]⟩∧ec=5:=by have h:=HRES.out;rw [ho] at h;exact h
          obtain ⟨rfl,rfl⟩:=hse
          clear hs1 hs3 ho
          go_wp2_with fail
          go_region_held3 (fun w'=>w'.cell? ⟨wr.heap.size,0,none⟩=some (.int .i64 (j:Int))∧w'.cell? ⟨wr.heap.size,1,none⟩=some (.string z)∧w'.cell? ⟨g2,off2+j,none⟩=some (.string y)) (first | ((try dsimp only);(repeat' apply And.intro);all_goals with_reducible assumption) | go_keep) (first | (go_at_call 55;refine (qMul_any z y ⟨#[]⟩ 5 _ HM HSZ.out.1 HSZ.out.2 (by first | exact tab_keep HT.out HWA.out | exact tab_keep HT.out (Bel.drewN HWA.out _) | exact tab_keep HT.out HWA.out.drew)).mono ?_;rintro e w3 ⟨rfl,hb⟩;have hW3:=HWA.out.drew.trans (hb.mono HWA.out.size);have k0:=(hb.cell (p:=⟨wr.heap.size,0,none⟩) (by simp)).trans c0;have k1:=(hb.cell (p:=⟨wr.heap.size,1,none⟩) (by simp)).trans c1';have k2:=(hb.cell (p:=⟨g2,off2+j,none⟩) (by simp;omega)).trans hy2;clear c0 c1' hy2))
          have HW3:=Lib.hid hW3
          clear hW3 hb k0 k1 k2
          go_wp2
          go_ret2
          exact ⟨rfl,HW3.out⟩
      · obtain rfl:k=n1:=by omega
        have ho:o=some tot:=by
         have h:=HA.out.2.2
         rw [List.drop_of_length_le (by rw [← HL.out.1];exact Nat.le_refl _)] at h
         exact h.symm
        have hse:s=txt tot∧ec=0:=by have h:=HRES.out;rw [ho] at h;exact h
        obtain ⟨e1,rfl⟩:=hse
        obtain rfl:ts=s:=HA.out.1.trans e1.symm
        clear ho e1
        go_wp2
        go_ret2
        exact ⟨rfl,HWk.out⟩
end Go.Proofs.YtkhdocdddicgpaaGreatDoor
set_option linter.unusedVariables false
namespace Go.Proofs.YtkhdocdddicgpaaGreatDoor
open Go.ChangeShapes Go.WideShapes Go.RowKit Go.Deep Go.Joins
set_option maxRecDepth 100000 in
theorem form_arg {H:Type} {enc:TypeId × Value→H} {W:World} {base:Nat} {v:Value} {d:DataW H} {p:List MemPlace}
 (hv:Value.okWide Tryz.prog W .any base 24 v) (h:DataW.Trod enc Tryz.prog W 0 (fun _=>true) true 24 v d p) :
 ∃ (ad:Option Addr) (n cap:Nat) (x:ByteArray) (l:List Tm),v = .agg #[.slice ad n cap,.string x]∧TsAt W (.slice ad n cap) l∧(ad=none→cap=0)∧n≤9223372036854775807:=by
 obtain ⟨v0,v1,y0,y1,k,rfl,_,_,h0,h1⟩:=open_agg2 Tryz.underlying24 (by kernel_rfl) (by kernel_rfl) hv h
 obtain ⟨x,hx,_,_⟩:=DataW.trod_string Tryz.underlying9 h1
 obtain rfl:v1 = .string x:=by simpa using hx
 rcases open_slice_pairs Tryz.underlying22 Tryz.underlying68 (by kernel_rfl) rfl rfl (by kernel_rfl) (by kernel_rfl) h0 with ⟨hcs,_⟩ | ⟨a,len,cap,m,j,V0,V1,D0,D1,P0,P1,hcs,_,hl,hm,hmm,_,hel⟩
 · obtain rfl:v0 = .slice none 0 0:=by simpa using hcs
   exact ⟨none,0,0,x,[],rfl,TsAt.nil W none 0,fun _=>rfl,by omega⟩
 · obtain rfl:v0 = .slice (some a) len cap:=by simpa using hcs
   have hmc:m=cap:=by rw [hmm];rfl
   subst hmc
   have hmx:len≤9223372036854775807:=by unfold maxLen at hm;omega
   have each:∀ i,i<len→∃ t:Tm,W.cell? (a.add (i*2))=some (.int .i64 t.1)∧W.cell? (a.add (i*2+1))=some (.string t.2):=by
    intro i hi
    obtain ⟨e0,e1,t0,t1⟩:=hel i (by omega)
    obtain ⟨z,hz,_,_⟩:=DataW.trod_int Tryz.underlying3 t0
    obtain ⟨y,hy,_,_⟩:=DataW.trod_string Tryz.underlying9 t1
    refine ⟨(z,y),?_,?_⟩
    · rw [e0];simpa using hz
    · rw [e1];simpa using hy
   obtain ⟨q,hq⟩:=choose_lt each
   refine ⟨some a,len,m,x,(List.range len).map q,rfl,⟨_,_,_,rfl,by simp,?_⟩,fun h=>by (cases h),hmx⟩
   by_cases h0:len=0
   · exact .inl h0
   · obtain ⟨b,off,spot⟩:=a
     have hc0:=(hq 0 (by omega)).1
     obtain rfl:spot=none:=by simpa [Addr.add] using World.cell?_spot hc0
     refine .inr ⟨b,off,rfl,World.block_lt_of_cell? _ _ hc0,fun i hi => ?_⟩
     have hi2:i<len:=by simpa using hi
     obtain ⟨e0,e1⟩:=hq i hi2
     rw [add_plain] at e0 e1
     rw [List.getElem_map,List.getElem_range]
     exact ⟨e0,by rw [← Nat.add_assoc] at e1;exact e1⟩
end Go.Proofs.YtkhdocdddicgpaaGreatDoor
set_option linter.unusedVariables false
set_option linter.unusedSimpArgs false
namespace Go.Proofs.YtkhdocdddicgpaaGreatDoor
open Go.RowKit Go.Maps _root_.Go.Proofs.YtkhdocdddicgpaaGreatDoor.Nm
def wo (q:List Qm) (c:Int):List Qm:=q.filter fun p=>decide (p.1≠c)
theorem Fo.wo {q:List Qm} (h:Fo q) (c:Int):Fo (wo q c):=⟨fun p hp=>h.1 p (List.mem_filter.1 hp).1,h.2.filter _⟩
theorem wo_length (q:List Qm) (c:Int):(wo q c).length≤q.length:=List.length_filter_le _ _
theorem wo_none {q:List Qm} {c:Int} (h:∀ p∈q,p.1≠c):wo q c=q:=by
 unfold wo
 rw [List.filter_eq_self]
 intro p hp;simpa using h p hp
theorem wo_at:∀ {q:List Qm} {c:Int} {m:Nat} (hs:q.Pairwise (fun a b=>a.1<b.1)) (hm:m<q.length) (hc:q[m].1=c),wo q c=q.eraseIdx m
 | [],_,_,_,hm,_=>absurd hm (Nat.not_lt_zero _)
 | p::q,c,0,hs,hm,hc=>by
  rw [List.pairwise_cons] at hs
  have hc':p.1=c:=hc
  have e:wo (p::q) c=wo q c:=by unfold wo;rw [List.filter_cons,if_neg (by simp [hc'])]
  rw [e,wo_none (fun x hx=>by have:=hs.1 x hx;omega)]
  rfl
 | p::q,c,m+1,hs,hm,hc=>by
  rw [List.pairwise_cons] at hs
  have hm':m<q.length:=by simpa using hm
  have hc':q[m].1=c:=by simpa using hc
  have hp:p.1≠c:=by have:=hs.1 q[m] (List.getElem_mem hm');omega
  have e:wo (p::q) c=p::wo q c:=by unfold wo;rw [List.filter_cons,if_pos (by simp [hp])]
  rw [e,wo_at hs.2 hm' hc']
  rfl
theorem fcell_alloc {W:World} {b o:Nat} {v:Value} {x:Obj} (h:W.cell? ⟨b,o,none⟩=some v):(W.alloc x).cell? ⟨b,o,none⟩=some v:=Lib.cell?_alloc_some x h
set_option maxRecDepth 100000 in
set_option maxHeartbeats 1600000 in
theorem put1_any (b:Nat) (a c:Int) (s:ByteArray) (r:Bool) (W:World) (hc:W.cell? ⟨b,0,none⟩=some (.int .i64 c)) (hr:Hid ((a==c)=r)) :
 Calls Tryz.prog 61 #[.agg #[.int .i64 a,.string s],.pointer (some ⟨b,0,none⟩)] W fun e W'=>e = .returned (.bool r)∧Below W.heap.size W W':=by
 obtain rfl:=hr.out
 have hb2:=(Bx.new W (.int .i64 a) (.string s) 68).cell
 obtain ⟨d0,d1,d2,d3⟩:=hb2
 have hc2:=fcell_alloc (x := .cells #[.int .i64 a,.string s] 68) hc
 go_enter Tryz.func61,Tryz.ntmps61
 go_wp2
 go_ret
 exact ⟨rfl,(Below.refl _ _).alloc (Nat.le_refl _) _⟩
set_option maxRecDepth 100000 in
set_option maxHeartbeats 3200000 in
theorem indexPut_any (b:Nat) (c:Int) (ad:Option Addr) (n cap:Nat) (q:List Qm) (w:World) (hc:w.cell? ⟨b,0,none⟩=some (.int .i64 c)) (hb:b<w.heap.size) (hv:TsAt w (.slice ad n cap) (tms q)) (hn:q.length≤1000) :
 Calls Tryz.prog 92 #[.slice ad n cap,.func (.func 61) #[] #[.pointer (some ⟨b,0,none⟩)]] w fun e w'=>(∃ i:Int,e = .returned (.int .i64 i)∧((i = -1∧∀ p∈q,p.1≠c)∨∃ (m:Nat) (h:m<q.length),i=m∧q[m].1=c))∧Below w.heap.size w w':=by
 have hlen:n=q.length:=by obtain ⟨_,_,_,e1,e2,_⟩:=hv;cases e1;simpa [tms] using e2
 have HLEN:=Lib.hid (And.intro trivial hlen)
 have hn2:n≤1000:=by omega
 have HV:=Lib.hid hv
 have HC:=Lib.hid hc
 clear hv hlen hc
 go_enter Tryz.func92,Tryz.ntmps92
 go_wp2
 go_loopw [8] (fun i wr=>∃ k:Nat,k≤n∧i = .int .i64 k∧Hid (∀ (j:Nat) (h:j<q.length),j<k→q[j].1≠c)∧Hid (Below w.heap.size w wr)) (fun i _=>n-(intOf i).toNat)
 case atStart=>exact ⟨0,Nat.zero_le _,rfl,Lib.hid (fun j _ h=>absurd h (Nat.not_lt_zero j)),Lib.hid (Below.refl _ _)⟩
 case round =>
  obtain ⟨k,hk,rfl,HA,HW⟩:=hrel
  by_cases hlt:k<n
  · have hkq:k<q.length:=by rw [← HLEN.out.2];exact hlt
    obtain ⟨ad',n',cap',e1,e2,hv⟩:=HV.out
    cases e1
    clear e2
    obtain ⟨g,off,rfl,hg,hcc⟩:∃ g off,ad=some ⟨g,off,none⟩∧g<w.heap.size∧∀ (i:Nat) (h:i<(tms q).length),w.cell? ⟨g,off+i*2,none⟩=some (.int .i64 (tms q)[i].1)∧w.cell? ⟨g,off+i*2+1,none⟩=some (.string (tms q)[i].2):=by
     rcases hv with h | h
     · omega
     · exact h
    obtain ⟨hcell0,hcell1⟩:=hcc k (by simpa [tms] using hkq)
    have ek:(tms q)[k]'(by simpa [tms] using hkq)=(q[k].1,txt q[k].2):=by simp [tms]
    rw [ek] at hcell0 hcell1
    have hd0:=(HW.out.cell (p:=⟨g,off+k*2,none⟩) hg).trans hcell0
    have hd1:=(HW.out.cell (p:=⟨g,off+k*2+1,none⟩) hg).trans hcell1
    obtain ⟨col,hcol⟩:∃ col,q[k].1=col:=⟨_,rfl⟩
    obtain ⟨x,hx⟩:∃ x,txt q[k].2=x:=⟨_,rfl⟩
    dsimp only at hd0 hd1
    rw [hcol] at hd0
    rw [hx] at hd1
    have HCOL:=Lib.hid hcol
    have hcw:=(HW.out.cell (p:=⟨b,0,none⟩) hb).trans HC.out
    have HCW:=Lib.hid hcw
    have h1:(0:Int)≤k:=by omega
    have h2:(k:Int)<n:=by omega
    clear hv hcc hcell0 hcell1 ek hcol hx hcw
    by_cases he:col=c
    · have HR:Hid ((col==c)=true):=Lib.hid (by simpa using he)
      have HE:=Lib.hid he
      clear he
      go_wp2_with fail
      refine (put1_any b col c x true _ HCW.out HR).mono ?_
      rintro e w1 ⟨rfl,hb1⟩
      have HW1:=Lib.hid (HW.out.trans (hb1.mono HW.out.size))
      clear hb1
      go_wp2
      go_ret
      exact ⟨⟨(k:Int),rfl,.inr ⟨k,hkq,rfl,by rw [HCOL.out,HE.out]⟩⟩,HW1.out⟩
    · have HR:Hid ((col==c)=false):=Lib.hid (by simpa using he)
      have HA2:Hid (∀ (j:Nat) (h:j<q.length),j<k+1→q[j].1≠c):=Lib.hid (fun j h hj=>by
       rcases Nat.lt_or_ge j k with h3 | h3
       · exact HA.out j h h3
       · obtain rfl:j=k:=by omega
         rw [HCOL.out];exact he)
      clear he
      go_wp2_with fail
      refine (put1_any b col c x false _ HCW.out HR).mono ?_
      rintro e w1 ⟨rfl,hb1⟩
      have HW1:=Lib.hid (HW.out.trans (hb1.mono HW.out.size))
      clear hb1
      go_wp2
      go_roundw
      case rel=>exact ⟨k+1,by omega,by go_num,HA2,HW1⟩
      case measure=>simp [intOf];omega
  · obtain rfl:k=n:=by omega
    go_wp2
    go_ret
    refine ⟨⟨-1,rfl,.inl ⟨rfl,fun p hp => ?_⟩⟩,HW.out⟩
    obtain ⟨j,hj,rfl⟩:=List.mem_iff_getElem.1 hp
    exact HA.out j hj (by rw [HLEN.out.2];exact hj)
set_option maxRecDepth 100000 in
set_option maxHeartbeats 3200000 in
theorem cloneT_any (ad:Option Addr) (n cap:Nat) (q:List Qm) (w:World) (hv:TsAt w (.slice ad n cap) (tms q)) (hn:q.length≤1000) (hz:ad=none→cap=0) :
 Calls Tryz.prog 60 #[.slice ad n cap] w fun e w'=>∃ ad' cap',e = .returned (.slice ad' n cap')∧w'.ownsRow w.heap.size 68 2 (.slice ad' n cap') n (flatT q)∧Below w.heap.size w w':=by
 obtain ⟨i0,hi,hz0,hy1,hy2⟩:=info_parts infoTm
 have HI:=Lib.hid hi
 have HZ0:=Lib.hid hz0
 have HY1:=Lib.hid hy1
 have HY2:=Lib.hid hy2
 have hlen:n=q.length:=by obtain ⟨_,_,_,e1,e2,_⟩:=hv;cases e1;simpa [tms] using e2
 have HLEN:=Lib.hid (And.intro trivial hlen)
 have HV:=Lib.hid hv
 have hn2:n≤1000:=by omega
 have q22:∀ (w:World) (a:Option Addr) (n c n' c':Nat),(binOp .eql 22 (.slice a n c) (.slice none n' c')).run Tryz.prog w = .ok (.bool a.isNone) w:=fun w a n c n' c'=>Lib.run_eql_slice_nil w _ _ a n c n' c' Tryz.underlying22
 clear hi hz0 hy1 hy2 hv
 cases ad with
 | none =>
  obtain rfl:=hz rfl
  obtain rfl:n=0:=by
   obtain ⟨_,_,_,e1,_,h⟩:=HV.out
   cases e1
   rcases h with h | ⟨_,_,h,_⟩
   · exact h
   · cases h
  have hq0:q=[]:=List.length_eq_zero_iff.1 hlen.symm
  subst hq0
  clear hlen
  go_enter Tryz.func60,Tryz.ntmps60
  go_wp2
  go_ret
  exact ⟨none,0,rfl,⟨rfl,.inl ⟨rfl,rfl⟩⟩,Below.refl _ _⟩
 | some a =>
  have hA:=(Below.refl w.heap.size w).alloc (Nat.le_refl _) (.cells #[] 68)
  have hrow:(w.alloc (.cells #[] 68)).ownsRow w.heap.size 68 2 (.slice (some ⟨w.heap.size,0,none⟩) 0 0) 0 []:=⟨rfl,.inr ⟨w.heap.size,0,_,rfl,Nat.le_refl _,heap_alloc_new _ _,Nat.zero_le _,by unfold maxLen;omega,rfl,rfl⟩⟩
  have HROW:=Lib.hid hrow
  have HA:=Lib.hid hA
  have HV2:=Lib.hid (HV.out.keep hA (Nat.le_refl _))
  have HRC:Hid (∀ j u,(flatT q)[j]?=some u→(w.alloc (.cells #[] 68)).cell? (a.add j)=some u):=Lib.hid (by
   obtain ⟨_,_,_,e1,_,h⟩:=HV2.out
   cases e1
   rcases h with h | ⟨g,o,h,_⟩
   · have hq2:q=[]:=List.length_eq_zero_iff.1 (hlen.symm.trans h)
     intro j u hj;rw [hq2] at hj;simp [flatT] at hj
   · cases h;exact rowCells HV2.out)
  have HFL:Hid ((flatT q).length=n*2):=Lib.hid (by rw [flatT_length, ← hlen])
  have hws:w.heap.size≤(w.alloc (.cells #[] 68)).heap.size:=hA.size
  clear hA hrow hlen
  go_enter Tryz.func60,Tryz.ntmps60
  go_wp2_with (first | (at_builtin;refine wpList_append_own _ rfl _ _ 22 rfl w.heap.size 68 i0 (.agg #[.int .i64 0,.string ⟨#[]⟩]) 2 24 Tryz.underlying22 HI.out HZ0.out HY1.out HY2.out rfl (by decide) _ _ _ rfl HROW.out a n cap (flatT q) rfl HFL.out HRC.out (flatT_one _) (by unfold maxLen;omega) (by omega) hws ?_;intro v' w2 hown' hgrow _;refine hold ?_))
  have HB2:=Lib.hid (HA.out.grown hgrow hws (fun j hj=>(HROW.out.lt j hj).1))
  have hown2:w2.ownsRow w.heap.size 68 2 v' n (flatT q):=by simpa using hown'
  obtain ⟨ad3,cap3,rfl⟩:∃ ad3 cap3,v' = .slice ad3 n cap3:=by
   rcases hown2.2 with ⟨h,h0⟩ | ⟨g,c,cur,h,_⟩
   · exact ⟨none,0,by rw [h0];exact h⟩
   · exact ⟨_,_,h⟩
  have HR2:=Lib.hid hown2
  clear hown' hown2 hgrow
  refine go_on ?_
  go_wp2
  go_ret
  exact ⟨_,_,rfl,HR2.out,HB2.out⟩
end Go.Proofs.YtkhdocdddicgpaaGreatDoor
set_option linter.unusedVariables false
set_option linter.unusedSimpArgs false
namespace Go.Proofs.YtkhdocdddicgpaaGreatDoor
open Go.RowKit Go.Maps _root_.Go.Proofs.YtkhdocdddicgpaaGreatDoor.Nm
def RowF (W:World) (g n:Nat) (f:Nat→Qm):Prop:=g<W.heap.size∧∀ t,t<n→(W.cell? ⟨g,t*2,none⟩=some (.int .i64 (f t).1)∧W.cell? ⟨g,t*2+1,none⟩=some (.string (txt (f t).2)))∧W.frozen? ⟨g,t*2,none⟩=false∧W.frozen? ⟨g,t*2+1,none⟩=false
theorem froz_of_block {w W':World} {p:Addr} (h:W'.heap[p.block]?=w.heap[p.block]?):W'.frozen? p=w.frozen? p:=by
 unfold World.frozen?
 rw [h]
theorem RowF.below {W W':World} {g n:Nat} {f:Nat→Qm} (h:RowF W g n f) (hb:Below W.heap.size W W'):RowF W' g n f :=
 ⟨Nat.lt_of_lt_of_le h.1 hb.size,fun t ht=>⟨⟨(hb.cell (p:=⟨g,t*2,none⟩) h.1).trans (h.2 t ht).1.1,(hb.cell (p:=⟨g,t*2+1,none⟩) h.1).trans (h.2 t ht).1.2⟩,
  (froz_of_block (p:=⟨g,t*2,none⟩) (hb.block g h.1)).trans (h.2 t ht).2.1,(froz_of_block (p:=⟨g,t*2+1,none⟩) (hb.block g h.1)).trans (h.2 t ht).2.2⟩⟩
theorem RowF.alloc {W:World} {g n:Nat} {f:Nat→Qm} (h:RowF W g n f) (o:Obj):RowF (W.alloc o) g n f:=h.below ((Below.refl _ _).alloc (Nat.le_refl _) o)
theorem cell_ne (W:World) (g i j:Nat) (u:Value) (h:i≠j):(W.setCell ⟨g,i,none⟩ u).cell? ⟨g,j,none⟩=W.cell? ⟨g,j,none⟩:=World.cell?_setCell_other W ⟨g,i,none⟩ ⟨g,j,none⟩ u (by intro e;exact h (by cases e;rfl))
theorem RowF.set {W:World} {g n i:Nat} {f:Nat→Qm} (h:RowF W g n f) (hi:i<n) (p:Qm):RowF ((W.setCell ⟨g,i*2,none⟩ (.int .i64 p.1)).setCell ⟨g,i*2+1,none⟩ (.string (txt p.2))) g n (fun t=>if t=i then p else f t):=by
 obtain ⟨⟨c0,c1⟩,f0,f1⟩:=h.2 i hi
 refine ⟨by simpa [World.setCell] using h.1,fun t ht => ?_⟩
 obtain ⟨⟨d0,d1⟩,e0,e1⟩:=h.2 t ht
 refine ⟨?_,by rw [World.frozen?_setCell,World.frozen?_setCell];exact e0,by rw [World.frozen?_setCell,World.frozen?_setCell];exact e1⟩
 by_cases e:t=i
 · subst e
   rw [show (fun t_1=>if t_1=t then p else f t_1) t=p from if_pos rfl]
   refine ⟨?_,?_⟩
   · rw [cell_ne _ _ _ _ _ (by omega)]
     exact World.cell?_setCell_same' _ _ _ (by rw [c0];rfl)
   · exact World.cell?_setCell_same' _ _ _ (by rw [cell_ne _ _ _ _ _ (by omega),c1];rfl)
 · rw [show (fun t=>if t=i then p else f t) t=f t from if_neg e]
   refine ⟨?_,?_⟩
   · rw [cell_ne _ _ _ _ _ (by omega),cell_ne _ _ _ _ _ (by omega)];exact d0
   · rw [cell_ne _ _ _ _ _ (by omega),cell_ne _ _ _ _ _ (by omega)];exact d1
theorem RowF.row {W:World} {B g n cap:Nat} {q:List Qm} (h:W.ownsRow B 68 2 (.slice (some ⟨g,0,none⟩) n cap) n (flatT q)) (hn:n=q.length):RowF W g n (fun t=>q[t]?.getD (0,0))∧n≤cap∧cap≤maxLen∧B≤g:=by
 obtain ⟨h1,h2⟩:=h
 rcases h2 with ⟨h,_⟩ | ⟨g,cap',cur,h3,h4,h5,h6,h7,h8,h9⟩
 · cases h
 · cases h3
   refine ⟨⟨(Array.getElem?_eq_some_iff.1 h5).1,fun t ht => ?_⟩,h6,h7,h4⟩
   have ht':t<q.length:=by omega
   have hg:=flatT_get q t ht'
   have hcur:∀ (j:Nat),j<n*2→cur[j]?=(flatT q)[j]?:=fun j hj=>by
    rw [← h9,List.getElem?_take,if_pos hj];simp
   have e:q[t]?.getD (0,0)=q[t]:=by simp [ht']
   rw [show (fun t=>q[t]?.getD (0,0)) t=q[t] from e]
   refine ⟨⟨?_,?_⟩,?_,?_⟩
   · simp only [World.cell?,h5]
     rw [← hg.1, ← hcur _ (by omega)];simp
   · simp only [World.cell?,h5]
     rw [← hg.2, ← hcur _ (by omega)];simp
   · simp [World.frozen?,h5]
   · simp [World.frozen?,h5]
theorem RowF.terms {W:World} {g n cap:Nat} {f:Nat→Qm} {q:List Qm} (h:RowF W g n f) (hn:q.length≤n) (hq:∀ (t:Nat) (h:t<q.length),f t=q[t]):TsAt W (.slice (some ⟨g,0,none⟩) q.length cap) (tms q):=by
 refine ⟨_,_,_,rfl,by simp [tms],.inr ⟨g,0,rfl,h.1,fun i hi => ?_⟩⟩
 have hi':i<q.length:=by simpa [tms] using hi
 have e3:(tms q)[i]=(q[i].1,txt q[i].2):=by simp [tms]
 have h1:=(h.2 i (by omega)).1
 rw [hq i hi'] at h1
 rw [e3,Nat.zero_add];exact h1
theorem run_clear_terms (wr:World) (ty:TypeId) (b o n c:Nat) (u v:Value) (hn:n=1) (c0:wr.cell? ⟨b,o,none⟩=some u) (c1:wr.cell? ⟨b,o+1,none⟩=some v) (f0:wr.frozen? ⟨b,o,none⟩=false) (f1:wr.frozen? ⟨b,o+1,none⟩=false) :
 (Builtin.clear_ #[22] ty #[.slice (some ⟨b,o,none⟩) n c]).run Tryz.prog wr = .ok (.tuple #[]) ((wr.setCell ⟨b,o,none⟩ (.int .i64 0)).setCell ⟨b,o+1,none⟩ (.string ⟨#[]⟩)):=by
 subst hn
 have hst:=run_storeCells_cells (P:=Tryz.prog) b o [.int .i64 0,.string ⟨#[]⟩] 0 wr (fun j hj=>by
  match j,hj with
  | 0,_=>simp [c0]
  | 1,_=>simp [c1]) (fun j hj=>by
  match j,hj with
  | 0,_=>simpa using f0
  | 1,_=>simpa using f1) (by intro v hv;simp at hv;rcases hv with rfl | rfl <;> rfl)
 have hz:(zeroValue 68).run Tryz.prog wr = .ok (.agg #[.int .i64 0,.string ⟨#[]⟩]) wr:=by kernel_rfl
 have hzc:(Builtin.zeroCells #[.int .i64 0,.string ⟨#[]⟩] 1).toList=[.int .i64 0,.string ⟨#[]⟩]:=by kernel_rfl
 simp only [Nat.add_zero] at hst
 simp [Builtin.clear_,run_underlying Tryz.underlying22,hz,Value.cells,hzc,hst,World.setCells]
set_option maxRecDepth 100000 in
set_option maxHeartbeats 6400000 in
theorem delete_any (b B:Nat) (c:Int) (ad:Option Addr) (n cap:Nat) (q:List Qm) (w:World) (hrow:w.ownsRow B 68 2 (.slice ad n cap) n (flatT q)) (hc:w.cell? ⟨b,0,none⟩=some (.int .i64 c)) (hb:b<B) (hs:q.Pairwise (fun a b=>a.1<b.1)) (hn:n=q.length) (hl:q.length≤1000) (hB:B≤w.heap.size) :
 Calls Tryz.prog 59 #[.slice ad n cap,.func (.func 61) #[] #[.pointer (some ⟨b,0,none⟩)]] w fun e w'=>∃ n' ,e = .returned (.slice ad n' cap)∧TsAt w' (.slice ad n' cap) (tms (wo q c))∧Below B w w':=by
 have hts:TsAt w (.slice ad n cap) (tms q):=terms_of_row (by rw [← hn];exact hrow) hn
 have HTS:=Lib.hid hts
 have HS:=Lib.hid hs
 have HLEN:=Lib.hid (And.intro hn hl)
 have HROW:=Lib.hid hrow
 have hbw:b<w.heap.size:=by omega
 have HIX:=Lib.hid (indexPut_any b c ad n cap q w hc hbw hts hl)
 have HC:=Lib.hid hc
 have HBW:=Lib.hid hB
 clear hrow hs hn hts hc hB hl
 go_enter Tryz.func59,Tryz.ntmps59
 go_wp2_with fail
 refine HIX.out.mono ?_
 rintro e w1 ⟨⟨i,rfl,hi⟩,hb1⟩
 have HB1:=Lib.hid hb1
 have HW1:=Lib.hid (hb1.mono HBW.out)
 clear hb1 HIX
 rcases hi with ⟨rfl,hnone⟩ | ⟨m,hm,rfl,hcm⟩
 · have HN:=Lib.hid hnone
   clear hnone
   go_wp2
   go_ret
   exact ⟨n,rfl,by rw [wo_none HN.out];exact HTS.out.keep HB1.out (Nat.le_refl _),HW1.out⟩
 · have hn1:n≤1000:=by rw [HLEN.out.1];exact HLEN.out.2
   have hmn:m<n:=by rw [HLEN.out.1];exact hm
   obtain ⟨g,rfl⟩:∃ g,ad=some ⟨g,0,none⟩:=by
    rcases HROW.out.2 with ⟨h,h0⟩ | ⟨g,c,cur,h,_⟩
    · omega
    · cases h;exact ⟨g,rfl⟩
   obtain ⟨hrf,hncap,hcapm,hBg⟩:=RowF.row HROW.out HLEN.out.1
   have HCM:=Lib.hid (And.intro hm hcm)
   have HRF1:=Lib.hid (hrf.below HB1.out)
   have HBG:=Lib.hid hBg
   have hne1:((m:Int) == -1)=false:=beq_eq_false_iff_ne.2 (by omega)
   have HCAP:=Lib.hid hcapm
   have hcap1:cap≤9223372036854775807:=by have:=HCAP.out;unfold maxLen at this;omega
   clear hrf hcm hBg hcapm
   go_wp2
   go_loopw [5,6,7] (fun s5 s6 s7 wr=>∃ (i j:Nat) (f:Nat→Qm),s5 = .int .i64 i∧s6 = .int .i64 j∧i+1=j∧m<j∧j≤n∧Hid (RowF wr g n f)∧Hid (∀ t,t<i→f t=(wo q c)[t]?.getD (0,0))∧Hid (∀ (t:Nat) (h:t<q.length),j≤t→f t=q[t])∧Hid (Below B w wr)) (fun _ s6 _ _=>n-(intOf s6).toNat)
   case atStart =>
    refine ⟨m,m+1,_,rfl,by go_num,rfl,Nat.lt_succ_self m,hmn,HRF1,Lib.hid (fun t ht => ?_),Lib.hid (fun t h _=>by simp [h]),HW1⟩
    rw [wo_at HS.out HCM.out.1 HCM.out.2]
    have h1:t<q.length:=by omega
    have h2:t<(q.eraseIdx m).length:=by rw [List.length_eraseIdx_of_lt HCM.out.1];have:=HCM.out.1;omega
    simp only [List.getElem?_eq_getElem h1,List.getElem?_eq_getElem h2,Option.getD_some]
    rw [List.getElem_eraseIdx,dif_pos ht]
   case round =>
    obtain ⟨i,j,f,rfl,rfl,hij,hmj,hjn,HR,HLO,HHI,HW⟩:=hrel
    by_cases hlt:j<n
    · have hjq:j<q.length:=by rw [← HLEN.out.1];exact hlt
      obtain ⟨⟨hd0,hd1⟩,_,_⟩:=HR.out.2 j hlt
      rw [HHI.out j hjq (Nat.le_refl _)] at hd0 hd1
      obtain ⟨col,hcol⟩:∃ col,q[j].1=col:=⟨_,rfl⟩
      obtain ⟨x,hx⟩:∃ x,txt q[j].2=x:=⟨_,rfl⟩
      rw [hcol] at hd0
      rw [hx] at hd1
      have HCX:=Lib.hid (And.intro hcol hx)
      have hne:col≠c:=by
       have h:=List.pairwise_iff_getElem.1 HS.out m j HCM.out.1 hjq hmj
       rw [HCM.out.2] at h
       rw [← hcol];omega
      have HRB:Hid ((col==c)=false):=Lib.hid (by simpa using hne)
      have HRA:=Lib.hid (HR.out.alloc (.cells #[.int .i64 col,.string x] 68))
      have hcw:=(HW.out.cell (p:=⟨b,0,none⟩) hb).trans HC.out
      have HCW:=Lib.hid (fcell_alloc (x := .cells #[.int .i64 col,.string x] 68) hcw)
      have HBX:=Lib.hid (Bx.new wr (.int .i64 col) (.string x) 68)
      have HWA:=Lib.hid (HW.out.alloc (Nat.le_trans HBW.out HW.out.size) (.cells #[.int .i64 col,.string x] 68))
      obtain ⟨k0,k1,k2,k3⟩:=HBX.out.cell
      have h1:(0:Int)≤j:=by omega
      have h2:(j:Int)<n:=by omega
      have h3:(0:Int)≤i:=by omega
      have h4:(i:Int)<n:=by omega
      clear hcol hx hne hcw
      go_wp2_with fail
      refine (put1_any b col c x false _ HCW.out HRB).mono ?_
      rintro e w2 ⟨rfl,hb2⟩
      have HW2:=Lib.hid (HWA.out.trans (hb2.mono (Nat.le_trans HBW.out HWA.out.size)))
      have HR2:=Lib.hid (HRA.out.below hb2)
      obtain ⟨l0,l1,l2,l3⟩:=(HBX.out.below hb2 HBX.out.lt).cell
      obtain ⟨⟨o0,o1⟩,o2,o3⟩:=HR2.out.2 i (by omega)
      clear hb2 k0 k1 k2 k3 hd0 hd1
      go_wp2
      have hiq:i<(q.eraseIdx m).length:=by rw [List.length_eraseIdx_of_lt HCM.out.1];omega
      have hwo:(wo q c)[i]?.getD (0,0)=q[j]:=by
       rw [wo_at HS.out HCM.out.1 HCM.out.2,List.getElem?_eq_getElem hiq,Option.getD_some,List.getElem_eraseIdx,dif_neg (by omega)]
       congr 1
      go_roundw
      case rel =>
       refine ⟨i+1,j+1,_,by go_num,by go_num,by omega,by omega,by omega,Lib.hid (by have h:=HR2.out.set (i:=i) (by omega) q[j];rw [HCX.out.1,HCX.out.2] at h;exact h),Lib.hid (fun t ht => ?_),Lib.hid (fun t h ht => ?_),Lib.hid ((HW2.out.setCell (p:=⟨g,i*2,none⟩) HBG.out _).setCell (p:=⟨g,i*2+1,none⟩) HBG.out _)⟩
       · by_cases e:t=i
         · subst e;rw [hwo];exact if_pos rfl
         · exact (if_neg e).trans (HLO.out t (by omega))
       · exact (if_neg (by omega)).trans (HHI.out t h (by omega))
      case measure=>simp [intOf];omega
    · obtain rfl:j=n:=by omega
      obtain ⟨⟨o0,o1⟩,o2,o3⟩:=HR.out.2 i (by omega)
      have hcl:∀ ty,(Builtin.clear_ #[22] ty #[.slice (some ⟨g,i*2,none⟩) (j-i) (cap-i)]).run Tryz.prog wr = .ok (.tuple #[]) ((wr.setCell ⟨g,i*2,none⟩ (.int .i64 0)).setCell ⟨g,i*2+1,none⟩ (.string ⟨#[]⟩)) :=
       fun ty=>run_clear_terms wr ty g (i*2) (j-i) (cap-i) _ _ (by omega) o0 o1 o2 o3
      have h3:(0:Int)≤i:=by omega
      have h4:(i:Int)≤j:=by omega
      have h5:(i:Int)≤cap:=by omega
      have hlw:(wo q c).length=i:=by rw [wo_at HS.out HCM.out.1 HCM.out.2,List.length_eraseIdx_of_lt HCM.out.1];have:=HLEN.out.1;omega
      have HLW:=Lib.hid hlw
      clear o0 o1 o2 o3 hlw
      go_wp2
      go_ret
      refine ⟨i,rfl,?_,(HW.out.setCell (p:=⟨g,i*2,none⟩) HBG.out _).setCell (p:=⟨g,i*2+1,none⟩) HBG.out _⟩
      have h:=HR.out.set (i:=i) (by omega) (0,0)
      have ht:=RowF.terms (W:=wr) (cap:=cap) (q:=wo q c) HR.out (by rw [HLW.out];omega) (fun t ht=>by
       rw [HLO.out t (by rw [← HLW.out];exact ht)];simp [ht])
      rw [HLW.out] at ht
      obtain ⟨_,_,_,e1,e2,e3⟩:=ht
      cases e1
      refine ⟨_,_,_,rfl,e2,?_⟩
      rcases e3 with e3 | ⟨b,o,e3,e4,e5⟩
      · exact .inl e3
      · cases e3
        have hl:(tms (wo q c)).length=i:=by simp [tms,HLW.out]
        refine .inr ⟨g,0,rfl,by simpa [World.setCell] using e4,fun t ht=>⟨?_,?_⟩⟩
        · rw [cell_ne _ _ _ _ _ (by omega),cell_ne _ _ _ _ _ (by omega)];exact (e5 t ht).1
        · rw [cell_ne _ _ _ _ _ (by omega),cell_ne _ _ _ _ _ (by omega)];exact (e5 t ht).2
end Go.Proofs.YtkhdocdddicgpaaGreatDoor
