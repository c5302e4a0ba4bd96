/- Part 2: what the law's walk leans on. -/
import Derived.Test.YtkhdocdddicgpaaGreatDoorYt1
import Derived.Deep.RegionHeld3
import Derived.Lib.AppendStr
import Derived.Lib.SliceRun
set_option linter.unusedVariables false
set_option linter.unusedSimpArgs false
namespace Go.Proofs.YtkhdocdddicgpaaGreatDoor
open Go.RowKit
def LimbPost (q r:Nat) (w:World) (e:Ending) (w':World):Prop:=∃ v,e = .returned (.tuple #[v,.int .u32 (r:Nat)])∧IsNat w' v q∧Fr w.heap.size v∧Below w.heap.size w w'
theorem limb_step (x r d v D:Nat) (hd:0<d) (hx:x<1000000000) (hr:r<d) (h:D=v*d+r) :
 (r*1000000000+x)/d<1000000000∧(r*1000000000+x)%d<d∧x+1000000000*D=((r*1000000000+x)/d+1000000000*v)*d+(r*1000000000+x)%d:=by
 refine ⟨?_,Nat.mod_lt _ hd,?_⟩
 · rw [Nat.div_lt_iff_lt_mul hd]
   have:(r+1)*1000000000≤d*1000000000:=Nat.mul_le_mul_right _ (by omega)
   rw [Nat.mul_comm 1000000000 d]
   omega
 · have h1:=Nat.div_add_mod (r*1000000000+x) d
   rw [h,Nat.add_mul,Nat.mul_comm ((r*1000000000+x)/d) d,Nat.mul_add,Nat.mul_assoc]
   omega
set_option maxRecDepth 100000 in
set_option maxHeartbeats 1600000 in
theorem divideByLimb_to (aa:Option Addr) (ca:Nat) (xs:List Nat) (d:Nat) (w:World) (ha:Rd .u32 w (.slice aa xs.length ca) xs) (hx:∀ x∈xs,x<1000000000) (hl:xs.length≤1000) (hd:0<d) (hd2:d<1000000000) :
 Calls Tryz.prog 218 #[.slice aa xs.length ca,.int .u32 d] w (LimbPost (Nm.vl 1000000000 xs/d) (Nm.vl 1000000000 xs%d) w):=by
 have hcell:∀ k (hk:k<xs.length),∃ g0 off,aa=some ⟨g0,off,none⟩∧g0<w.heap.size∧w.cell? ⟨g0,off+k,none⟩=some (.int .u32 (xs[k]:Nat)):=by
  intro k hk
  obtain ⟨a',c',e,_,_,h3⟩:=id ha
  obtain ⟨g0,off,e2,h4,h5⟩:=h3 (by rintro rfl;simp at hk)
  simp only [Value.slice.injEq] at e
  exact ⟨g0,off,by rw [e.1,e2],h4,h5 k hk⟩
 have HCELL:=Lib.hid hcell
 have HA:=Lib.hid ha
 have HX:=Lib.hid hx
 clear hcell ha hx
 go_enter Tryz.func218,Tryz.ntmps218
 go_wp2_with fail
 refine (extended_any _ xs xs.length xs.length (by omega) (by omega) _ HA.out).mono ?_
 rintro e w1 ⟨g,hg,rfl,hO,hw1⟩
 rw [Nat.sub_self,List.replicate_zero,List.append_nil] at hO
 have HW1:=Lib.hid hw1
 have HO:=Lib.hid hO
 clear hw1 hO
 go_wp2
 go_loopw [7,17] (fun rv j wr=>∃ (k r:Nat) (zs:List Nat),k≤xs.length∧j = .int .i64 k∧rv = .int .u64 r∧r<d∧Hid (zs.length=k)∧Hid (∀ z∈zs,z<1000000000) ∧
  Hid (Nm.vl 1000000000 (xs.drop (xs.length-k))=Nm.vl 1000000000 zs*d+r)∧Hid (Own .u32 199 wr g (xs.take (xs.length-k)++zs))∧Hid (Below w.heap.size w wr)) (fun _ j _=>xs.length-(intOf j).toNat)
 case atStart=>exact ⟨0,0,[],by omega,rfl,rfl,hd,Lib.hid rfl,Lib.hid (by simp),Lib.hid (by simp [Nm.vl]),Lib.hid (by simpa using HO.out),HW1⟩
 case round =>
  obtain ⟨k,r,zs,hk,rfl,rfl,hr,HZL,HZ,HV,HOW,HB⟩:=hrel
  by_cases hlt:k<xs.length
  · have hlt':(k:Int)<xs.length:=by omega
    obtain ⟨p,hp⟩:∃ p:Nat,p=xs.length-1-k:=⟨_,rfl⟩
    have hpl:p<xs.length:=by omega
    have hpl':(p:Int)<xs.length:=by omega
    have hpe:(xs.length:Int)-1-k=p:=by omega
    have HP:=Lib.hid (show xs.length-k=p+1 by omega)
    have HP2:=Lib.hid (show xs.length-(k+1)=p by omega)
    clear hp
    rw [HP.out] at HV HOW
    have hx1:=HX.out _ (List.getElem_mem hpl)
    obtain ⟨g0,off,rfl,hg0,hc⟩:=HCELL.out p hpl
    have hc1:wr.cell? ⟨g0,off+p,none⟩=some (.int .u32 (xs[p]:Nat)):=(HB.out.cell (p:=⟨g0,off+p,none⟩) hg0).trans hc
    have hown1:wr.cell? ⟨g,p,none⟩=some (.int .u32 (xs[p]:Nat)):=by
     rw [HOW.out.cell p (by rw [List.length_append,List.length_take];omega)]
     rw [List.getElem_append_left (by rw [List.length_take];omega),List.getElem_take]
    have hf1:wr.frozen? ⟨g,p,none⟩=false:=HOW.out.free _
    have HST:=Lib.hid (limb_step xs[p] r d _ _ hd hx1 hr HV.out)
    clear hc
    obtain ⟨q,hq⟩:∃ q:Nat,q=(r*1000000000+xs[p])/d:=⟨_,rfl⟩
    obtain ⟨r',hr'⟩:∃ r':Nat,r'=(r*1000000000+xs[p])%d:=⟨_,rfl⟩
    rw [← hq, ← hr'] at HST
    have hq1:=HST.out.1
    have hr1:=HST.out.2.1
    have HQ:Hid (((r:Int)*1000000000+xs[p])/d%4294967296=q):=Lib.hid (by
     rw [show (r:Int)*1000000000+xs[p]=((r*1000000000+xs[p]:Nat):Int) from by simp,show ((r*1000000000+xs[p]:Nat):Int)/(d:Int)=(((r*1000000000+xs[p])/d:Nat):Int) from rfl, ← hq]
     omega)
    have HRR:Hid (((r:Int)*1000000000+xs[p])%d=r'):=Lib.hid (by
     rw [show (r:Int)*1000000000+xs[p]=((r*1000000000+xs[p]:Nat):Int) from by simp,show ((r*1000000000+xs[p]:Nat):Int)%(d:Int)=(((r*1000000000+xs[p])%d:Nat):Int) from rfl, ← hr'])
    have HV':Hid (Nm.vl 1000000000 (xs.drop p)=Nm.vl 1000000000 (q::zs)*d+r'):=Lib.hid (by
     rw [List.drop_eq_getElem_cons hpl]
     exact HST.out.2.2)
    have HOW':Hid (Own .u32 199 (wr.setCell ⟨g,p,none⟩ (.int .u32 (q:Nat))) g (xs.take p++(q::zs))):=Lib.hid (by
     have h:=HOW.out.set p q
     have e:(xs.take (p+1)++zs).set p q=xs.take p++(q::zs):=by
      rw [List.take_add_one,List.getElem?_eq_getElem hpl,List.append_assoc,List.set_append_right _ _ (by rw [List.length_take];omega),List.length_take,Nat.min_eq_left (by omega),Nat.sub_self]
      rfl
     rwa [e] at h)
    clear hq hr'
    go_wp2
    rw [HQ.out,HRR.out]
    refine ⟨⟨k+1,r',q::zs,by omega,by go_num,rfl,hr1,Lib.hid (by rw [List.length_cons,HZL.out]),Lib.hid ?_,Lib.hid (by rw [HP2.out];exact HV'.out),Lib.hid (by rw [HP2.out];exact HOW'.out),Lib.hid ?_⟩,?_⟩
    · intro z hz
      rcases List.mem_cons.1 hz with rfl | hz
      · exact hq1
      · exact HZ.out z hz
    · exact HB.out.trans (((Only.refl g wr).set _ _).below hg)
    · simp [intOf];omega
  · have hke:k=xs.length:=by omega
    have HV':Hid (Nm.vl 1000000000 xs/d=Nm.vl 1000000000 zs∧Nm.vl 1000000000 xs%d=r):=Lib.hid (by
     have:=HV.out
     rw [hke,Nat.sub_self,List.drop_zero] at this
     rw [this]
     refine ⟨?_,?_⟩
     · rw [Nat.mul_comm,Nat.mul_add_div hd,Nat.div_eq_of_lt hr,Nat.add_zero]
     · rw [Nat.mul_comm,Nat.mul_add_mod,Nat.mod_eq_of_lt hr])
    have HR:Hid (Rd .u32 wr (.slice (some ⟨g,0,none⟩) xs.length xs.length) zs):=Lib.hid (by
     have h:=HOW.out
     have hzl:=HZL.out
     rw [hke,Nat.sub_self,List.take_zero,List.nil_append] at h
     have h2:=h.rd xs.length xs.length (by omega) (Nat.le_refl _) (by omega)
     rwa [List.take_of_length_le (by omega)] at h2)
    have hge:¬ (k:Int)<xs.length:=by omega
    clear hke
    go_wp2_with fail
    refine (trim_any _ zs HZ.out _ HR.out).mono ?_
    rintro e w3 ⟨⟨v',rfl,hv,hsm⟩,rfl⟩
    have HVV:=Lib.hid hv
    have HFR:=Lib.hid (Fr.of_same hsm hg)
    clear hv hsm
    go_wp2
    go_ret2
    exact ⟨v',by rw [HV'.out.2];rfl,by rw [HV'.out.1];exact HVV.out,HFR.out,HB.out⟩
theorem divideByLimb_any (va:Value) (a d:Nat) (w:World) (ha:IsNat w va a) (la:(Nm.ds 1000000000 a).length≤1000) (hd:0<d) (hd2:d<1000000000) :
 Calls Tryz.prog 218 #[va,.int .u32 d] w (LimbPost (a/d) (a%d) w):=by
 obtain ⟨aa,ca,rfl,_⟩:=id ha
 have h:=divideByLimb_to aa ca _ d w ha (Nm.ds_lt _ (by omega) _) la hd hd2
 rwa [Nm.vl_ds _ (by omega)] at h
end Go.Proofs.YtkhdocdddicgpaaGreatDoor
set_option linter.unusedVariables false
set_option linter.unusedSimpArgs false
namespace Go.Proofs.YtkhdocdddicgpaaGreatDoor
open Go.RowKit
set_option maxRecDepth 100000 in
set_option maxHeartbeats 1600000 in
theorem word_to (aa:Option Addr) (ca:Nat) (xs:List Nat) (w:World) (ha:Rd .u32 w (.slice aa xs.length ca) xs) (hx:∀ x∈xs,x<1000000000) (hl:xs.length≤2) :
 Calls Tryz.prog 158 #[.slice aa xs.length ca] w fun e w'=>e = .returned (.int .u64 (Nm.vl 1000000000 xs:Nat))∧w=w':=by
 have hcell:∀ k (hk:k<xs.length),∃ g0 off,aa=some ⟨g0,off,none⟩∧w.cell? ⟨g0,off+k,none⟩=some (.int .u32 (xs[k]:Nat)):=by
  intro k hk
  obtain ⟨a',c',e,_,_,h3⟩:=id ha
  obtain ⟨g0,off,e2,h4,h5⟩:=h3 (by rintro rfl;simp at hk)
  simp only [Value.slice.injEq] at e
  exact ⟨g0,off,by rw [e.1,e2],h5 k hk⟩
 have HCELL:=Lib.hid hcell
 have HX:=Lib.hid hx
 clear hcell ha hx
 go_enter Tryz.func158,Tryz.ntmps158
 go_wp2
 go_loop [3,7] (fun rv j=>∃ (k r:Nat),k≤xs.length∧j = .int .i64 k∧rv = .int .u64 r∧Hid (r=Nm.vl 1000000000 (xs.drop (xs.length-k)))) (fun _ j=>xs.length-(intOf j).toNat)
 case atStart=>exact ⟨0,0,by omega,rfl,rfl,Lib.hid (by simp [Nm.vl])⟩
 case round =>
  obtain ⟨k,r,hk,rfl,rfl,HV⟩:=hrel
  by_cases hlt:k<xs.length
  · have hlt':(k:Int)<xs.length:=by omega
    obtain ⟨p,hp⟩:∃ p:Nat,p=xs.length-1-k:=⟨_,rfl⟩
    have hpl:p<xs.length:=by omega
    have hpl':(p:Int)<xs.length:=by omega
    have hpe:(xs.length:Int)-1-k=p:=by omega
    have HP:=Lib.hid (show xs.length-k=p+1 by omega)
    have HP2:=Lib.hid (show xs.length-(k+1)=p by omega)
    have hp1:p≤1:=by omega
    clear hp
    rw [HP.out] at HV
    have hx1:=HX.out _ (List.getElem_mem hpl)
    have hr1:r<1000000000:=by
     have h1:=Nm.vl_lt 1000000000 (xs.drop (p+1)) (fun z hz=>HX.out z (List.mem_of_mem_drop hz))
     rw [← HV.out,List.length_drop] at h1
     have h2:=Nat.pow_le_pow_right (n:=1000000000) (by omega) (show xs.length-(p+1)≤1 by omega)
     omega
    have HV':Hid (r*1000000000+xs[p]=Nm.vl 1000000000 (xs.drop (xs.length-(k+1)))):=Lib.hid (by
     rw [HP2.out,List.drop_eq_getElem_cons hpl,HV.out]
     simp only [Nm.vl]
     omega)
    obtain ⟨g0,off,rfl,hc⟩:=HCELL.out p hpl
    go_wp2
    go_round
    case rel=>exact ⟨k+1,r*1000000000+xs[p],by omega,by go_num,by go_num,HV'⟩
    case measure=>simp [intOf];omega
  · have hke:k=xs.length:=by omega
    have HR:Hid (Nm.vl 1000000000 xs=r):=Lib.hid (by have:=HV.out;rw [hke,Nat.sub_self,List.drop_zero] at this;exact this.symm)
    have hge:¬ (k:Int)<xs.length:=by omega
    clear hke
    go_wp2
    go_ret
    exact ⟨by rw [HR.out];rfl,rfl⟩
theorem word_any (va:Value) (a:Nat) (w:World) (ha:IsNat w va a) (la:(Nm.ds 1000000000 a).length≤2) :
 Calls Tryz.prog 158 #[va] w fun e w'=>e = .returned (.int .u64 (a:Nat))∧w=w':=by
 obtain ⟨aa,ca,rfl,_⟩:=id ha
 have h:=word_to aa ca _ w ha (Nm.ds_lt _ (by omega) _) la
 rwa [Nm.vl_ds _ (by omega)] at h
end Go.Proofs.YtkhdocdddicgpaaGreatDoor
set_option linter.unusedVariables false
set_option linter.unusedSimpArgs false
namespace Go.Proofs.YtkhdocdddicgpaaGreatDoor
open Go.RowKit _root_.Go.Proofs.YtkhdocdddicgpaaGreatDoor.Nm
theorem vl_split (xs:List Nat) (k:Nat) (hk:k≤xs.length):vl 1000000000 xs=vl 1000000000 (xs.take k)+1000000000 ^ k*vl 1000000000 (xs.drop k):=by
 conv=>lhs;rw [← List.take_append_drop k xs]
 rw [vl_append,List.length_take,Nat.min_eq_left hk]
theorem est_le (R ys:List Nat) (n:Nat) (hR:R.length=n+1+1) (hy:ys.length=n+1) (hRl:∀ x∈R,x<1000000000) (hlt:vl 1000000000 R<1000000000*vl 1000000000 ys) (htop:0<ys[n]) :
 vl 1000000000 R/vl 1000000000 ys≤min ((R[n+1]*1000000000+R[n])/ys[n]) 999999999:=by
 have h1:=vl_split ys n (by omega)
 rw [List.drop_eq_getElem_cons (show n<ys.length by omega),List.drop_of_length_le (by omega),show vl 1000000000 [ys[n]]=ys[n] from by simp [vl]] at h1
 have h2:=vl_split R n (by omega)
 rw [List.drop_eq_getElem_cons (show n<R.length by omega),List.drop_eq_getElem_cons (show n+1<R.length by omega),List.drop_of_length_le (by omega),show vl 1000000000 [R[n],R[n+1]]=R[n]+1000000000*R[n+1] from by simp [vl]] at h2
 have h3:=vl_lt 1000000000 (R.take n) (fun x hx=>hRl x (List.mem_of_mem_take hx))
 rw [List.length_take,Nat.min_eq_left (by omega)] at h3
 have hP:0<1000000000 ^ n:=Nat.pow_pos (by omega)
 generalize hV:vl 1000000000 ys=V at *
 generalize hW:vl 1000000000 R=W at *
 generalize 1000000000 ^ n=P at *
 generalize ys[n]=y at *
 generalize hq:W/V=q
 have hV0:0<V:=by
  have:1*1≤P*y:=Nat.mul_le_mul hP htop
  omega
 have h4:q*V≤W:=by rw [← hq];exact Nat.div_mul_le_self W V
 rw [Nat.le_min]
 refine ⟨?_,?_⟩
 · rw [Nat.le_div_iff_mul_le htop]
   have h5:q*(P*y)≤q*V:=Nat.mul_le_mul_left _ (by omega)
   have h6:P*(q*y)<P*(R[n]+1000000000*R[n+1]+1):=by
    rw [Nat.mul_add P,Nat.mul_one,show P*(q*y)=q*(P*y) from by rw [← Nat.mul_assoc, ← Nat.mul_assoc,Nat.mul_comm P q]]
    omega
   have h7:=Nat.lt_of_mul_lt_mul_left h6
   omega
 · have:q<1000000000:=by rw [← hq,Nat.div_lt_iff_lt_mul hV0];exact hlt
   omega
theorem down_end (W V t:Nat) (T:Int) (hq:W/V≤t) (hV:0<V) (hT:T=(W:Int)-(t:Int)*V) (h0:0≤T):t=W/V∧T=(W%V:Nat):=by
 have h1:t*V≤W:=by
  have:((t*V:Nat):Int)=(t:Int)*V:=by simp
  omega
 have h2:t≤W/V:=(Nat.le_div_iff_mul_le hV).2 h1
 have h3:t=W/V:=Nat.le_antisymm h2 hq
 refine ⟨h3,?_⟩
 have h4:=Nat.div_add_mod W V
 rw [← h3,Nat.mul_comm] at h4
 have:((t*V:Nat):Int)=(t:Int)*V:=by simp
 omega
theorem down_more (W V t:Nat) (T:Int) (hq:W/V≤t) (hV:0<V) (hT:T=(W:Int)-(t:Int)*V) (h0:T<0):W/V<t∧T+V=(W:Int)-((t-1:Nat):Int)*V:=by
 have h1:W/V<t:=by
  rcases Nat.lt_or_ge (W/V) t with h | h
  · exact h
  · have h3:t=W/V:=Nat.le_antisymm h hq
    have h4:t*V≤W:=by have h5:=Nat.div_mul_le_self W V;rwa [← h3] at h5
    have:((t*V:Nat):Int)=(t:Int)*V:=by simp
    exfalso
    clear hq h3 h
    omega
 refine ⟨h1,?_⟩
 have ht0:0<t:=Nat.lt_of_le_of_lt (Nat.zero_le _) h1
 obtain ⟨u,rfl⟩:∃ u,t=u+1:=⟨t-1,by clear hq h1;omega⟩
 rw [hT,Nat.add_sub_cancel,Int.natCast_add,Int.add_mul]
 omega
end Go.Proofs.YtkhdocdddicgpaaGreatDoor
set_option linter.unusedVariables false
set_option linter.unusedSimpArgs false
namespace Go.Proofs.YtkhdocdddicgpaaGreatDoor
open Go.RowKit _root_.Go.Proofs.YtkhdocdddicgpaaGreatDoor.Nm
def RedPost (g:Nat) (pre R post ys:List Nat) (w:World) (e:Ending) (w':World):Prop :=
 ∃ R',e = .returned (.int .u32 ((vl 1000000000 R/vl 1000000000 ys:Nat):Int))∧R'.length=R.length∧(∀ z∈R',z<1000000000)∧vl 1000000000 R'=vl 1000000000 R%vl 1000000000 ys∧Own .u32 199 w' g (pre++R'++post)∧Only g w w'
theorem carry_bound (X V Z P c k:Int) (hX:0≤X) (hX2:X<P) (hV:0≤V) (hV2:V<P) (hZ:0≤Z) (hZ2:Z<P) (hc : -1000000000≤c) (hc2:c≤1000000000) (h:Z+P*k=X+c*V) : -1000000002≤k∧k≤1000000002:=by
 have h1:c*V≤1000000000*P:=by
  have a1:c*V≤1000000000*V:=Int.mul_le_mul_of_nonneg_right hc2 hV
  omega
 have h2 : -1000000000*P≤c*V:=by
  have a1 : -1000000000*V≤c*V:=Int.mul_le_mul_of_nonneg_right hc hV
  omega
 refine ⟨?_,?_⟩
 · rcases Int.lt_or_le k (-1000000002) with hk | hk
   · have:P*k≤P*(-1000000003):=Int.mul_le_mul_of_nonneg_left (by omega) (by omega)
     omega
   · exact hk
 · rcases Int.lt_or_le 1000000002 k with hk | hk
   · have:P*1000000003≤P*k:=Int.mul_le_mul_of_nonneg_left (by omega) (by omega)
     omega
   · exact hk
theorem over_bound (W V Z P k:Int) (t:Int) (hW:0≤W) (hW2:W<1000000000*P) (hV:0≤V) (hV2:V<P) (hZ:0≤Z) (hZ2:Z<P) (ht:0≤t) (ht2:t≤999999999) (h:Z+P*k=W-t*V) : -1000000002≤k∧k≤1000000002:=by
 have h1:t*V≤999999999*V:=Int.mul_le_mul_of_nonneg_right ht2 hV
 have h2:0≤t*V:=Int.mul_nonneg ht hV
 refine ⟨?_,?_⟩
 · rcases Int.lt_or_le k (-1000000002) with hk | hk
   · have:P*k≤P*(-1000000003):=Int.mul_le_mul_of_nonneg_left (by omega) (by omega)
     omega
   · exact hk
 · rcases Int.lt_or_le 1000000002 k with hk | hk
   · have:P*1000000003≤P*k:=Int.mul_le_mul_of_nonneg_left (by omega) (by omega)
     omega
   · exact hk
def RedInv (m W V t:Nat) (over:Int) (R1:List Nat):Prop :=
 R1.length=m∧(∀ x∈R1,x<1000000000)∧(vl 1000000000 R1:Int)+((1000000000 ^ m:Nat):Int)*over=(W:Int)-(t:Int)*V∧W/V≤t∧t≤999999999
theorem RedInv.bound {m W V t:Nat} {over:Int} {R1:List Nat} (h:RedInv m W V t over R1) (hW:W<1000000000*V) (hV:V<1000000000 ^ m) : -1000000002≤over∧over≤1000000002:=by
 obtain ⟨h1,h2,h3,h4,h5⟩:=h
 have h6:=vl_lt 1000000000 R1 h2
 rw [h1] at h6
 generalize 1000000000 ^ m=P at *
 exact over_bound W V (vl 1000000000 R1) P over t (by omega) (by omega) (by omega) (by omega) (by omega) (by omega) (by omega) (by omega) h3
theorem RedInv.neg {m W V t:Nat} {over:Int} {R1:List Nat} (h:RedInv m W V t over R1):over<0→(W:Int)-(t:Int)*V<0:=by
 intro ho
 obtain ⟨h1,h2,h3,h4,h5⟩:=h
 have h6:=vl_lt 1000000000 R1 h2
 rw [h1] at h6
 generalize 1000000000 ^ m=P at *
 have:(P:Int)*over≤P*(-1):=Int.mul_le_mul_of_nonneg_left (by omega) (by omega)
 omega
theorem RedInv.more {m W V t:Nat} {over:Int} {R1 zs:List Nat} {carry:Int} (h:RedInv m W V t over R1) (ho:over<0) (hV:0<V) (hz:zs.length=R1.length) (hzl:∀ z∈zs,z<1000000000)
 (he:(vl 1000000000 zs:Int)+((1000000000 ^ R1.length:Nat):Int)*carry=vl 1000000000 R1+1*V):0<t∧RedInv m W V (t-1) (over+carry) zs:=by
 have hn:=h.neg ho
 obtain ⟨h1,h2,h3,h4,h5⟩:=h
 obtain ⟨k1,k2⟩:=down_more W V t _ h4 hV rfl hn
 rw [h1] at he
 have k3:0<t:=Nat.lt_of_le_of_lt (Nat.zero_le _) k1
 refine ⟨k3,by omega,hzl,?_,Nat.le_sub_one_of_lt k1,by omega⟩
 rw [← k2, ← h3,Int.mul_add]
 omega
theorem RedInv.done {m W V t:Nat} {over:Int} {R1:List Nat} (h:RedInv m W V t over R1) (ho:¬ over<0) (hV:0<V) (hV2:V<1000000000 ^ m):t=W/V∧vl 1000000000 R1=W%V:=by
 obtain ⟨h1,h2,h3,h4,h5⟩:=h
 have h6:=vl_lt 1000000000 R1 h2
 rw [h1] at h6
 have hm:=Nat.mod_lt W hV
 generalize 1000000000 ^ m=P at *
 have hp:0≤(P:Int)*over:=Int.mul_nonneg (by omega) (by omega)
 obtain ⟨k1,k2⟩:=down_end W V t _ h4 hV rfl (by omega)
 refine ⟨k1,?_⟩
 rw [k2] at h3
 have ho0:over=0:=by
  rcases Int.lt_or_le 0 over with h | h
  · have:(P:Int)*1≤P*over:=Int.mul_le_mul_of_nonneg_left (by omega) (by omega)
    omega
  · omega
 subst ho0
 omega
theorem RedInv.start {m W V t rm:Nat} {R0 zs:List Nat} {carry:Int} (hR:R0.length=m) (hz:zs.length=R0.length) (hzl:∀ z∈zs,z<1000000000) (hW:W=vl 1000000000 R0+1000000000 ^ m*rm)
 (he:(vl 1000000000 zs:Int)+((1000000000 ^ R0.length:Nat):Int)*carry=vl 1000000000 R0+(-(t:Int))*V) (ht:W/V≤t) (ht2:t≤999999999):RedInv m W V t (rm+carry) zs:=by
 refine ⟨by omega,hzl,?_,ht,ht2⟩
 rw [hR] at he
 rw [hW,Int.mul_add,Int.natCast_add,Int.natCast_mul]
 grind
theorem own_top {w:World} {g m rm:Nat} {pre zs post:List Nat} (h:Own .u32 199 w g (pre++zs++(rm::post))) (hz:zs.length=m):w.cell? ⟨g,pre.length+m,none⟩=some (.int .u32 (rm:Nat)):=by
 subst hz
 rw [h.cell (pre.length+zs.length) (by simp)]
 rw [List.getElem_append_right (by simp)]
 simp
theorem own_end {w:World} {g m rm:Nat} {pre zs post:List Nat} (h:Own .u32 199 w g (pre++zs++(rm::post))) (hz:zs.length=m):Own .u32 199 (w.setCell ⟨g,pre.length+m,none⟩ (.int .u32 ((0:Nat):Int))) g (pre++(zs++[0])++post):=by
 subst hz
 have h2:=h.set (pre.length+zs.length) 0
 have e:(pre++zs++(rm::post)).set (pre.length+zs.length) 0=pre++(zs++[0])++post:=by
  rw [List.set_append_right _ _ (by simp)]
  simp
 rwa [e] at h2
set_option maxRecDepth 100000 in
set_option maxHeartbeats 6400000 in
theorem reduce_to (g cap m n h off2 cb:Nat) (pre R post ys:List Nat) (w:World) (hm:m=n+1) (hR:R.length=m+1) (hy:ys.length=m) (hcap:m+1≤cap) (hl:pre.length+R.length≤60000) (hRl:∀ x∈R,x<1000000000) (hyl:∀ y∈ys,y<1000000000)
 (hlt:vl 1000000000 R<1000000000*vl 1000000000 ys) (htop:0<ys[n]) (hO:Own .u32 199 w g (pre++R++post)) (hr:Row .u32 w h off2 ys) (hg:h<w.heap.size) (hgh:h≠g) (hml:m≤1000) (hcb:m≤cb) (hcb2:Cap m cb) :
 Calls Tryz.prog 219 #[.slice (some ⟨g,pre.length,none⟩) (m+1) cap,.slice (some ⟨h,off2,none⟩) m cb] w (RedPost g pre R post ys w):=by
 have hn1:n<R.length:=by omega
 have hm1:m<R.length:=by omega
 have hc1:w.cell? ⟨g,pre.length+m,none⟩=some (.int .u32 (R[m]:Nat)):=by
  rw [hO.cell (pre.length+m) (by simp;omega)]
  rw [List.getElem_append_left (by simp;omega),List.getElem_append_right (by omega)]
  simp
 have hc2:w.cell? ⟨g,pre.length+n,none⟩=some (.int .u32 (R[n]:Nat)):=by
  rw [hO.cell (pre.length+n) (by simp;omega)]
  rw [List.getElem_append_left (by simp;omega),List.getElem_append_right (by omega)]
  simp
 have hc3:w.cell? ⟨h,off2+n,none⟩=some (.int .u32 (ys[n]:Nat)):=hr n (by omega)
 have hx1:=hRl _ (List.getElem_mem hm1)
 have hx2:=hRl _ (List.getElem_mem hn1)
 have hy1:=hyl _ (List.getElem_mem (show n<ys.length by omega))
 have hest:=est_le R ys n (by omega) (by omega) hRl hlt htop
 have heq:∃ y rm rn:Nat,y=ys[n]∧rm=R[m]∧rn=R[n]:=⟨_,_,_,rfl,rfl,rfl⟩
 obtain ⟨y,rm,rn,k1,k2,k3⟩:=heq
 have k2':rm=R[n+1]:=by subst hm;exact k2
 rw [← k1] at hc3 hy1 hest htop
 rw [← k2] at hc1 hx1
 rw [← k3] at hc2 hx2
 rw [← k2', ← k3] at hest
 have K2:=Lib.hid (show R=R.take m++[rm] by
  conv=>lhs;rw [← List.take_append_drop m R]
  rw [List.drop_eq_getElem_cons hm1,List.drop_of_length_le (by omega),k2])
 have HO:=Lib.hid hO
 have HR:=Lib.hid hr
 have HX:=Lib.hid hRl
 have HY:=Lib.hid hyl
 have hmn:(m:Int)-1=n:=by omega
 have hml':(m:Int)<m+1:=by omega
 have hnl':(n:Int)<(m:Int)+1:=by omega
 have hnm':(n:Int)<m:=by omega
 have hyz:((y:Int)==0)=false:=by rw [beq_eq_false_iff_ne];omega
 have HM:=Lib.hid hm
 have HRL:=Lib.hid hR
 have HYL:=Lib.hid hy
 have e1:IntKind.u64.wrap (rm:Int)=rm:=IntWalk.u64_in _ (by omega)
 have e2:IntKind.u64.wrap ((rm:Int)*1000000000)=rm*1000000000:=IntWalk.u64_in _ (by omega)
 have e3:IntKind.u64.wrap (rn:Int)=rn:=IntWalk.u64_in _ (by omega)
 have e4:IntKind.i64.wrap ((m:Int)-1)=n:=by rw [hmn];exact IntWalk.i64_in _ (by omega)
 have e5:IntKind.u64.wrap ((rm:Int)*1000000000+rn)=rm*1000000000+rn:=IntWalk.u64_in _ (by omega)
 obtain ⟨Q,hQ⟩:∃ Q:Nat,(rm*1000000000+rn)/y=Q:=⟨_,rfl⟩
 rw [hQ] at hest
 have hqi:((rm:Int)*1000000000+rn)/y=(Q:Int):=by
  rw [← hQ];simp
 have HEST:=Lib.hid hest
 have hlt1:(R.take m).length=m:=by rw [List.length_take];omega
 have hcall:∀ (c:Int) (R1:List Nat) (W:World),-1000000000≤c∧c≤1000000000→R1.length=m→(∀ x∈R1,x<1000000000)→Own .u32 199 W g (pre++R1++(rm::post))→Row .u32 W h off2 ys→h<W.heap.size →
  Calls Tryz.prog 159 #[.slice (some ⟨g,pre.length,none⟩) m cap,.slice (some ⟨h,off2,none⟩) m cb,.int .i64 c] W (AmPost g pre R1 (rm::post) ys c W):=by
  intro c R1 W h1 h2 h3 h4 h5 h6
  have h7:Rd .u32 W (.slice (some ⟨h,off2,none⟩) m cb) ys:=by
   have:=Rd.mk (c:=cb) (by omega) (by rw [hy];exact hcb2) h6 h5
   rwa [hy] at this
  have:=addMultiple_any g cap pre R1 (rm::post) ys _ c W h1 (by omega) h3 hyl (by omega) h4 h7 (fun _ a k c' e=>by
   simp only [Value.slice.injEq,Option.some.injEq] at e
   rw [← e.1];exact hgh)
  rwa [h2] at this
 have HCALL:=Lib.hid hcall
 have HLT1:=Lib.hid hlt1
 have HQI:=Lib.hid (And.intro trivial hqi)
 clear hQ hqi hcall hlt1
 have HLTW:=Lib.hid hlt
 clear hO hr hRl hyl k1 k2 k3 k2' hest hm hR hy hn1 hm1 hlt
 have HO2:Hid (Own .u32 199 w g (pre++R.take m++(rm::post))):=Lib.hid (by
  have e:=HO.out
  rw [K2.out] at e
  rwa [List.append_assoc pre,List.append_assoc (R.take m),List.singleton_append, ← List.append_assoc] at e)
 have HXT:Hid (∀ x∈R.take m,x<1000000000):=Lib.hid (fun x hx=>HX.out x (List.mem_of_mem_take hx))
 have HWE:Hid (vl 1000000000 R=vl 1000000000 (R.take m)+1000000000 ^ m*rm):=Lib.hid (by
  conv=>lhs;rw [K2.out]
  rw [vl_append,HLT1.out];simp [vl])
 have HVP:Hid (0<vl 1000000000 ys∧vl 1000000000 ys<1000000000 ^ m):=Lib.hid ⟨by
  rcases Nat.eq_zero_or_pos (vl 1000000000 ys) with h0 | h0
  · have:=HLTW.out;rw [h0] at this;omega
  · exact h0,by have:=vl_lt 1000000000 ys HY.out;rwa [HYL.out] at this⟩
 have hmc:m≤cap:=by omega
 by_cases hQ:Q≤999999999
 · have HMIN:Hid (vl 1000000000 R/vl 1000000000 ys≤Q):=Lib.hid (Nat.le_trans HEST.out (Nat.min_le_left _ _))
   have hneg:IntKind.i64.wrap (-(Q:Int)) = -(Q:Int):=IntWalk.i64_in _ (by omega)
   have hrmw:IntKind.i64.wrap (rm:Int)=rm:=IntWalk.i64_in _ (by omega)
   go_enter Tryz.func219,Tryz.ntmps219
   go_wp2_with fail
   go_quiet (fail)
   have hqi:=HQI.out.2
   go_wp2_with fail
   clear hqi e1 e2 e3 e4 e5
   go_region_held3 (fun w'=>w'.cell? ⟨g,pre.length+m,none⟩=some (.int .u32 (rm:Nat))) (first | ((try dsimp only);(repeat' apply And.intro);all_goals with_reducible assumption) | go_keep) ((go_at_call 159;refine (HCALL.out _ (R.take m) _ (by omega) HLT1.out HXT.out (by exact HO2.out) (by exact HR.out) (by exact hg)).mono ?_;rintro e w1 ⟨zs,carry,rfl,hz1,hz2,hz3,hz4,hz5⟩;have hri:=RedInv.start HLT1.out hz1 hz2 HWE.out hz3 HMIN.out hQ;have hbd:=hri.bound HLTW.out HVP.out.2;have hcell:=own_top hz4 (hz1.trans HLT1.out);have hsum:IntKind.i64.wrap ((rm:Int)+carry)=rm+carry:=IntWalk.i64_in _ (by omega)))
   have HRI:=Lib.hid hri
   have HOW:=Lib.hid hz4
   have HN:=Lib.hid (((Only.refl g w).drewN _).trans hz5)
   obtain ⟨hb1,hb2⟩:=hbd
   clear hri hz1 hz2 hz3 hz4 hz5 hcell hsum hneg hrmw hc1 hc2 hc3
   go_wp2
   go_loopw [7,8] (fun tv ov wr=>∃ (t':Nat) (over:Int) (R1:List Nat),tv = .int .i64 t'∧ov = .int .i64 over ∧ -1000000002≤over∧over≤1000000002∧t'≤999999999∧Hid (RedInv m (vl 1000000000 R) (vl 1000000000 ys) t' over R1)∧Hid (Own .u32 199 wr g (pre++R1++(rm::post)))∧Hid (Only g w wr)) (fun tv _ _=>(intOf tv).toNat)
   case atStart=>exact ⟨Q,_,zs,rfl,rfl,hb1,hb2,by omega,HRI,HOW,HN⟩
   case round =>
    obtain ⟨t',over,R1,rfl,rfl,ho1,ho2,ht1,HI,HW,HNN⟩:=hrel
    by_cases ho:over<0
    · go_wp2_with fail
      refine (HCALL.out 1 R1 _ (by omega) HI.out.1 HI.out.2.1 HW.out (HR.out.only HNN.out hgh) (by rw [HNN.out.size];exact hg)).mono ?_
      rintro e w2 ⟨zs2,carry2,rfl,hz1,hz2,hz3,hz4,hz5⟩
      obtain ⟨hpos,hri⟩:=HI.out.more ho HVP.out.1 hz1 hz2 hz3
      have hbd:=hri.bound HLTW.out HVP.out.2
      obtain ⟨u,rfl⟩:∃ u,t'=u+1:=⟨t'-1,by omega⟩
      rw [Nat.add_sub_cancel] at hri
      obtain ⟨hd1,hd2⟩:=hbd
      have hcb : -3000000000≤carry2∧carry2≤3000000000:=by omega
      obtain ⟨hcb1,hcb2⟩:=hcb
      have HRI2:=Lib.hid hri
      have HOW2:=Lib.hid hz4
      have HN2:=Lib.hid (HNN.out.trans hz5)
      clear hz1 hz2 hz3 hz4 hz5 hri
      go_wp2
      go_roundw
      case rel=>exact ⟨u,over+carry2,zs2,by go_num,rfl,hd1,hd2,by omega,HRI2,HOW2,HN2⟩
      case measure=>simp [intOf] <;> omega
    · obtain ⟨hq1,hq2⟩:=HI.out.done ho HVP.out.1 HVP.out.2
      have HQ1:=Lib.hid hq1
      have HQ2:=Lib.hid hq2
      have hcc:=own_top HW.out HI.out.1
      have hff:wr.frozen? ⟨g,pre.length+m,none⟩=false:=HW.out.free _
      clear hq1 hq2
      go_wp2
      go_ret
      refine ⟨R1++[0],by rw [← HQ1.out];rfl,by rw [List.length_append,HI.out.1,HRL.out];rfl,?_,?_,own_end HW.out HI.out.1,HNN.out.set _ _⟩
      · intro z hz
        rcases List.mem_append.1 hz with hz | hz
        · exact HI.out.2.1 z hz
        · simp at hz;omega
      · rw [vl_append,HQ2.out];simp [vl]
 · have HMIN:Hid (vl 1000000000 R/vl 1000000000 ys≤999999999):=Lib.hid (Nat.le_trans HEST.out (Nat.min_le_right _ _))
   have hneg:IntKind.i64.wrap (-999999999) = -999999999:=by decide +kernel
   have hrmw:IntKind.i64.wrap (rm:Int)=rm:=IntWalk.i64_in _ (by omega)
   go_enter Tryz.func219,Tryz.ntmps219
   go_wp2_with fail
   go_quiet (fail)
   have hqi:=HQI.out.2
   go_wp2_with fail
   clear hqi e1 e2 e3 e4 e5
   go_region_held3 (fun w'=>w'.cell? ⟨g,pre.length+m,none⟩=some (.int .u32 (rm:Nat))) (first | ((try dsimp only);(repeat' apply And.intro);all_goals with_reducible assumption) | go_keep) ((go_at_call 159;refine (HCALL.out _ (R.take m) _ (by omega) HLT1.out HXT.out (by exact HO2.out) (by exact HR.out) (by exact hg)).mono ?_;rintro e w1 ⟨zs,carry,rfl,hz1,hz2,hz3,hz4,hz5⟩;have hri:=RedInv.start HLT1.out hz1 hz2 HWE.out hz3 HMIN.out (Nat.le_refl _);have hbd:=hri.bound HLTW.out HVP.out.2;have hcell:=own_top hz4 (hz1.trans HLT1.out);have hsum:IntKind.i64.wrap ((rm:Int)+carry)=rm+carry:=IntWalk.i64_in _ (by omega)))
   have HRI:=Lib.hid hri
   have HOW:=Lib.hid hz4
   have HN:=Lib.hid (((Only.refl g w).drewN _).trans hz5)
   obtain ⟨hb1,hb2⟩:=hbd
   clear hri hz1 hz2 hz3 hz4 hz5 hcell hsum hneg hrmw hc1 hc2 hc3
   go_wp2
   go_loopw [7,8] (fun tv ov wr=>∃ (t':Nat) (over:Int) (R1:List Nat),tv = .int .i64 t'∧ov = .int .i64 over ∧ -1000000002≤over∧over≤1000000002∧t'≤999999999∧Hid (RedInv m (vl 1000000000 R) (vl 1000000000 ys) t' over R1)∧Hid (Own .u32 199 wr g (pre++R1++(rm::post)))∧Hid (Only g w wr)) (fun tv _ _=>(intOf tv).toNat)
   case atStart=>exact ⟨999999999,_,zs,rfl,rfl,hb1,hb2,by omega,HRI,HOW,HN⟩
   case round =>
    obtain ⟨t',over,R1,rfl,rfl,ho1,ho2,ht1,HI,HW,HNN⟩:=hrel
    by_cases ho:over<0
    · go_wp2_with fail
      refine (HCALL.out 1 R1 _ (by omega) HI.out.1 HI.out.2.1 HW.out (HR.out.only HNN.out hgh) (by rw [HNN.out.size];exact hg)).mono ?_
      rintro e w2 ⟨zs2,carry2,rfl,hz1,hz2,hz3,hz4,hz5⟩
      obtain ⟨hpos,hri⟩:=HI.out.more ho HVP.out.1 hz1 hz2 hz3
      have hbd:=hri.bound HLTW.out HVP.out.2
      obtain ⟨u,rfl⟩:∃ u,t'=u+1:=⟨t'-1,by omega⟩
      rw [Nat.add_sub_cancel] at hri
      obtain ⟨hd1,hd2⟩:=hbd
      have hcb : -3000000000≤carry2∧carry2≤3000000000:=by omega
      obtain ⟨hcb1,hcb2⟩:=hcb
      have HRI2:=Lib.hid hri
      have HOW2:=Lib.hid hz4
      have HN2:=Lib.hid (HNN.out.trans hz5)
      clear hz1 hz2 hz3 hz4 hz5 hri
      go_wp2
      go_roundw
      case rel=>exact ⟨u,over+carry2,zs2,by go_num,rfl,hd1,hd2,by omega,HRI2,HOW2,HN2⟩
      case measure=>simp [intOf] <;> omega
    · obtain ⟨hq1,hq2⟩:=HI.out.done ho HVP.out.1 HVP.out.2
      have HQ1:=Lib.hid hq1
      have HQ2:=Lib.hid hq2
      have hcc:=own_top HW.out HI.out.1
      have hff:wr.frozen? ⟨g,pre.length+m,none⟩=false:=HW.out.free _
      clear hq1 hq2
      go_wp2
      go_ret
      refine ⟨R1++[0],by rw [← HQ1.out];rfl,by rw [List.length_append,HI.out.1,HRL.out];rfl,?_,?_,own_end HW.out HI.out.1,HNN.out.set _ _⟩
      · intro z hz
        rcases List.mem_append.1 hz with hz | hz
        · exact HI.out.2.1 z hz
        · simp at hz;omega
      · rw [vl_append,HQ2.out];simp [vl]
end Go.Proofs.YtkhdocdddicgpaaGreatDoor
set_option linter.unusedVariables false
set_option linter.unusedSimpArgs false
namespace Go.Proofs.YtkhdocdddicgpaaGreatDoor
open Go.RowKit _root_.Go.Proofs.YtkhdocdddicgpaaGreatDoor.Nm
theorem scale_fits (y:Nat) (hy:y<1000000000):1≤1000000000/(y+1)∧1000000000/(y+1)*(y+1)≤1000000000 :=
 ⟨(Nat.le_div_iff_mul_le (by omega)).2 (by omega),Nat.div_mul_le_self _ _⟩
structure LongInv (A D la p:Nat) (Rl Q:List Nat):Prop where
 len:Rl.length=la+1
 lt:∀ x∈Rl,x<1000000000
 qlt:∀ x∈Q,x<1000000000
 sum:vl 1000000000 Rl+1000000000 ^ p*(vl 1000000000 Q*D)=A
 small:vl 1000000000 (Rl.drop p)<D
theorem LongInv.start (a sc b la n p:Nat) (Rl:List Nat) (hla:a<1000000000 ^ la) (hb:1000000000 ^ n≤b) (hp:p+n=la) (hsc:0<sc) (hlen:Rl.length=la+1) (hlt:∀ x∈Rl,x<1000000000) (hv:vl 1000000000 Rl=a*sc) :
 LongInv (a*sc) (b*sc) la p Rl []:=by
 refine ⟨hlen,hlt,by simp,by rw [hv];simp [vl],?_⟩
 have h1:=vl_split Rl p (by omega)
 rw [hv] at h1
 have h2:1000000000 ^ p*(1000000000 ^ n*sc)≤1000000000 ^ p*(b*sc):=Nat.mul_le_mul_left _ (Nat.mul_le_mul_right _ hb)
 have h3:1000000000 ^ p*(1000000000 ^ n*sc)=1000000000 ^ la*sc:=by rw [← Nat.mul_assoc, ← Nat.pow_add,hp]
 have h4:a*sc<1000000000 ^ la*sc:=Nat.mul_lt_mul_of_pos_right hla hsc
 have h5:1000000000 ^ p*vl 1000000000 (Rl.drop p)<1000000000 ^ p*(b*sc):=by omega
 exact Nat.lt_of_mul_lt_mul_left h5
theorem behind_zero (xs:List Nat) (k:Nat) (D:Nat) (h:vl 1000000000 xs<D) (hD:D≤1000000000 ^ k):vl 1000000000 (xs.drop k)=0:=by
 by_cases hk:k≤xs.length
 · have h1:=vl_split xs k hk
   rcases Nat.eq_zero_or_pos (vl 1000000000 (xs.drop k)) with h0 | h0
   · exact h0
   · have:1000000000 ^ k*1≤1000000000 ^ k*vl 1000000000 (xs.drop k):=Nat.mul_le_mul_left _ h0
     omega
 · rw [List.drop_of_length_le (by omega)];rfl
theorem win_lt (x v W T D:Nat) (h2:W=x+1000000000*v) (h3:x<1000000000) (h4:v<D) (h5:W=T):T<1000000000*D:=by omega
theorem LongInv.window {A D la p lb:Nat} {Rl Q:List Nat} (h:LongInv A D la (p+1) Rl Q) (hD:D≤1000000000 ^ lb) (hp:p+lb+1≤la+1) :
 Rl=Rl.take p++(Rl.drop p).take (lb+1)++Rl.drop (p+lb+1)∧(Rl.take p).length=p∧((Rl.drop p).take (lb+1)).length=lb+1∧vl 1000000000 (Rl.drop (p+lb+1))=0 ∧
 vl 1000000000 ((Rl.drop p).take (lb+1))<1000000000*D:=by
 have hl:=h.len
 have e1:Rl=Rl.take p++(Rl.drop p).take (lb+1)++Rl.drop (p+lb+1):=by
  conv=>lhs;rw [← List.take_append_drop p Rl]
  conv=>lhs;rw [← List.take_append_drop (lb+1) (Rl.drop p)]
  rw [List.append_assoc,List.drop_drop,show p+(lb+1)=p+lb+1 from by omega]
 have hz:vl 1000000000 (Rl.drop (p+lb+1))=0:=by
  have:=behind_zero (Rl.drop (p+1)) lb D h.small hD
  rwa [List.drop_drop,show p+1+lb=p+lb+1 from by omega] at this
 refine ⟨e1,by rw [List.length_take];omega,by rw [List.length_take,List.length_drop];omega,hz,?_⟩
 have h1:Rl.drop p=Rl[p]::Rl.drop (p+1):=List.drop_eq_getElem_cons (by omega)
 have h2:vl 1000000000 (Rl.drop p)=Rl[p]+1000000000*vl 1000000000 (Rl.drop (p+1)):=by rw [h1,vl]
 have h3:=h.lt Rl[p] (List.getElem_mem _)
 have h4:=h.small
 have h5:vl 1000000000 (Rl.drop p)=vl 1000000000 ((Rl.drop p).take (lb+1)):=by
  have:=vl_split (Rl.drop p) (lb+1) (by rw [List.length_drop];omega)
  rw [List.drop_drop,show p+(lb+1)=p+lb+1 from by omega,hz,Nat.mul_zero,Nat.add_zero] at this
  exact this
 exact win_lt _ _ _ _ D h2 h3 h4 h5
theorem LongInv.step {A D la p lb:Nat} {Rl Q R':List Nat} (h:LongInv A D la (p+1) Rl Q) (hD0:0<D) (hD:D≤1000000000 ^ lb) (hp:p+lb+1≤la+1) (hR:R'.length=lb+1) (hRl:∀ z∈R',z<1000000000)
 (hv:vl 1000000000 R'=vl 1000000000 ((Rl.drop p).take (lb+1))%D) :
 LongInv A D la p (Rl.take p++R'++Rl.drop (p+lb+1)) (vl 1000000000 ((Rl.drop p).take (lb+1))/D::Q)∧vl 1000000000 ((Rl.drop p).take (lb+1))/D<1000000000:=by
 obtain ⟨e1,l1,l2,hz,hw⟩:=h.window hD hp
 have hl:=h.len
 have hq:vl 1000000000 ((Rl.drop p).take (lb+1))/D<1000000000:=by rw [Nat.div_lt_iff_lt_mul hD0];exact hw
 have hdm:=Nat.div_add_mod (vl 1000000000 ((Rl.drop p).take (lb+1))) D
 have hm:=Nat.mod_lt (vl 1000000000 ((Rl.drop p).take (lb+1))) hD0
 have hs:=h.sum
 have hv1:vl 1000000000 Rl=vl 1000000000 (Rl.take p)+1000000000 ^ p*vl 1000000000 ((Rl.drop p).take (lb+1)):=by
  conv=>lhs;rw [e1]
  rw [vl_append,vl_append,hz,l1];simp
 have hv2:vl 1000000000 (Rl.take p++R'++Rl.drop (p+lb+1))=vl 1000000000 (Rl.take p)+1000000000 ^ p*vl 1000000000 R':=by
  rw [vl_append,vl_append,hz,l1];simp
 have hd:(Rl.take p++R'++Rl.drop (p+lb+1)).drop p=R'++Rl.drop (p+lb+1):=by
  rw [List.append_assoc]
  exact List.drop_left' l1
 refine ⟨⟨by rw [List.length_append,List.length_append,l1,hR,List.length_drop];omega,?_,?_,?_,?_⟩,hq⟩
 · intro x hx
   rcases List.mem_append.1 hx with hx | hx
   · rcases List.mem_append.1 hx with hx | hx
     · exact h.lt x (List.mem_of_mem_take hx)
     · exact hRl x hx
   · exact h.lt x (List.mem_of_mem_drop hx)
 · intro x hx
   rcases List.mem_cons.1 hx with rfl | hx
   · exact hq
   · exact h.qlt x hx
 · rw [hv2,hv]
   rw [hv1,Nat.pow_succ] at hs
   rw [vl]
   generalize vl 1000000000 ((Rl.drop p).take (lb+1))=W at *
   generalize W/D=q at *
   generalize W%D=r at *
   generalize vl 1000000000 Q=v at *
   generalize 1000000000 ^ p=X at *
   subst hdm
   rw [← hs]
   grind
 · rw [hd,vl_append,hz,hv]
   simpa using hm
theorem LongInv.done {a b sc la:Nat} {Rl Q:List Nat} (h:LongInv (a*sc) (b*sc) la 0 Rl Q) (hsc:0<sc) (hb:0<b):vl 1000000000 Q=a/b∧vl 1000000000 Rl/sc=a%b:=by
 have h1:=h.sum
 have h2:=h.small
 rw [List.drop_zero] at h2
 rw [Nat.pow_zero,Nat.one_mul] at h1
 have hpos:0<b*sc:=Nat.mul_pos hb hsc
 have e1:(a*sc)/(b*sc)=vl 1000000000 Q:=by
  rw [← h1,Nat.add_mul_div_right _ _ hpos,Nat.div_eq_of_lt h2,Nat.zero_add]
 have e2:(a*sc)%(b*sc)=vl 1000000000 Rl:=by
  rw [← h1,Nat.add_mul_mod_self_right,Nat.mod_eq_of_lt h2]
 rw [Nat.mul_div_mul_right _ _ hsc] at e1
 rw [Nat.mul_mod_mul_right] at e2
 exact ⟨e1.symm,by rw [← e2,Nat.mul_div_cancel _ hsc]⟩
end Go.Proofs.YtkhdocdddicgpaaGreatDoor
set_option linter.unusedVariables false
set_option linter.unusedSimpArgs false
namespace Go.Proofs.YtkhdocdddicgpaaGreatDoor
open Go.RowKit _root_.Go.Proofs.YtkhdocdddicgpaaGreatDoor.Nm
theorem rd_of_own {B:Nat} {t:TypeId} {w:World} {v:Value} {xs:List Nat} (h:w.ownsRow B t 1 v xs.length (xs.map (fun x=>Value.int .u32 (x:Nat)))) (hl:xs.length≤60000):Rd .u32 w v xs∧Fr B v:=by
 rcases h.2 with ⟨rfl,h2⟩ | ⟨g,cap,cur,rfl,hB,hg,hn,hcap,hsz,ht⟩
 · have:xs=[]:=List.length_eq_zero_iff.1 h2
   subst this
   exact ⟨Rd.nil _ _ _ _ ⟨by omega,by unfold maxLen;omega⟩,fun ad n c e=>by cases e⟩
 · have hlt:g<w.heap.size:=by
    rcases Nat.lt_or_ge g w.heap.size with h' | h'
    · exact h'
    · simp [Array.getElem?_eq_none h'] at hg
   refine ⟨Rd.mk hn ⟨hl,hcap⟩ hlt ?_,fun ad n c e _ => ?_⟩
   · intro i hi
     have hc:=World.ownsRow.cells h (g:=g) rfl i (.int .u32 ((xs[i]:Nat):Int)) (by simp [List.getElem?_eq_getElem hi])
     rw [addr_add,Nat.zero_add] at hc
     rw [Nat.zero_add]
     exact hc
   · simp only [Value.slice.injEq,Option.some.injEq] at e
     obtain ⟨rfl,_,_⟩:=e
     exact hB
set_option maxRecDepth 100000 in
set_option maxHeartbeats 1600000 in
theorem Clone_some (ad:Addr) (xs:List Nat) (c:Nat) (w:World) (hl:xs.length≤60000) (hr:∀ (j:Nat) (h:j<xs.length),w.cell? (ad.add j)=some (.int .u32 (xs[j]:Nat))∧(ad.add j).block<w.heap.size) :
 Calls Tryz.prog 217 #[.slice (some ad) xs.length c] w fun e w'=>∃ v',e = .returned v'∧Rd .u32 w' v' xs∧Fr w.heap.size v'∧Below w.heap.size w w':=by
 obtain ⟨i0,hi,hz0,hz1,hz2⟩:=info_parts info32
 have HI:=Lib.hid hi
 have HZ0:=Lib.hid hz0
 have HZ1:=Lib.hid hz1
 have HZ2:=Lib.hid hz2
 have HR:=Lib.hid hr
 clear hi hz0 hz1 hz2 hr
 have q22:∀ (w:World) (a:Option Addr) (n c n' c':Nat),(binOp .eql 176 (.slice a n c) (.slice none n' c')).run Tryz.prog w = .ok (.bool a.isNone) w:=fun w a n c n' c'=>Lib.run_eql_slice_nil w _ _ a n c n' c' Tryz.underlying176
 go_enter Tryz.func217,Tryz.ntmps217
 go_wp2_with (at_builtin;refine wpList_append_own _ rfl _ _ 176 rfl w.heap.size 199 i0 (.int .u32 0) 1 4 Tryz.underlying176 HI.out HZ0.out HZ1.out HZ2.out rfl (by decide) _ _ _ rfl (World.ownsRow_made w #[] 0 (Nat.le_refl _) (Nat.zero_le _) rfl) ad xs.length c (xs.map (fun x=>Value.int .u32 (x:Nat))) rfl ?c0 ?c1 ?c2 ?c3 ?c4 ?c5 ?_)
 case c0=>simp
 case c1 =>
  intro j u hj
  rw [List.getElem?_map] at hj
  by_cases hjl:j<xs.length
  · rw [List.getElem?_eq_getElem hjl] at hj
    simp at hj
    subst hj
    obtain ⟨h1,h2⟩:=HR.out j hjl
    rw [World.cell?_alloc_lt w _ _ h2]
    exact h1
  · rw [List.getElem?_eq_none (by omega)] at hj;simp at hj
 case c2=>intro u hu;obtain ⟨x,_,rfl⟩:=List.mem_map.1 hu;rfl
 case c3=>unfold maxLen;omega
 case c4=>omega
 case c5=>simp
 intro v' w1 hown hgrow hnil
 have hB:=((Below.refl _ w).alloc (Nat.le_refl _) (.cells #[] 199)).grown hgrow (by simp) (by intro k hk;simp [Value.ownBlock] at hk;omega)
 have HH:=Lib.hid (rd_of_own hown hl)
 have HB:=Lib.hid hB
 clear hown hgrow hB hnil
 go_wp2
 go_ret
 exact ⟨v',rfl,HH.out.1,HH.out.2,HB.out⟩
set_option maxRecDepth 100000 in
theorem Clone_nil (n c:Nat) (w:World):Calls Tryz.prog 217 #[.slice none n c] w fun e w'=>e = .returned (.slice none 0 0)∧w=w':=by
 have q22:∀ (w:World) (a:Option Addr) (n c n' c':Nat),(binOp .eql 176 (.slice a n c) (.slice none n' c')).run Tryz.prog w = .ok (.bool a.isNone) w:=fun w a n c n' c'=>Lib.run_eql_slice_nil w _ _ a n c n' c' Tryz.underlying176
 go_enter Tryz.func217,Tryz.ntmps217
 go_wp2
 go_ret
 exact ⟨rfl,rfl⟩
theorem Clone_any (v:Value) (a:Nat) (w:World) (h:IsNat w v a) :
 Calls Tryz.prog 217 #[v] w (NatPost a w):=by
 have hl:=Rd.length h
 rcases Rd.cases h with ⟨h0,aa,c,rfl,hc⟩ | ⟨h0,g,off,c,rfl,hxc,hc,hg,hr⟩
 · have ha:a=0:=(ds_eq_nil _ (by omega) a).1 h0
   subst ha
   cases aa with
   | none =>
    refine (Clone_nil 0 c w).mono ?_
    rintro e w' ⟨rfl,rfl⟩
    exact ⟨_,rfl,by rw [ds_zero];exact Rd.nil _ _ _ _ ⟨by omega,by unfold maxLen;omega⟩,(fun ad n c e=>by cases e),Below.refl _ _⟩
   | some ad =>
    have:=Clone_some ad [] c w (by simp) (fun j h=>by simp at h)
    refine this.mono ?_
    rintro e w' ⟨v',rfl,h1,h2,h3⟩
    exact ⟨v',rfl,by rw [ds_zero];exact h1,h2,h3⟩
 · refine (Clone_some ⟨g,off,none⟩ (ds 1000000000 a) c w hl (fun j hj => ?_)).mono ?_
   · rw [addr_add];exact ⟨hr j hj,hg⟩
   · rintro e w' ⟨v',rfl,h1,h2,h3⟩
     exact ⟨v',rfl,h1,h2,h3⟩
def QuoPost (q r:Nat) (w:World) (e:Ending) (w':World):Prop :=
 ∃ v1 v2,e = .returned (.tuple #[v1,v2])∧IsNat w' v1 q∧Fr w.heap.size v1∧IsNat w' v2 r∧Fr w.heap.size v2∧Below w.heap.size w w'
set_option maxRecDepth 100000 in
set_option maxHeartbeats 1600000 in
theorem divide_less (va vb:Value) (a b:Nat) (w:World) (ha:IsNat w va a) (hb:IsNat w vb b) (hlt:a<b) :
 Calls Tryz.prog 190 #[va,vb] w (QuoPost 0 a w):=by
 have HA:=Lib.hid ha
 have HB:=Lib.hid hb
 have HS:Hid (sgn a b = -1):=Lib.hid (sgn_lt (by omega))
 clear ha hb hlt
 go_enter Tryz.func190,Tryz.ntmps190
 go_wp2_with fail
 refine (compare_any _ _ a b _ HA.out HB.out).mono ?_
 rintro e w1 ⟨rfl,n,hw⟩
 rw [HS.out]
 have HW:=Lib.hid (show Below w.heap.size w w1 from by rw [hw];exact ⟨rfl,rfl,rfl,Nat.le_refl _,fun _ _=>rfl⟩)
 clear hw
 go_wp2_with fail
 refine (Clone_any _ a _ (HA.out.keep HW.out (Nat.le_refl _))).mono ?_
 rintro e w2 ⟨v,rfl,hv,hf,hb2⟩
 have HV:=Lib.hid hv
 have HF:=Lib.hid (hf.mono HW.out.size)
 have HW2:=Lib.hid (HW.out.trans (hb2.mono HW.out.size))
 clear hv hf hb2
 go_wp2
 go_ret2
 exact ⟨_,_,rfl,by unfold IsNat;rw [ds_zero];exact Rd.nil _ _ _ _ ⟨by omega,by unfold maxLen;omega⟩,(fun ad n c e=>by cases e),HV.out,HF.out,HW2.out⟩
end Go.Proofs.YtkhdocdddicgpaaGreatDoor
set_option linter.unusedVariables false
set_option linter.unusedSimpArgs false
namespace Go.Proofs.YtkhdocdddicgpaaGreatDoor
open Go.RowKit _root_.Go.Proofs.YtkhdocdddicgpaaGreatDoor.Nm
theorem own_one (k:IntKind) (t:TypeId) (w:World) (a:Nat):Own k t (w.alloc (.cells #[.int k (a:Nat)] t)) w.heap.size [a]:=by
 unfold Own
 rw [heap_alloc_new]
 rfl
theorem sgn_ge (a b:Int) (h:¬ a<b):decide (sgn a b<0)=false:=by
 unfold sgn;rw [if_neg h];split <;> decide
set_option maxRecDepth 100000 in
set_option maxHeartbeats 1600000 in
theorem divide_one (va:Value) (g off c a y:Nat) (w:World) (ha:IsNat w va a) (hb:IsNat w (.slice (some ⟨g,off,none⟩) 1 c) y) (hg:g<w.heap.size) (hc:w.cell? ⟨g,off,none⟩=some (.int .u32 (y:Nat))) (hge:y≤a) (hy:0<y) (hy2:y<1000000000) (la:(ds 1000000000 a).length≤1000) :
 Calls Tryz.prog 190 #[va,.slice (some ⟨g,off,none⟩) 1 c] w (QuoPost (a/y) (a%y) w):=by
 have HA:=Lib.hid ha
 have HB:=Lib.hid hb
 have hd:=sgn_ge a y (by omega)
 obtain ⟨r,hr⟩:∃ r,sgn a y=r:=⟨_,rfl⟩
 rw [hr] at hd
 have HR:=Lib.hid hr
 clear ha hb hr
 go_enter Tryz.func190,Tryz.ntmps190
 go_wp2_with fail
 refine (compare_any _ _ a y _ HA.out HB.out).mono ?_
 rintro e w1 ⟨rfl,n,hw⟩
 rw [HR.out]
 have HW:=Lib.hid (show Below w.heap.size w w1 from by rw [hw];exact ⟨rfl,rfl,rfl,Nat.le_refl _,fun _ _=>rfl⟩)
 have hc1:w1.cell? ⟨g,off,none⟩=some (.int .u32 (y:Nat)):=(HW.out.cell (p:=⟨g,off,none⟩) hg).trans hc
 clear hw hc
 go_wp2_with fail
 refine (divideByLimb_any _ a y _ (HA.out.keep HW.out (Nat.le_refl _)) la hy hy2).mono ?_
 rintro e w2 ⟨v,rfl,hv,hf,hb2⟩
 have hm:a%y<1000000000:=Nat.lt_trans (Nat.mod_lt a hy) hy2
 have HV:=Lib.hid hv
 have HF:=Lib.hid (hf.mono HW.out.size)
 have HW2:=Lib.hid (HW.out.trans (hb2.mono HW.out.size))
 generalize hrm:a%y=rm at hm ⊢
 have HRM:=Lib.hid hrm
 clear hv hf hb2 hrm hc1
 have HO:=Lib.hid (own_one .u32 199 w2 rm)
 have HA2:=Lib.hid ((Below.refl w2.heap.size w2).alloc (Nat.le_refl _) (.cells #[.int .u32 ((rm:Nat):Int)] 199))
 go_wp2_with fail
 refine (trim_any _ [rm] (by intro x hx;simp at hx;omega) _ (by exact HO.out.rd 1 1 (by simp) (by omega) (by omega))).mono ?_
 rintro e w3 ⟨⟨v',rfl,hv,hsm⟩,rfl⟩
 rw [show vl 1000000000 [rm]=rm from by simp [vl]] at hv
 have HV3:=Lib.hid hv
 have HF3:=Lib.hid (Fr.of_same hsm (Nat.le_refl _))
 clear hv hsm
 go_wp2
 go_ret2
 exact ⟨_,_,rfl,HV.out.keep HA2.out (Nat.le_refl _),HF.out,(by rw [HRM.out];exact HV3.out),HF3.out.mono HW2.out.size,HW2.out.trans (HA2.out.mono HW2.out.size)⟩
end Go.Proofs.YtkhdocdddicgpaaGreatDoor
