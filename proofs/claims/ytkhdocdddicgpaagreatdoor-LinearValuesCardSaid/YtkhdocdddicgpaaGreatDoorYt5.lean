/- Part 5: what the law's walk leans on. -/
import Derived.Test.YtkhdocdddicgpaaGreatDoorYt4
import Derived.Test.YtkhdocdddicgpaaGreatDoorYt0
import Derived.Test.YtkhdocdddicgpaaGreatDoorYt1
import Derived.Lib.AtoiErrMem
import Derived.Lib.AppendStr
import Derived.Lib.AppendIntMem
import Derived.Lib.SmallJoins
import Derived.Lib.ItoaLen
set_option linter.unusedVariables false
set_option linter.unusedSimpArgs false
namespace Go.Proofs.YtkhdocdddicgpaaGreatDoor
open Go.RowKit _root_.Go.Proofs.YtkhdocdddicgpaaGreatDoor.Nm
theorem byte_at (s:ByteArray) (k:Nat) (h:k<s.size):s.data.toList[k]?=some s[k]:=by
 have h':k<s.data.size:=h
 rw [Array.getElem?_toList,Array.getElem?_eq_getElem h']
 rfl
def digitsOf (s:ByteArray):ByteArray:=⟨(Lib.trimPrefix s.data.toList [45]).toArray⟩
theorem len_size (s:ByteArray):s.data.toList.length=s.size:=(Lib.size_eq s).symm
set_option maxHeartbeats 800000 in
theorem Valid_empty (s:ByteArray) (h:digitsOf s=⟨#[]⟩) (w:World) :
 Calls Tryz.prog 120 #[.string s] w fun e w'=>e = .returned (.bool false)∧w=w':=by
 have H:=Lib.hid h
 go_enter Tryz.func120,Tryz.ntmps120
 go_wp2_with (go_at_call 151;refine (Tryz.strings_TrimPrefix _ _ _).mono ?_;rintro e w' ⟨rfl,rfl⟩;rw [show (⟨(Lib.trimPrefix s.data.toList (ByteArray.mk #[45]).data.toList).toArray⟩:ByteArray)=⟨#[]⟩ from H.out])
 go_ret
 exact ⟨rfl,rfl⟩
theorem ne_empty (t:ByteArray) (h:0<t.size):t.toList.isEmpty=false:=by
 rw [List.isEmpty_eq_false_iff]
 intro h2
 rw [Lib.toList_data] at h2
 have:=len_size t
 rw [h2] at this
 simp at this;omega
set_option maxHeartbeats 800000 in
theorem Valid_long (s t:ByteArray) (h:digitsOf s=t) (hl:400<t.size) (w:World) :
 Calls Tryz.prog 120 #[.string s] w fun e w'=>e = .returned (.bool false)∧w=w':=by
 have H:=Lib.hid h
 have hne:=ne_empty t (by omega)
 have hd:decide ((400:Int)<t.size)=true:=by simp;omega
 clear h
 go_enter Tryz.func120,Tryz.ntmps120
 go_wp2_with (go_at_call 151;refine (Tryz.strings_TrimPrefix _ _ _).mono ?_;rintro e w' ⟨rfl,rfl⟩;rw [show (⟨(Lib.trimPrefix s.data.toList (ByteArray.mk #[45]).data.toList).toArray⟩:ByteArray)=t from H.out])
 go_ret
 exact ⟨rfl,rfl⟩
theorem bad_byte (c:UInt8) (h:isDig c=false):decide ((c.toNat:Int)<48)=true∨(decide ((c.toNat:Int)<48)=false∧decide ((57:Int)<c.toNat)=true):=by
 simp [isDig] at h
 by_cases h1:c.toNat<48
 · left;simp;omega
 · right;simp;omega
theorem good_byte (c:UInt8) (h:isDig c=true):decide ((c.toNat:Int)<48)=false∧decide ((57:Int)<c.toNat)=false:=by
 simp [isDig] at h;simp;omega
theorem digs_step (t:ByteArray) (k:Nat) (hk:k<t.size) (h:(t.data.toList.take k).all isDig=true) (hd:isDig t[k]=true):(t.data.toList.take (k+1)).all isDig=true:=by
 rw [List.take_add_one,byte_at t k hk,List.all_append,h]
 simp [hd]
theorem digs_bad (t:ByteArray) (k:Nat) (hk:k<t.size) (hd:isDig t[k]=false):t.data.toList.all isDig=false:=by
 rw [← Bool.not_eq_true,List.all_eq_true]
 intro h
 have:=h t[k] (List.mem_iff_getElem?.2 ⟨k,byte_at t k hk⟩)
 rw [hd] at this;cases this
set_option maxHeartbeats 1600000 in
theorem Valid_body (s t:ByteArray) (b:Bool) (h:digitsOf s=t) (h0:0<t.size) (hl:t.size≤400) (w:World) (hb:b=(t.data.toList.all isDig&&((t[0] != 48) || (s.toList==[48])))) :
 Calls Tryz.prog 120 #[.string s] w fun e w'=>e = .returned (.bool b)∧w=w':=by
 have H:=Lib.hid h
 have hne:=ne_empty t (by omega)
 have hd:decide ((400:Int)<t.size)=false:=by simp;omega
 have HB:=Lib.hid hb
 clear h hb
 go_enter Tryz.func120,Tryz.ntmps120
 go_wp2_with (go_at_call 151;refine (Tryz.strings_TrimPrefix _ _ _).mono ?_;rintro e w' ⟨rfl,rfl⟩;rw [show (⟨(Lib.trimPrefix s.data.toList (ByteArray.mk #[45]).data.toList).toArray⟩:ByteArray)=t from H.out])
 go_loop [4,16] (fun i j=>∃ k:Nat,k≤t.size∧j = .int .i64 k∧Hid ((t.data.toList.take k).all isDig=true)) (fun _ j=>t.size-(intOf j).toNat)
 case atStart=>exact ⟨0,by omega,rfl,Lib.hid rfl⟩
 case round =>
  obtain ⟨k,hk,rfl,HK⟩:=hrel
  by_cases hlt:k<t.size
  · cases hx:isDig t[k]
    · have HF:Hid (b=false):=Lib.hid (by rw [HB.out,digs_bad t k hlt hx];rfl)
      rcases bad_byte _ hx with h1 | ⟨h1,h2⟩
      · clear hx
        go_wp2
        go_ret
        exact ⟨by rw [HF.out];rfl,rfl⟩
      · clear hx
        go_wp2
        go_ret
        exact ⟨by rw [HF.out];rfl,rfl⟩
    · obtain ⟨h1,h2⟩:=good_byte _ hx
      have HK2:=Lib.hid (digs_step t k hlt HK.out hx)
      clear hx
      go_wp2
      go_round
      case rel=>exact ⟨k+1,by omega,by go_num,HK2⟩
      case measure=>simp [intOf];omega
  · have hke:k=t.size:=by omega
    have HA:Hid (t.data.toList.all isDig=true):=Lib.hid (by have:=HK.out;rwa [hke,List.take_of_length_le (by rw [len_size];exact Nat.le_refl _)] at this)
    have hz0:(0:Int)<t.size:=by omega
    clear hke
    by_cases h48:t[0]=48
    · have hb1:(((t[0]).toNat:Int) != 48)=false:=by rw [h48];rfl
      have HF:Hid (b=(s.toList==[48])):=Lib.hid (by rw [HB.out,HA.out,h48];simp)
      clear h48
      go_wp2
      go_ret
      exact ⟨by rw [HF.out];rfl,rfl⟩
    · have hb1:(((t[0]).toNat:Int) != 48)=true:=by
       rw [bne_iff_ne];intro h;exact h48 (UInt8.toNat_inj.1 (by rw [show (48:UInt8).toNat=48 from rfl];omega))
      have HF:Hid (b=true):=Lib.hid (by rw [HB.out,HA.out,show (t[0] != 48)=true from by simpa using h48];rfl)
      clear h48
      go_wp2
      go_ret
      exact ⟨by rw [HF.out];rfl,rfl⟩
theorem trim_neg (r:List UInt8):Lib.trimPrefix (45::r) [45]=r:=by
 simp [Lib.trimPrefix,Lib.hasPrefix]
theorem trim_pos (l:List UInt8) (h:l.head?≠some 45):Lib.trimPrefix l [45]=l:=by
 cases l with
 | nil=>rfl
 | cons c r =>
  have:c≠45:=by simpa using h
  simp [Lib.trimPrefix,Lib.hasPrefix]
  intro h2
  exact absurd h2 (by first | exact this | exact fun h=>this h.symm)
theorem head_zero (t:ByteArray) (h0:0<t.size):t.data.toList.head?=some t[0]:=by
 rw [List.head?_eq_getElem?];exact byte_at t 0 h0
theorem Valid_any (s:ByteArray) (w:World) :
 Calls Tryz.prog 120 #[.string s] w fun e w'=>e = .returned (.bool (canon s.data.toList))∧w=w':=by
 obtain ⟨t,ht⟩:∃ t,digitsOf s=t:=⟨_,rfl⟩
 have hl:t.data.toList=Lib.trimPrefix s.data.toList [45]:=by rw [← ht];simp [digitsOf]
 have hz:=len_size t
 by_cases h45:s.data.toList.head?=some 45
 · obtain ⟨r,hr⟩:∃ r,s.data.toList=45::r:=by
    cases h:s.data.toList with
    | nil=>rw [h] at h45;simp at h45
    | cons c r=>rw [h] at h45;simp at h45;exact ⟨r,by rw [h45]⟩
   rw [hr,trim_neg] at hl
   rw [hl] at hz
   rw [hr,canon_neg]
   by_cases h0:t.size=0
   · have:r=[]:=List.length_eq_zero_iff.1 (by omega)
     subst this
     exact Valid_empty s (by rw [ht];apply ByteArray.ext;apply Array.toList_inj.1;rw [hl]) w
   · by_cases h4:400<t.size
     · rw [show decide (r.length≤400)=false by simp;omega,Bool.and_false]
       exact Valid_long s t ht h4 w
     · rw [show decide (r.length≤400)=true by simp;omega,Bool.and_true]
       refine Valid_body s t _ ht (by omega) (by omega) w ?_
       have hh:=head_zero t (by omega)
       rw [hl] at hh
       rw [Lib.toList_data,hr,hl,canonN,hh]
       have hne:r.isEmpty=false:=by rw [List.isEmpty_eq_false_iff];rintro rfl;simp at hz;omega
       rw [hne]
       have hsome:(some t[0] != some 48)=(t[0] != 48):=rfl
       rw [hsome]
       cases hx:r.all isDig <;> by_cases hy:t[0]=48 <;> simp [hy]
 · rw [trim_pos _ h45] at hl
   rw [hl] at hz
   rw [canon_pos _ h45]
   by_cases h0:t.size=0
   · have:s.data.toList=[]:=List.length_eq_zero_iff.1 (by omega)
     rw [this]
     exact Valid_empty s (by rw [ht];apply ByteArray.ext;apply Array.toList_inj.1;rw [hl,this]) w
   · by_cases h4:400<t.size
     · rw [show decide (s.data.toList.length≤400)=false by simp only [decide_eq_false_iff_not];omega,Bool.and_false]
       exact Valid_long s t ht h4 w
     · rw [show decide (s.data.toList.length≤400)=true by simp only [decide_eq_true_eq];omega,Bool.and_true]
       refine Valid_body s t _ ht (by omega) (by omega) w ?_
       have hh:=head_zero t (by omega)
       rw [hl] at hh
       rw [Lib.toList_data,hl,canonN,hh]
       have hsome:(some t[0] != some 48)=(t[0] != 48):=rfl
       have hone:(s.data.toList.length==1)=true→t[0]=48→s.data.toList=[48]:=by
        intro h1 h2
        cases hL:s.data.toList with
        | nil=>rw [hL] at h1;cases h1
        | cons c r =>
         rw [hL] at h1 hh
         simp at h1 hh
         rw [h1,hh,h2]
       have hne:s.data.toList.isEmpty=false:=by rw [List.isEmpty_eq_false_iff];intro h;rw [h] at hh;cases hh
       rw [hsome,hne]
       cases hx:s.data.toList.all isDig
       · rfl
       · by_cases hy:t[0]=48
         · rw [show (t[0] != 48)=false from by simp [hy]]
           cases h1:(s.data.toList.length==1)
           · have:(s.data.toList==[48])=false:=by
              rw [beq_eq_false_iff_ne];intro h;rw [h] at h1;cases h1
             rw [this];rfl
           · rw [hone h1 hy];rfl
         · rw [show (t[0] != 48)=true from by simp [hy]];rfl
end Go.Proofs.YtkhdocdddicgpaaGreatDoor
set_option linter.unusedVariables false
set_option linter.unusedSimpArgs false
namespace Go.Proofs.YtkhdocdddicgpaaGreatDoor
open Go.RowKit _root_.Go.Proofs.YtkhdocdddicgpaaGreatDoor.Nm
theorem all_take (l:List UInt8) (n:Nat) (h:l.all isDig=true):(l.take n).all isDig=true :=
 List.all_eq_true.2 fun c hc=>List.all_eq_true.1 h c (List.mem_of_mem_take hc)
theorem all_drop (l:List UInt8) (n:Nat) (h:l.all isDig=true):(l.drop n).all isDig=true :=
 List.all_eq_true.2 fun c hc=>List.all_eq_true.1 h c (List.mem_of_mem_drop hc)
theorem read_limb (l:List UInt8) (e:Nat) (he:e≤l.length) (h:l.all isDig=true) :
 tv (l.take e)=tv ((l.take e).drop (e-9))+1000000000*tv (l.take (e-9)):=by
 have h1:l.take e=l.take (e-9)++(l.take e).drop (e-9):=by
  conv=>lhs;rw [← List.take_append_drop (e-9) (l.take e)]
  rw [List.take_take,Nat.min_eq_left (by omega)]
 conv=>lhs;rw [h1]
 rw [tv_append]
 by_cases h9:9≤e
 · rw [show ((l.take e).drop (e-9)).length=9 from by rw [List.length_drop,List.length_take];omega]
 · rw [show e-9=0 from by omega,List.take_zero,tv_nil]
   simp
theorem read_digit (l:List UInt8) (b j:Nat) (c:UInt8) (hc:l[b+j]?=some c):tv ((l.drop b).take (j+1))=dig c+10*tv ((l.drop b).take j):=by
 rw [List.take_add_one,List.getElem?_drop,hc]
 exact tv_snoc _ _
theorem read_next (l:List UInt8) (e b:Nat) (zs:List Nat) (x m:Nat) (he2:e≤l.length) (hk:zs.length<m) {i2:Nat} (hie:i2=e-b) (he:e=l.length-9*zs.length) (hb:b=e-9)
 (hd:l.all isDig=true) (hz:∀ z∈zs,z<1000000000) (hv:tv l=vl 1000000000 zs+1000000000 ^ zs.length*tv (l.take (l.length-9*zs.length))) (hx:x=tv ((l.drop b).take i2)) :
 (∀ z∈zs++[x],z<1000000000)∧tv l=vl 1000000000 (zs++[x])+1000000000 ^ (zs++[x]).length*tv (l.take (l.length-9*(zs++[x]).length)):=by
 have hx2:=hx
 rw [hie, ← List.drop_take] at hx2
 have hn:=read_limb l e he2 hd
 rw [← hb, ← hx2] at hn
 refine ⟨?_,?_⟩
 · intro z h
   rcases List.mem_append.1 h with h | h
   · exact hz z h
   · rw [List.mem_singleton] at h
     have h1:=tv_lt ((l.drop b).take i2) (all_take _ _ (all_drop _ _ hd))
     rw [← hx] at h1
     have h2:((l.drop b).take i2).length≤9:=by rw [List.length_take];omega
     have h3:=Nat.pow_le_pow_right (n:=10) (by omega) h2
     omega
 · rw [← he,hn] at hv
   rw [List.length_append,List.length_singleton,show l.length-9*(zs.length+1)=b from by omega,vl_append,hv,Nat.pow_succ,Nat.mul_add,Nat.mul_assoc]
   simp [vl]
   omega
set_option maxRecDepth 100000 in
set_option maxHeartbeats 1600000 in
theorem readNatural_any (t:ByteArray) (h0:0<t.size) (hl:t.size≤400) (hd:t.data.toList.all isDig=true) (w:World) :
 Calls Tryz.prog 153 #[.string t] w (NatPost (tv t.data.toList) w):=by
 obtain ⟨i0,hi,hz0,hz1,hz2⟩:=info_parts info32
 have HZ2:=Lib.hid hz2
 have HI:=Lib.hid hi
 have HZ0:=Lib.hid hz0
 have HZ1:=Lib.hid hz1
 have HD:=Lib.hid hd
 clear hz2 hi hz0 hz1 hd
 obtain ⟨m,hm⟩:∃ m,m=(t.size+8)/9:=⟨_,rfl⟩
 have hm1:9*m≤t.size+8:=by omega
 have hm2:t.size≤9*m:=by omega
 have HM:=Lib.hid (show ((t.size:Int)+9-1)/9=m by omega)
 clear hm
 go_enter Tryz.func153,Tryz.ntmps153
 go_wp2_with (rw [HM.out];refine wpList_make_full _ rfl (.tmp 12) (.tmp 12) 176 rfl w.heap.size 199 i0 (.int .u32 0) 1 Tryz.underlying176 HI.out HZ0.out HZ1.out .i64 .i64 _ _ m rfl rfl (by simp) (by simp) (by rw [HZ2.out];omega) (by unfold maxLen;omega) (Nat.le_refl _) ?_;intro w1 hown hgrow;refine hold ?_)
 rw [made_zeros] at hown
 obtain ⟨hO,_⟩:=own_of_full (by simp) hown
 have HO:=Lib.hid hO
 have HW:=Lib.hid ((Below.refl w.heap.size w).grown hgrow (Nat.le_refl _) (fun k hk=>by simp at hk))
 clear hown hgrow hO
 refine go_on ?_
 go_wp2
 go_loopw [16] (fun j wr=>∃ zs:List Nat,zs.length≤m∧j = .int .i64 zs.length∧Hid (∀ z∈zs,z<1000000000)∧Hid (tv t.data.toList=vl 1000000000 zs+1000000000 ^ zs.length*tv (t.data.toList.take (t.size-9*zs.length))) ∧
  Hid (Own .u32 199 wr w.heap.size (zs++List.replicate (m-zs.length) 0))∧Hid (Below w.heap.size w wr)) (fun j _=>m-(intOf j).toNat)
 case atStart=>exact ⟨[],by simp,rfl,Lib.hid (by simp),Lib.hid (by simp [vl,List.take_of_length_le,len_size]),Lib.hid HO.out,HW⟩
 case round =>
  obtain ⟨zs,hk,rfl,HZ,HV,HOW,HBL⟩:=hrel
  by_cases hlt:zs.length<m
  · have hlt':(zs.length:Int)<m:=by omega
    obtain ⟨e,he⟩:∃ e,e=t.size-9*zs.length:=⟨_,rfl⟩
    have he1:1≤e:=by omega
    have he2:e≤t.size:=by omega
    have he3:(t.size:Int)-(zs.length:Int)*9=e:=by omega
    obtain ⟨b,hb⟩:∃ b,b=e-9:=⟨_,rfl⟩
    have hb1:b≤e:=by omega
    have hb2:e≤b+9:=by omega
    have hb3:max ((e:Int)-9) 0=b:=by omega
    have HE:=Lib.hid he
    have HB:=Lib.hid hb
    clear he hb
    go_wp2
    have HOW1:Hid (Own .u32 199 wr w.heap.size (zs++(0::List.replicate (m-zs.length-1) 0))):=Lib.hid (by
     have:=HOW.out
     rwa [show m-zs.length=(m-zs.length-1)+1 from by omega,List.replicate_succ] at this)
    clear HOW
    go_loopw [30] (fun j2 wr2=>∃ i2 x:Nat,i2≤e-b∧j2 = .int .i64 i2∧Hid (x=tv ((t.data.toList.drop b).take i2))∧Hid (Own .u32 199 wr2 w.heap.size (zs++(x::List.replicate (m-zs.length-1) 0)))∧Hid (Below w.heap.size w wr2)) (fun j2 _=>(e-b)-(intOf j2).toNat)
    case atStart=>exact ⟨0,0,by omega,rfl,Lib.hid (by rw [List.take_zero];rfl),HOW1,HBL⟩
    case round =>
     obtain ⟨i2,x,hi2,rfl,HX,HOW2,HBL2⟩:=hrel
     by_cases hlt2:i2<e-b
     · have hlt2':(i2:Int)<(e:Int)-b:=by omega
       have hbi:b+i2<t.size:=by omega
       have hdig:=List.all_eq_true.1 HD.out t[b+i2] (List.mem_iff_getElem?.2 ⟨b+i2,byte_at t (b+i2) hbi⟩)
       have hx1:x≤99999999:=by
        have h1:=tv_lt ((t.data.toList.drop b).take i2) (all_take _ _ (all_drop _ _ HD.out))
        rw [← HX.out] at h1
        have h2:((t.data.toList.drop b).take i2).length≤8:=by rw [List.length_take];omega
        have h3:=Nat.pow_le_pow_right (n:=10) (by omega) h2
        omega
       have hc1:wr.cell? ⟨w.heap.size,zs.length,none⟩=some (.int .u32 (x:Nat)):=by
        rw [HOW2.out.cell zs.length (by simp)];simp
       have hf1:wr.frozen? ⟨w.heap.size,zs.length,none⟩=false:=HOW2.out.free _
       have hs:((t[b+i2]).toNat:Int)-48=dig t[b+i2]:=by unfold dig;simp [isDig] at hdig;omega
       have hdl:=dig_lt _ hdig
       generalize hdg:dig t[b+i2]=d at hs hdl
       have HX':=Lib.hid (show x*10+d=tv ((t.data.toList.drop b).take (i2+1)) by rw [read_digit _ b i2 _ (byte_at t (b+i2) hbi),hdg, ← HX.out];omega)
       have HOW2':=Lib.hid (show Own .u32 199 (wr.drew.setCell ⟨w.heap.size,zs.length,none⟩ (.int .u32 ((x:Int)*10+d))) w.heap.size (zs++((x*10+d)::List.replicate (m-zs.length-1) 0)) by
        rw [show (x:Int)*10+d=((x*10+d:Nat):Int) from by simp]
        have h:=(HOW2.out).set zs.length (x*10+d)
        rw [List.set_append_right _ _ (Nat.le_refl _),Nat.sub_self] at h
        exact h)
       have HBL2':=Lib.hid (show Below w.heap.size w (wr.drew.setCell ⟨w.heap.size,zs.length,none⟩ (.int .u32 ((x:Int)*10+d))) from HBL2.out.drew.trans ((Only.refl w.heap.size wr.drew).set _ _ |>.below (Nat.le_refl _)))
       clear hdig hdg
       go_wp2
       have e1:IntKind.i64.wrap ((b:Int)+i2)=b+i2:=IntWalk.i64_in _ (by omega)
       have e2:((b:Int)+i2).toNat=b+i2:=by omega
       have e3:(0:Int)≤(b:Int)+i2:=by omega
       have e4:(b:Int)+i2<t.size:=by omega
       have e5:IntKind.u32.wrap ((x:Int)*10)=x*10:=IntWalk.u32_in _ (by omega)
       have e6:IntKind.u8.wrap (d:Int)=d:=IntWalk.u8_in _ (by omega)
       have e7:IntKind.u32.wrap (d:Int)=d:=IntWalk.u32_in _ (by omega)
       have e8:IntKind.u32.wrap ((x:Int)*10+d)=x*10+d:=IntWalk.u32_in _ (by omega)
       go_still_tail 16,(by kernel_rfl)
       change wpList _ _ _ _ _ wr.drew
       clear e1 e5 e6 e7 e8
       go_wp2
       go_roundw
       case rel=>exact ⟨i2+1,x*10+d,by omega,by go_num,HX',HOW2',HBL2'⟩
       case measure=>simp [intOf];omega
     · have hie:i2=e-b:=by omega
       have HR:=Lib.hid (read_next t.data.toList e b zs x m (by rw [len_size];exact he2) hlt hie (by rw [len_size];exact HE.out) HB.out HD.out HZ.out (by rw [len_size];exact HV.out) HX.out)
       rw [len_size] at HR
       have HOW':Hid (Own .u32 199 wr w.heap.size ((zs++[x])++List.replicate (m-(zs++[x]).length) 0)):=Lib.hid (by
        rw [List.append_assoc,List.length_append,List.length_singleton,show m-(zs.length+1)=m-zs.length-1 from by omega]
        exact HOW2.out)
       have hle:(zs++[x]).length≤m:=by rw [List.length_append,List.length_singleton];omega
       have hlen:((zs++[x]).length:Int)=zs.length+1:=by simp
       have hge:¬ (i2:Int)<(e:Int)-b:=by omega
       clear hie
       go_wp2
       go_roundw
       case rel=>exact ⟨zs++[x],hle,by rw [hlen],Lib.hid HR.out.1,Lib.hid HR.out.2,HOW',HBL2⟩
       case measure=>simp [intOf];omega
  · have hke:zs.length=m:=by omega
    have HV':Hid (tv t.data.toList=vl 1000000000 zs):=Lib.hid (by
     have:=HV.out
     rwa [show t.size-9*zs.length=0 from by omega,List.take_zero,tv_nil,Nat.mul_zero,Nat.add_zero] at this)
    have HR:Hid (Rd .u32 wr (.slice (some ⟨w.heap.size,0,none⟩) m m) zs):=Lib.hid (by
     have h:=HOW.out
     rw [hke,Nat.sub_self,List.replicate_zero,List.append_nil] at h
     have h2:=h.rd m m (by omega) (Nat.le_refl _) (by omega)
     rwa [List.take_of_length_le (by omega)] at h2)
    have hge:¬ (zs.length:Int)<m:=by omega
    clear hke
    go_wp2_with fail
    refine (trim_any _ zs HZ.out _ HR.out).mono ?_
    rintro e w3 ⟨⟨v',rfl,hv,hsm⟩,rfl⟩
    rw [← HV'.out] at hv
    have HVV:=Lib.hid hv
    have HFR:=Lib.hid (Fr.of_same hsm (Nat.le_refl _))
    clear hv hsm
    go_wp2
    go_ret
    exact ⟨_,rfl,HVV.out,HFR.out,HBL.out⟩
end Go.Proofs.YtkhdocdddicgpaaGreatDoor
set_option linter.unusedVariables false
set_option linter.unusedSimpArgs false
namespace Go.Proofs.YtkhdocdddicgpaaGreatDoor
open Go.RowKit _root_.Go.Proofs.YtkhdocdddicgpaaGreatDoor.Nm
theorem canonN_parts {l:List UInt8} (h:canonN l=true):l.all isDig=true∧0<l.length:=by
 simp only [canonN,Bool.and_eq_true,Bool.not_eq_true',List.isEmpty_eq_false_iff] at h
 exact ⟨h.1.1,List.length_pos_iff.2 h.1.2⟩
theorem ext_one (s:ByteArray) (r:List UInt8) (h:s.data.toList=45::r):(s.extract 1 s.size).data.toList=r:=by
 rw [Lib.extract_data,h]
 have:=len_size s
 rw [h] at this
 simp at this
 simp [← this]
theorem tv_cons (c:UInt8) (r:List UInt8):tv (c::r)=tv r+10 ^ r.length*dig c:=by
 have h:=tv_append [c] r
 rw [List.singleton_append] at h
 rw [h]
 rfl
theorem parseM (M:Nat) (hM:M=18446744073709551615) (l:List UInt8) (h:l.all isDig=true) (acc:Nat) (ha:acc≤M) :
 Lib.parseUintM M acc l=if 10 ^ l.length*acc+tv l≤M then .ok (10 ^ l.length*acc+tv l) else .range:=by
 induction l generalizing acc with
 | nil =>
  rw [Lib.parseUintM,List.length_nil,Nat.pow_zero,Nat.one_mul,tv_nil,Nat.add_zero,if_pos ha]
 | cons c r ih =>
  simp only [List.all_cons,Bool.and_eq_true] at h
  have hc:=h.1
  simp [isDig] at hc
  have hv:10 ^ (c::r).length*acc+tv (c::r)=10 ^ r.length*(acc*10+dig c)+tv r:=by
   rw [tv_cons,List.length_cons,Nat.pow_succ,Nat.mul_add,Nat.mul_assoc,Nat.mul_comm 10 acc]
   omega
  have hp:1≤10 ^ r.length:=Nat.one_le_pow _ _ (by omega)
  have hge:acc*10+dig c≤10 ^ r.length*(acc*10+dig c):=Nat.le_mul_of_pos_left _ (by omega)
  rw [Lib.parseUintM,if_pos hc,hv]
  change (if 1844674407370955162≤acc then _ else if M<acc*10+dig c then _ else Lib.parseUintM M (acc*10+dig c) r)=_
  by_cases h1:1844674407370955162≤acc
  · rw [if_pos h1,if_neg (by omega)]
  · rw [if_neg h1]
    by_cases h2:M<acc*10+dig c
    · rw [if_pos h2,if_neg (by omega)]
    · rw [if_neg h2]
      exact ih h.2 _ (by omega)
theorem parse_canon (l:List UInt8) (h:canon l=true):Lib.parseIntB 64 l=if -9223372036854775808≤zv l∧zv l≤9223372036854775807 then .ok (zv l) else .range:=by
 by_cases h45:l.head?=some 45
 · cases l with
   | nil=>simp at h45
   | cons c r =>
    simp at h45
    subst h45
    rw [canon_neg] at h
    simp only [Bool.and_eq_true] at h
    obtain ⟨h1,h2⟩:=canonN_parts h.1.1
    have hne:r≠[]:=by rintro rfl;simp at h2
    have hp:=parseM 18446744073709551615 rfl r h1 0 (by omega)
    rw [Nat.mul_zero,Nat.zero_add] at hp
    rw [zv_neg]
    simp only [Lib.parseIntB,Lib.parseUintB,show ((45:UInt8).toNat=43∨(45:UInt8).toNat=45)=True from by simp,if_true,if_neg hne,show (2 ^ 64-1:Nat)=18446744073709551615 from rfl,hp]
    by_cases hv:tv r≤18446744073709551615
    · rw [if_pos hv]
      by_cases hw:tv r≤9223372036854775808
      · rw [if_pos (⟨by omega,by omega⟩ : -9223372036854775808≤(-(tv r:Int))∧(-(tv r:Int))≤9223372036854775807)]
        simp
        omega
      · rw [if_neg (by omega)]
        simp
        omega
    · rw [if_neg hv,if_neg (by omega)]
 · rw [canon_pos l h45] at h
   simp only [Bool.and_eq_true] at h
   obtain ⟨h1,h2⟩:=canonN_parts h.1
   rw [zv_pos l h45]
   cases l with
   | nil=>simp at h2
   | cons c r =>
    have hp:=parseM 18446744073709551615 rfl (c::r) h1 0 (by omega)
    rw [Nat.mul_zero,Nat.zero_add] at hp
    have hd:=List.all_eq_true.1 h1 c (by simp)
    simp [isDig] at hd
    have e1:(c.toNat=43)=False:=by simp;omega
    have e2:(c.toNat=45)=False:=by simp;omega
    generalize hT:tv (c::r)=T at hp ⊢
    simp only [Lib.parseIntB,Lib.parseUintB,e1,e2,or_self,if_false,show (2 ^ 64-1:Nat)=18446744073709551615 from rfl,hp,if_neg (List.cons_ne_nil c r)]
    by_cases hv:T≤18446744073709551615
    · rw [if_pos hv]
      by_cases hw:T≤9223372036854775807
      · rw [if_pos (⟨by omega,by omega⟩ : -9223372036854775808≤(T:Int)∧(T:Int)≤9223372036854775807)]
        simp
        omega
      · rw [if_neg (by omega)]
        simp
        omega
    · rw [if_neg hv,if_neg (by omega)]
theorem canon_size (s:ByteArray) (h:canon s.data.toList=true):s.size≤401:=by
 rw [← len_size]
 by_cases h45:s.data.toList.head?=some 45
 · cases hl:s.data.toList with
   | nil=>simp
   | cons c r =>
    rw [hl] at h45 h
    simp at h45
    subst h45
    rw [canon_neg] at h
    simp only [Bool.and_eq_true,decide_eq_true_eq] at h
    rw [List.length_cons]
    omega
 · rw [canon_pos _ h45] at h
   simp only [Bool.and_eq_true,decide_eq_true_eq] at h
   omega
theorem below_of_parse {w w1:World} {e:TypeId} (h:w1=w∨∃ t,w1=Lib.bytesWorld w e t):Below w.heap.size w w1:=by
 rcases h with rfl | ⟨t,rfl⟩
 · exact Below.refl _ _
 · exact Lib.bytesWorld_below w e t
theorem short_zv (l:List UInt8) (h:canon l=true) (hl:l.length≤18):(zv l).natAbs<1000000000000000000:=by
 by_cases h45:l.head?=some 45
 · cases l with
   | nil=>simp at h45
   | cons c r =>
    simp at h45
    subst h45
    rw [canon_neg] at h
    simp only [Bool.and_eq_true] at h
    have h1:=tv_lt r (canonN_parts h.1.1).1
    rw [List.length_cons] at hl
    have h2:=Nat.pow_le_pow_right (n:=10) (by omega) (show r.length≤18 by omega)
    rw [zv_neg]
    omega
 · rw [canon_pos l h45] at h
   simp only [Bool.and_eq_true] at h
   have h1:=tv_lt l (canonN_parts h.1).1
   have h2:=Nat.pow_le_pow_right (n:=10) (by omega) hl
   rw [zv_pos l h45]
   omega
theorem cons_of_head (l:List UInt8) (h:l.head?=some 45):∃ r,l=45::r:=by
 cases l with
 | nil=>simp at h
 | cons c r=>simp at h;exact ⟨r,by rw [h]⟩
end Go.Proofs.YtkhdocdddicgpaaGreatDoor
set_option linter.unusedVariables false
set_option linter.unusedSimpArgs false
namespace Go.Proofs.YtkhdocdddicgpaaGreatDoor
open Go.RowKit _root_.Go.Proofs.YtkhdocdddicgpaaGreatDoor.Nm
set_option maxRecDepth 100000 in
set_option maxHeartbeats 1600000 in
theorem Read_short (P:Nat→Prop) (s:ByteArray) (h:canon s.data.toList=true) (hl:s.size≤18) (w:World) :
 Calls Tryz.prog 122 #[.string s] w (IntPost P (zv s.data.toList) w):=by
 have hv:=short_zv _ h (by rw [len_size];exact hl)
 have hp:=parse_canon _ h
 rw [if_pos (by omega)] at hp
 have HP:=Lib.hid hp
 have HV:=Lib.hid hv
 have hd:decide ((s.size:Int)≤18)=true:=by simp;omega
 clear h hp hv
 generalize zv s.data.toList=z at HP HV ⊢
 go_enter Tryz.func122,Tryz.ntmps122
 go_wp2_with fail
 refine (Tryz.strconv_ParseInt_10_at64_ok s (by omega) z HP.out _).mono ?_
 rintro e w1 ⟨rfl,hw⟩
 have HB:=Lib.hid (below_of_parse hw)
 obtain ⟨q0,q1,q2,q3⟩:=((Bx.new w _ _ _).below HB.out (by simp)).cell
 clear hw
 go_wp2
 refine bodyPost_ret (v := .agg #[.int .i64 z,.pointer none]) (by simp [results,Tryz.results122,go_sem,q0,q1]) rfl ?_
 have ho:Only w.heap.size w1 ((w1.setCell ⟨w.heap.size,0,none⟩ (.int .i64 z)).setCell ⟨w.heap.size,1,none⟩ (.pointer none)):=((Only.refl _ w1).set 0 _).set 1 _
 exact ⟨_,rfl,.inl ⟨HV.out,rfl⟩,(((Below.refl w.heap.size w).alloc (Nat.le_refl _) _).trans (HB.out.mono (by simp))).trans (ho.below (Nat.le_refl _))⟩
set_option maxRecDepth 100000 in
set_option maxHeartbeats 1600000 in
theorem Read_pos (P:Nat→Prop) (s:ByteArray) (h:canon s.data.toList=true) (hl:¬ s.size≤18) (h45:s.data.toList.head?≠some 45) (w:World) (hP:∀ k,w.heap.size≤k→P k) :
 Calls Tryz.prog 122 #[.string s] w (IntPost P (zv s.data.toList) w):=by
 rw [canon_pos _ h45] at h
 simp only [Bool.and_eq_true,decide_eq_true_eq] at h
 obtain ⟨h1,h2⟩:=canonN_parts h.1
 have h4:=h.2
 rw [len_size] at h2 h4
 have hz0:(0:Int)<s.size:=by omega
 have hb1:(((s[0]).toNat:Int)==45)=false:=by
  rw [beq_eq_false_iff_ne];intro hh
  apply h45
  rw [head_zero s h2]
  exact congrArg some (UInt8.toNat_inj.1 (by rw [show (45:UInt8).toNat=45 from rfl];omega))
 have HZ:Hid (sz false (tv s.data.toList)=zv s.data.toList):=Lib.hid (zv_pos _ h45).symm
 have HD:=Lib.hid h1
 have HK:Hid (∀ k,w.heap.size+1≤k→P k∧k≠w.heap.size):=Lib.hid (fun k hk=>⟨hP k (by omega),by omega⟩)
 have hd:decide ((s.size:Int)≤18)=false:=by simp;omega
 clear h h1 h45 hP hl
 generalize zv s.data.toList=z at HZ ⊢
 go_enter Tryz.func122,Tryz.ntmps122
 go_wp2_with fail
 refine (readNatural_any s h2 h4 HD.out _).mono ?_
 rintro e w1 ⟨v,rfl,hv,hf,hb⟩
 have HV:=Lib.hid hv
 have HF:=Lib.hid hf
 have HB:=Lib.hid hb
 clear hv hf hb
 go_wp2_with fail
 refine (signed_any (fun k=>P k∧k≠w.heap.size) _ _ _ _ (by intro k hk;exact HK.out k (Nat.le_trans (by have:=HB.out.size;simp at this;omega) hk)) HV.out (In.fresh HF.out (by intro k hk;exact HK.out k (by simpa using hk)))).mono ?_
 rintro e w2 ⟨v2,rfl,hv,hb⟩
 rw [HZ.out] at hv
 obtain ⟨s',p,rfl⟩:=hv.form
 obtain ⟨q0,q1,q2,q3⟩:=(((Bx.new w _ _ _).below HB.out (by simp)).below hb (by have:=HB.out.size;simp at this;omega)).cell
 have HV2:=Lib.hid hv
 have HB2:=Lib.hid (((Below.refl w.heap.size w).alloc (Nat.le_refl _) _).trans ((HB.out.mono (by simp)).trans (hb.mono (by have:=HB.out.size;simp at this;omega))))
 clear hv hb
 go_wp2
 refine bodyPost_ret (v := .agg #[.int .i64 s',.pointer p]) (by simp [results,Tryz.results122,go_sem,q0,q1]) rfl ?_
 exact IntPost.boxed HB2.out (Nat.le_refl _) HV2.out
set_option maxRecDepth 100000 in
set_option maxHeartbeats 1600000 in
theorem Read_neg (P:Nat→Prop) (s:ByteArray) (r:List UInt8) (h:canon s.data.toList=true) (hl:¬ s.size≤18) (hr:s.data.toList=45::r) (w:World) (hP:∀ k,w.heap.size≤k→P k) :
 Calls Tryz.prog 122 #[.string s] w (IntPost P (zv s.data.toList) w):=by
 have hx:=ext_one s r hr
 have hsz:=len_size s
 rw [hr] at h hsz
 rw [canon_neg] at h
 simp only [Bool.and_eq_true,decide_eq_true_eq] at h
 obtain ⟨h1,h2⟩:=canonN_parts h.1.1
 have h4:=h.2
 have hxs:=len_size (s.extract 1 s.size)
 rw [hx] at hxs
 have hz0:(0:Int)<s.size:=by simp at hsz;omega
 have hz1:(1:Int)≤s.size:=by omega
 have h0:0<s.size:=by omega
 have hb1:(((s[0]).toNat:Int)==45)=true:=by
  have:=head_zero s h0
  rw [hr] at this
  simp at this
  rw [← this];rfl
 have HZ:Hid (sz true (tv r)=zv s.data.toList):=Lib.hid (by rw [hr,zv_neg];rfl)
 have HX:=Lib.hid hx
 have HD:=Lib.hid h1
 have HK:Hid (∀ k,w.heap.size+1≤k→P k∧k≠w.heap.size):=Lib.hid (fun k hk=>⟨hP k (by omega),by omega⟩)
 have hd:decide ((s.size:Int)≤18)=false:=by simp;omega
 rw [hxs] at h2 h4
 clear h h1 hr hx hsz hxs hP hl
 generalize zv s.data.toList=z at HZ ⊢
 go_enter Tryz.func122,Tryz.ntmps122
 go_wp2_with fail
 refine (readNatural_any (s.extract 1 s.size) h2 h4 (by rw [HX.out];exact HD.out) _).mono ?_
 rw [HX.out]
 rintro e w1 ⟨v,rfl,hv,hf,hb⟩
 have HV:=Lib.hid hv
 have HF:=Lib.hid hf
 have HB:=Lib.hid hb
 clear hv hf hb
 go_wp2_with fail
 refine (signed_any (fun k=>P k∧k≠w.heap.size) _ _ _ _ (by intro k hk;exact HK.out k (Nat.le_trans (by have:=HB.out.size;simp at this;omega) hk)) HV.out (In.fresh HF.out (by intro k hk;exact HK.out k (by simpa using hk)))).mono ?_
 rintro e w2 ⟨v2,rfl,hv,hb⟩
 rw [HZ.out] at hv
 obtain ⟨s',p,rfl⟩:=hv.form
 obtain ⟨q0,q1,q2,q3⟩:=(((Bx.new w _ _ _).below HB.out (by simp)).below hb (by have:=HB.out.size;simp at this;omega)).cell
 have HV2:=Lib.hid hv
 have HB2:=Lib.hid (((Below.refl w.heap.size w).alloc (Nat.le_refl _) _).trans ((HB.out.mono (by simp)).trans (hb.mono (by have:=HB.out.size;simp at this;omega))))
 clear hv hb
 go_wp2
 refine bodyPost_ret (v := .agg #[.int .i64 s',.pointer p]) (by simp [results,Tryz.results122,go_sem,q0,q1]) rfl ?_
 exact IntPost.boxed HB2.out (Nat.le_refl _) HV2.out
theorem Read_any (P:Nat→Prop) (s:ByteArray) (h:canon s.data.toList=true) (w:World) (hP:∀ k,w.heap.size≤k→P k) :
 Calls Tryz.prog 122 #[.string s] w (IntPost P (zv s.data.toList) w):=by
 by_cases hl:s.size≤18
 · exact Read_short P s h hl w
 · by_cases h45:s.data.toList.head?=some 45
   · obtain ⟨r,hr⟩:=cons_of_head _ h45
     exact Read_neg P s r h hl hr w hP
   · exact Read_pos P s h hl h45 w hP
end Go.Proofs.YtkhdocdddicgpaaGreatDoor
set_option linter.unusedVariables false
set_option linter.unusedSimpArgs false
namespace Go.Proofs.YtkhdocdddicgpaaGreatDoor
open Go.RowKit _root_.Go.Proofs.YtkhdocdddicgpaaGreatDoor.Nm
abbrev Tab (w : World) : Prop := Lib.TabIs Tryz.prog w "internal/strconv.uint64pow10" .u64 Lib.pow10Tab
abbrev TabFrom (B : Nat) (w : World) : Prop := Lib.TabBelow Tryz.prog B w "internal/strconv.uint64pow10" .u64 Lib.pow10Tab
def TxtPost (B:Nat) (w:World) (out:List UInt8) (e:Ending) (w':World):Prop :=
 ∃ v',e = .returned v'∧w'.ownsRow B 5 1 v' out.length (Lib.byteCells out)∧Below B w w'
theorem byteCells_append (x y:List UInt8):Lib.byteCells (x++y)=Lib.byteCells x++Lib.byteCells y:=by simp [Lib.byteCells]
theorem info8:(Tryz.prog.info? 5).map (fun i=>(i.zero,i.size,i.bytes))=some (some (.int .u8 0),1,1):=by kernel_rfl
theorem AppendUint_any (B:Nat) (out:List UInt8) (u:Nat) (hu:u<18446744073709551616) (sv:Value) (w:World) (hown:w.ownsRow B 5 1 sv out.length (Lib.byteCells out)) (hB:B≤w.heap.size) (hl:out.length≤100000) (htab:Tab w) :
 Calls Tryz.prog 226 #[sv,.int .u64 u,.int .i64 10] w (TxtPost B w (out++Lib.decDigits u)):=by
 have h:=Tryz.internal_strconv_AppendUint_10 B out.length u hu sv _ w hown hB (by omega) htab
 have H:=Lib.hid h
 clear h hown htab
 go_enter Tryz.func226,Tryz.ntmps226
 go_wp2_with fail
 refine H.out.mono ?_
 rintro e w1 ⟨v',rfl,h1,h2,_⟩
 have H1:=Lib.hid h1
 have H2:=Lib.hid h2
 clear h1 h2
 go_wp2
 go_ret
 exact ⟨v',rfl,by rw [List.length_append,byteCells_append];exact H1.out,H2.out⟩
set_option maxHeartbeats 2000000 in
set_option maxRecDepth 100000 in
theorem appendTo_zero (B:Nat) (out:List UInt8) (aa:Option Addr) (ca:Nat) (sv:Value) (w:World) (hown:w.ownsRow B 5 1 sv out.length (Lib.byteCells out)) (hB:B≤w.heap.size) (hl:out.length≤100000) :
 Calls Tryz.prog 203 #[.slice aa 0 ca,sv] w (TxtPost B w (out++[48])):=by
 obtain ⟨i0,hi,hz0,hz1,hz2⟩:=info_parts info8
 go_enter Tryz.func203,Tryz.ntmps203
 go_wp2_with (at_builtin;refine wpList_append_own _ rfl _ _ 128 rfl B 5 i0 (.int .u8 0) 1 1 Tryz.underlying128 hi hz0 hz1 hz2 rfl (by decide) _ _ _ rfl (hown.alloc _) ⟨w.heap.size,0,none⟩ 1 1 [.int .u8 48] rfl rfl ?c1 ?c2 ?c3 ?c4 ?c5 ?_)
 case c1 =>
  intro j u hj
  match j,hj with
  | 0,hj=>simp at hj;subst hj;simp [Addr.add]
 case c2=>intro u hu;simp at hu;subst hu;rfl
 case c3=>unfold maxLen;omega
 case c4=>omega
 case c5=>simp;omega
 intro v' w2 hown' hgrow _
 have H1:=Lib.hid hown'
 have H2:=Lib.hid (((Below.refl B w).alloc hB _).grown hgrow (by simp;omega) (fun k hk=>(hown.lt k hk).1))
 clear hown' hgrow
 go_wp2
 go_ret
 exact ⟨v',rfl,by rw [List.length_append,byteCells_append];exact H1.out,H2.out⟩
theorem dec_step (x m:Nat) (hx:x<1000000000) (hm:0<m) (out:List UInt8):out++Lib.decDigits m++(Lib.decDigits (1000000000+x)).drop 1=out++Lib.decDigits (x+1000000000*m):=by
 rw [pad_nine x hx,dec_limb m x hm hx,List.append_assoc]
theorem itoa_base (x:Nat):Lib.itoa ((1000000000:Int)+x)=Lib.decDigits (1000000000+x):=by
 rw [Lib.itoa,if_neg (by omega),show ((1000000000:Int)+x).toNat=1000000000+x from by omega]
set_option maxHeartbeats 2000000 in
set_option maxRecDepth 100000 in
theorem appendTo_pos (B g off ca:Nat) (out:List UInt8) (xs:List Nat) (sv:Value) (w:World) (hown:w.ownsRow B 5 1 sv out.length (Lib.byteCells out)) (hB:B≤w.heap.size) (hl:out.length≤1000)
 (h0:0<xs.length) (hxl:xs.length≤1000) (hx:∀ x∈xs,x<1000000000) (hlast:xs.getLast?≠some 0) (hr:Row .u32 w g off xs) (hg:g<B) (htab:TabFrom B w) :
 Calls Tryz.prog 203 #[.slice (some ⟨g,off,none⟩) xs.length ca,sv] w (TxtPost B w (out++Lib.decDigits (vl 1000000000 xs))):=by
 obtain ⟨i0,hi,hz0,hz1,hz2⟩:=info_parts info8
 have HI:=Lib.hid hi
 have HZ0:=Lib.hid hz0
 have HZ1:=Lib.hid hz1
 have HZ2:=Lib.hid hz2
 have HX:=Lib.hid hx
 have HR:=Lib.hid hr
 have HT:=Lib.hid htab
 have HOWN:=Lib.hid hown
 obtain ⟨top,htop⟩:∃ top,xs.length=top+1:=⟨xs.length-1,by omega⟩
 have htl:top<xs.length:=by omega
 have hx1:=hx _ (List.getElem_mem htl)
 have hc1:w.cell? ⟨g,off+top,none⟩=some (.int .u32 (xs[top]:Nat)):=hr top htl
 have hpos:0<xs[top]:=by
  have:xs.getLast?=some xs[top]:=by rw [List.getLast?_eq_getElem?,htop,Nat.add_sub_cancel,List.getElem?_eq_getElem htl]
  rw [this] at hlast
  have:xs[top]≠0:=fun h=>hlast (by rw [h])
  omega
 have HD0:Hid (xs.drop top=[xs[top]]):=Lib.hid (by
  rw [List.drop_eq_getElem_cons htl,List.drop_of_length_le (by omega)])
 have hz:((xs.length:Int)==0)=false:=by rw [beq_eq_false_iff_ne];omega
 have htop2:(xs.length:Int)-1=top:=by omega
 have htl2:(top:Int)<xs.length:=by omega
 clear hi hz0 hz1 hz2 hx hr htab hown hlast
 go_enter Tryz.func203,Tryz.ntmps203
 go_wp2_with fail
 refine (AppendUint_any B out xs[top] (by omega) _ _ HOWN.out hB (by omega) HT.out.here).mono ?_
 rintro e w1 ⟨v1,rfl,h1,h2⟩
 have H1:=Lib.hid h1
 have H2:=Lib.hid h2
 clear h1 h2
 go_wp2
 go_loopw [1,24] (fun tv j wr=>∃ (k:Nat) (O:List UInt8),k≤top∧j = .int .i64 k∧O.length≤1020+9*k∧Hid (O=out++Lib.decDigits (vl 1000000000 (xs.drop (top-k))))∧Hid (0<vl 1000000000 (xs.drop (top-k))) ∧
  Hid (wr.ownsRow B 5 1 tv O.length (Lib.byteCells O))∧Hid (Below B w wr)) (fun _ j _=>top-(intOf j).toNat)
 case atStart =>
  have hv1:vl 1000000000 [xs[top]]=xs[top]:=by simp [vl]
  exact ⟨0,out++Lib.decDigits xs[top],by omega,rfl,by have:=Lib.nDigits_le20 xs[top] (by omega);rw [← Lib.decDigits_length] at this;rw [List.length_append];omega,Lib.hid (by rw [Nat.sub_zero,HD0.out,hv1]),Lib.hid (by rw [Nat.sub_zero,HD0.out,hv1];exact hpos),H1,H2⟩
 case round =>
  obtain ⟨k,O,hk,rfl,hOl,HOE,HVP,HO,HB⟩:=hrel
  by_cases hlt:k<top
  · have hlt':(k:Int)<top:=by omega
    obtain ⟨p,hp⟩:∃ p:Nat,p=top-1-k:=⟨_,rfl⟩
    have hpl:p<xs.length:=by omega
    have hpl':(p:Int)<xs.length:=by omega
    have hpe:(top:Int)-1-k=p:=by omega
    have HP:=Lib.hid (show top-k=p+1 by omega)
    have HP2:=Lib.hid (show top-(k+1)=p by omega)
    clear hp
    have hx2:=HX.out _ (List.getElem_mem hpl)
    have hc2:wr.cell? ⟨g,off+p,none⟩=some (.int .u32 (xs[p]:Nat)):=(HB.out.cell (p:=⟨g,off+p,none⟩) hg).trans (HR.out p hpl)
    rw [HP.out] at HOE HVP
    have HDP:Hid (vl 1000000000 (xs.drop p)=xs[p]+1000000000*vl 1000000000 (xs.drop (p+1))):=Lib.hid (by rw [List.drop_eq_getElem_cons hpl];rfl)
    have HS:Hid (O++(Lib.decDigits (1000000000+xs[p])).drop 1=out++Lib.decDigits (vl 1000000000 (xs.drop (top-(k+1))))):=Lib.hid (by
     rw [HOE.out,HP2.out,HDP.out];exact dec_step xs[p] _ hx2 HVP.out out)
    have HVP':Hid (0<vl 1000000000 (xs.drop (top-(k+1)))):=Lib.hid (by rw [HP2.out,HDP.out];have:=HVP.out;omega)
    have h9:((Lib.decDigits (1000000000+xs[p])).drop 1).length=9:=by rw [pad_nine _ hx2,pad_length]
    have hsz:(⟨(Lib.itoa ((1000000000:Int)+xs[p])).toArray⟩:ByteArray)=⟨(Lib.decDigits (1000000000+xs[p])).toArray⟩:=by rw [itoa_base]
    obtain ⟨s,hs⟩:∃ s:ByteArray,s=⟨(Lib.decDigits (1000000000+xs[p])).toArray⟩:=⟨_,rfl⟩
    have hs1:s.data.toList=Lib.decDigits (1000000000+xs[p]):=by rw [hs]
    have hs2:1≤s.size:=by rw [← len_size,hs1];exact List.length_pos_iff.2 (dec_ne _)
    have hs3:(1:Int)≤s.size:=by omega
    have hs4:(s.extract 1 s.size).data.toList=(Lib.decDigits (1000000000+xs[p])).drop 1:=by
     rw [Lib.extract_data,hs1, ← len_size,hs1]
     exact List.take_of_length_le (by rw [List.length_drop];exact Nat.le_refl _)
    rw [← hs] at hsz
    have HS1:=Lib.hid hsz
    have HS4:=Lib.hid hs4
    clear hs hs1 hsz hs4
    go_wp2_with fail
    refine (Tryz.strconv_Itoa _ (by omega) (by omega) _ (HT.out _ HB.out)).mono ?_
    rintro e w2 ⟨rfl,kk,os,hw2⟩
    rw [HS1.out]
    have hsx:(s.extract 1 s.size).size=9:=by rw [← len_size,HS4.out];exact h9
    have HO2:Hid (w2.ownsRow B 5 1 u1 O.length (Lib.byteCells O)):=Lib.hid (by rw [hw2];exact Lib.ownsRow_grow HO.out kk os)
    have HB2:=Lib.hid (show Below B w w2 from by rw [hw2];exact HB.out.trans (Lib.below_grow B wr (by have:=HB.out.size;omega) kk os))
    have hw2s:B≤w2.heap.size:=by have:=HB2.out.size;omega
    clear hw2
    go_wp2_with (at_builtin;refine Lib.wpList_append_own_string _ rfl _ _ 128 9 rfl B 5 i0 Tryz.underlying128 Tryz.underlying9 HI.out HZ0.out HZ1.out HZ2.out _ _ _ rfl HO2.out (s.extract 1 s.size) rfl ?c3 ?c4 ?c5 ?_)
    case c3=>rw [hsx];unfold maxLen;omega
    case c4=>rw [hsx];omega
    case c5=>exact hw2s
    intro v' w3 hown' hgrow _
    have HN:Hid (w3.ownsRow B 5 1 v' (O++(Lib.decDigits (1000000000+xs[p])).drop 1).length (Lib.byteCells (O++(Lib.decDigits (1000000000+xs[p])).drop 1))):=Lib.hid (by
     rw [List.length_append,byteCells_append,h9, ← HS4.out];exact hown')
    have HB3:=Lib.hid (HB2.out.grown hgrow hw2s (fun k hk=>(HO2.out.lt k hk).1))
    have hOl':(O++(Lib.decDigits (1000000000+xs[p])).drop 1).length≤1020+9*(k+1):=by rw [List.length_append,h9];omega
    clear hown' hgrow
    go_wp2
    go_roundw
    case rel=>exact ⟨k+1,_,by omega,by go_num,hOl',HS,HVP',HN,HB3⟩
    case measure=>simp [intOf];omega
  · have hke:k=top:=by omega
    have HOE':Hid (O=out++Lib.decDigits (vl 1000000000 xs)):=Lib.hid (by have:=HOE.out;rwa [hke,Nat.sub_self,List.drop_zero] at this)
    have hge:¬ (k:Int)<top:=by omega
    clear hke
    go_wp2
    go_ret
    exact ⟨_,rfl,by rw [← HOE'.out];exact HO.out,HB.out⟩
end Go.Proofs.YtkhdocdddicgpaaGreatDoor
