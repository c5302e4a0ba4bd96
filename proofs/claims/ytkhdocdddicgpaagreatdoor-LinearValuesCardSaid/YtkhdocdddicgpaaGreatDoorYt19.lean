/- Part 19: what the law's walk leans on. -/
import Derived.Test.YtkhdocdddicgpaaGreatDoorYt18
import Derived.Laws.Concat
import Derived.Lib.AppendIntMem
import Derived.Test.YtkhdocdddicgpaaGreatDoorYt17
set_option linter.unusedVariables false
set_option linter.unusedSimpArgs false
namespace Go.Proofs.YtkhdocdddicgpaaGreatDoor
open Go.RowKit Go.Maps _root_.Go.Proofs.YtkhdocdddicgpaaGreatDoor.Nm
def sgnT (neg first:Bool):List UInt8:=if first=true then (if neg=true then [45] else []) else if neg=true then [32,45,32] else [32,43,32]
def negT (l:List UInt8):Bool:=Lib.hasPrefix l [45]
def magT (l:List UInt8):List UInt8:=Lib.trimPrefix l [45]
def bodyT (m name:List UInt8):List UInt8:=if name=[] then m else if m=[49] then name else m++32::name
def partT (l name:List UInt8) (first:Bool):List UInt8:=sgnT (negT l) first++bodyT (magT l) name
def nameT (c:Int):List UInt8:=120::Lib.itoa c
def termsT:List UInt8→List Qm→List UInt8
 | out,[]=>out
 | out,p::q=>termsT (out++partT (rt p.2) (nameT p.1) out.isEmpty) q
def lastT (out:List UInt8) (l:List UInt8):List UInt8:=if l=[48] then out else out++partT l [] out.isEmpty
def formT (qc:Rat) (q:List Qm):List UInt8:=if q=[] then rt qc else lastT (termsT [] q) (rt qc)
theorem termsT_snoc (q:List Qm) (p:Qm):∀ out,termsT out (q++[p])=termsT out q++partT (rt p.2) (nameT p.1) (termsT out q).isEmpty:=by
 induction q with
 | nil=>intro out;rfl
 | cons a q ih=>intro out;exact ih _
set_option maxRecDepth 100000 in
set_option maxHeartbeats 1600000 in
theorem sign_any (neg first:Bool) (s:ByteArray) (w:World) (hs:Hid (s=⟨(sgnT neg first).toArray⟩)) :
 Calls Tryz.prog 96 #[.bool neg,.bool first] w fun e w'=>e = .returned (.string s)∧w'=w:=by
 obtain rfl:=hs.out
 cases neg <;> cases first <;> (go_enter Tryz.func96,Tryz.ntmps96;go_wp2;go_ret;exact ⟨rfl,rfl⟩)
theorem cutMinus_any (s M:ByteArray) (b:Bool) (w:World) (hM:Hid (M=⟨(magT s.data.toList).toArray⟩)) (hb:Hid (negT s.data.toList=b)) :
 Calls Tryz.prog 94 #[.string s,.string ⟨#[45]⟩] w fun e w'=>e = .returned (.tuple #[.string M,.bool b])∧w'=w:=by
 obtain rfl:=hM.out
 obtain rfl:=hb.out
 exact Tryz.strings_CutPrefix s ⟨#[45]⟩ w
theorem cells_app (l:List UInt8) (s:ByteArray):Lib.byteCells l++Lib.strCells s=Lib.byteCells (l++s.data.toList):=by simp [Lib.byteCells,Lib.strCells]
set_option maxRecDepth 100000 in
set_option maxHeartbeats 1600000 in
theorem Len_any (B b:Nat) (bs:List Value) (w:World) (h:Lib.IsBuilder 130 5 B b bs w) :
 Calls Tryz.prog 97 #[.pointer (some ⟨b,0,none⟩)] w fun e w'=>e = .returned (.int .i64 (bs.length:Nat))∧w'=w:=by
 obtain ⟨p,h⟩:∃ p,Lib.BuilderAt 130 5 B b p bs w:=by
  rcases h with h | h
  · exact ⟨_,h⟩
  · exact ⟨_,h⟩
 obtain ⟨hB,v,hbk,hown,hne⟩:=h
 have c1:w.cell? ⟨b,1,none⟩=some v:=by rw [Lib.cell_of_heap hbk];rfl
 obtain ⟨ad,cap,rfl⟩:∃ ad cap,v = .slice ad bs.length cap:=by
  rcases hown.2 with ⟨h,h0⟩ | ⟨g,cap,cur,h,_⟩
  · exact ⟨none,0,by rw [h,h0]⟩
  · exact ⟨_,cap,h⟩
 go_enter Tryz.func97,Tryz.ntmps97
 go_wp2
 go_ret
 exact ⟨rfl,rfl⟩
set_option maxRecDepth 100000 in
set_option maxHeartbeats 3200000 in
theorem write1_any (B:Nat) (l:List UInt8) (num name:ByteArray) (r:List UInt8) (w:World) (hB:Lib.IsBuilder 130 5 B B (Lib.byteCells l) w) (hlt:B<w.heap.size) (hl:l.length≤2000000) (h1:num.size≤100000) (h2:name.size≤100000) (hr:Hid (l++partT num.data.toList name.data.toList l.isEmpty=r)) :
 Calls Tryz.prog 93 #[.string num,.string name,.pointer (some ⟨B,0,none⟩)] w fun e w'=>e = .returned (.tuple #[])∧Lib.IsBuilder 130 5 B B (Lib.byteCells r) w'∧Below B w w':=by
 obtain ⟨M,hM⟩:∃ M:ByteArray,M=⟨(magT num.data.toList).toArray⟩:=⟨_,rfl⟩
 obtain ⟨b,hb⟩:∃ b,negT num.data.toList=b:=⟨_,rfl⟩
 obtain ⟨f,hf⟩:∃ f,l.isEmpty=f:=⟨_,rfl⟩
 obtain ⟨S,hS⟩:∃ S:ByteArray,S=⟨(sgnT b f).toArray⟩:=⟨_,rfl⟩
 have hMl:M.data.toList=magT num.data.toList:=by rw [hM]
 have hSl:S.data.toList=sgnT b f:=by rw [hS]
 have hMs:M.size≤100000:=by
  rw [Lib.size_eq,hMl]
  have h:num.data.toList.length=num.size:=(Lib.size_eq num).symm
  unfold magT Lib.trimPrefix
  split
  · rw [List.length_drop];omega
  · omega
 have hSs:S.size≤3:=by
  rw [Lib.size_eq,hSl]
  unfold sgnT;split <;> split <;> decide
 have hfl:((((Lib.byteCells l).length:Nat):Int)==0)=f:=by
  rw [← hf,Lib.byteCells_length];cases l <;> simp;omega
 have hre:(l++S.data.toList)++bodyT M.data.toList name.data.toList=r:=by
  rw [← hr.out,hSl,hMl,hf];unfold partT;rw [hb,List.append_assoc]
 have HM:=Lib.hid hM
 have HB:=Lib.hid hb
 have HS:=Lib.hid hS
 have HRE:=Lib.hid hre
 have HBL:=Lib.hid hB
 have HLEN:=Lib.hid hl
 have hll:(Lib.byteCells l).length=l.length:=Lib.byteCells_length l
 have HLL:=Lib.hid hll
 clear hM hb hf hS hMl hSl hre hr hB hl hll
 go_enter Tryz.func93,Tryz.ntmps93
 go_wp2_with fail
 refine (cutMinus_any num M b _ HM HB).mono ?_
 rintro e w1 ⟨rfl,rfl⟩
 go_wp2_with fail
 refine (Len_any B B (Lib.byteCells l) _ HBL.out).mono ?_
 rintro e w1 ⟨rfl,rfl⟩
 go_wp2_with fail
 refine (sign_any b f S _ HS).mono ?_
 rintro e w2 ⟨rfl,rfl⟩
 go_wp2_with fail
 refine (WriteString_any B B (Lib.byteCells l) S _ HBL.out (by rw [HLL.out];have:=HLEN.out;omega) (Nat.le_of_lt hlt)).mono ?_
 rintro e w3 ⟨rfl,hb3,hw3⟩
 rw [cells_app] at hb3
 have HB3:=Lib.hid (show Lib.IsBuilder 130 5 B B (Lib.byteCells (l++S.data.toList)) w3 from .inr hb3)
 have HW3:=Lib.hid hw3
 have hlt3:B<w3.heap.size:=Nat.lt_of_lt_of_le hlt hw3.size
 have HL3:Hid ((Lib.byteCells (l++S.data.toList)).length≤2000003):=Lib.hid (by rw [Lib.byteCells_length,List.length_append, ← Lib.size_eq];have:=HLEN.out;omega)
 clear hb3 hw3
 by_cases hn:name.data.toList=[]
 · have ht:(name.toList==[])=true:=by rw [Lib.toList_data,hn];rfl
   have HRR:Hid ((l++S.data.toList)++M.data.toList=r):=Lib.hid (by have h:=HRE.out;unfold bodyT at h;rw [if_pos hn] at h;exact h)
   clear hn
   go_wp2_with fail
   refine (WriteString_any B B _ M _ HB3.out (by have:=HL3.out;omega) (Nat.le_of_lt hlt3)).mono ?_
   rintro e w4 ⟨rfl,hb4,hw4⟩
   rw [cells_app,HRR.out] at hb4
   have HB4:=Lib.hid hb4
   have HW4:=Lib.hid (HW3.out.trans hw4)
   clear hb4 hw4
   go_wp2
   go_end0
   exact ⟨rfl,.inr HB4.out,HW4.out⟩
 · have ht:(name.toList==[])=false:=by rw [Lib.toList_data];simpa using hn
   by_cases hm:M.data.toList=[49]
   · have htm:(M.toList==[49])=true:=by rw [Lib.toList_data,hm];rfl
     have HRR:Hid ((l++S.data.toList)++name.data.toList=r):=Lib.hid (by have h:=HRE.out;unfold bodyT at h;rw [if_neg hn,if_pos hm] at h;exact h)
     clear hn hm
     go_wp2_with fail
     refine (WriteString_any B B _ name _ HB3.out (by have:=HL3.out;omega) (Nat.le_of_lt hlt3)).mono ?_
     rintro e w4 ⟨rfl,hb4,hw4⟩
     rw [cells_app,HRR.out] at hb4
     have HB4:=Lib.hid hb4
     have HW4:=Lib.hid (HW3.out.trans hw4)
     clear hb4 hw4
     go_wp2
     go_end0
     exact ⟨rfl,.inr HB4.out,HW4.out⟩
   · have htm:(M.toList==[49])=false:=by rw [Lib.toList_data];simpa using hm
     have HRR:Hid ((l++S.data.toList)++(M++(⟨#[32]⟩:ByteArray)++name).data.toList=r):=Lib.hid (by
      have h:=HRE.out
      unfold bodyT at h
      rw [if_neg hn,if_neg hm] at h
      rw [← h,ByteArray.data_append,ByteArray.data_append]
      simp)
     obtain ⟨MS,hMS⟩:∃ MS,M++(⟨#[32]⟩:ByteArray)=MS:=⟨_,rfl⟩
     obtain ⟨MN,hMN⟩:∃ MN,MS++name=MN:=⟨_,rfl⟩
     have hs1:MS.size=M.size+1:=by rw [← hMS,ByteArray.size_append];rfl
     have hs2:MN.size=MS.size+name.size:=by rw [← hMN,ByteArray.size_append]
     have hcat1:∀ W:World,(Op.stringOp .add M ⟨#[32]⟩).run Tryz.prog W = .ok (.string MS) W:=fun W=>by rw [← hMS];exact run_string_add W _ _ (by omega) (by decide)
     have hcat2:∀ W:World,(Op.stringOp .add MS name).run Tryz.prog W = .ok (.string MN) W:=fun W=>by rw [← hMN];exact run_string_add W _ _ (by omega) (by omega)
     rw [hMS,hMN] at HRR
     clear hn hm hMS hMN
     go_wp2_with fail
     refine (WriteString_any B B _ MN _ HB3.out (by have:=HL3.out;omega) (Nat.le_of_lt hlt3)).mono ?_
     rintro e w4 ⟨rfl,hb4,hw4⟩
     rw [cells_app,HRR.out] at hb4
     have HB4:=Lib.hid hb4
     have HW4:=Lib.hid (HW3.out.trans hw4)
     clear hb4 hw4
     go_wp2
     go_end0
     exact ⟨rfl,.inr HB4.out,HW4.out⟩
end Go.Proofs.YtkhdocdddicgpaaGreatDoor
set_option linter.unusedVariables false
set_option linter.unusedSimpArgs false
namespace Go.Proofs.YtkhdocdddicgpaaGreatDoor
open Go.RowKit Go.Maps _root_.Go.Proofs.YtkhdocdddicgpaaGreatDoor.Nm
theorem magT_length (l:List UInt8):(magT l).length≤l.length:=by
 unfold magT Lib.trimPrefix
 split
 · rw [List.length_drop];omega
 · exact Nat.le_refl _
theorem sgnT_length (a b:Bool):(sgnT a b).length≤3:=by unfold sgnT;split <;> split <;> decide
theorem bodyT_length (m name:List UInt8):(bodyT m name).length≤m.length+1+name.length:=by
 unfold bodyT
 split
 · omega
 · split
   · omega
   · simp;omega
theorem partT_length (l name:List UInt8) (f:Bool):(partT l name f).length≤4+l.length+name.length:=by
 unfold partT
 rw [List.length_append]
 have h1:=sgnT_length (negT l) f
 have h2:=bodyT_length (magT l) name
 have h3:=magT_length l
 omega
theorem rt_length {q:Rat} (h:rshort q=true):(rt q).length≤1000:=by
 have:=txt_size h
 rw [Lib.size_eq] at this
 exact this
theorem itoa_col {c:Int} (h:ColIn c):(Lib.itoa c).length≤4:=by
 obtain ⟨n,rfl⟩:∃ n:Nat,c=n:=⟨c.toNat,(Int.toNat_of_nonneg h.1).symm⟩
 have hn:n<2048:=by have:=h.2;omega
 clear h
 have:∀ n:Nat,n<2048→(Lib.itoa (n:Int)).length≤4:=by decide +kernel
 exact this n hn
theorem termsT_length:∀ (q:List Qm) (out:List UInt8),(∀ p∈q,ColIn p.1∧rshort p.2=true)→(termsT out q).length≤out.length+q.length*1100
 | [],out,_=>by simp [termsT]
 | p::q,out,h=>by
  have h1:=termsT_length q (out++partT (rt p.2) (nameT p.1) out.isEmpty) (fun x hx=>h x (by simp [hx]))
  have h2:=partT_length (rt p.2) (nameT p.1) out.isEmpty
  have h3:=rt_length (h p (by simp)).2
  have h4:=itoa_col (h p (by simp)).1
  have h5:(nameT p.1).length=(Lib.itoa p.1).length+1:=by simp [nameT]
  rw [List.length_append] at h1
  show (termsT (out++partT (rt p.2) (nameT p.1) out.isEmpty) q).length≤_
  simp only [List.length_cons]
  omega
theorem take_next {q:List Qm} {k:Nat} {p:Qm} (h:k<q.length) (hp:q[k]=p):q.take (k+1)=q.take k++[p]:=by
 rw [List.take_succ_eq_append_getElem h,hp]
theorem Builder.alloc {G:Nat} {bs:List Value} {W:World} (h:Lib.IsBuilder 130 5 G G bs W) {W':World} (hb:Below W.heap.size W W'):Lib.IsBuilder 130 5 G G bs W':=by
 have key:∀ p,Lib.BuilderAt 130 5 G G p bs W→Lib.BuilderAt 130 5 G G p bs W':=by
  rintro p ⟨h1,v,h2,h3,h4⟩
  refine ⟨h1,v,(hb.block G (Array.getElem?_eq_some_iff.1 h2).1).trans h2,?_,h4⟩
  rcases h3.2 with ⟨e,e0⟩ | ⟨g,c,cur,e,_⟩
  · exact ⟨h3.1,.inl ⟨e,e0⟩⟩
  · subst e;exact h3.kept (grown_of hb none) (.inr (by intro e;cases e))
 rcases h with h | h
 · exact .inl (key _ h)
 · exact .inr (key _ h)
theorem itoa_to (c:Int) (nm:ByteArray) (w:World) (h:0≤c∧c<2048) (htab:Tab w) (hn:Hid (nm=⟨(Lib.itoa c).toArray⟩)) :
 Calls Tryz.prog 98 #[.int .i64 c] w fun e w'=>e = .returned (.string nm)∧Below w.heap.size w w':=by
 obtain rfl:=hn.out
 refine (Tryz.strconv_Itoa c (by omega) (by omega) w htab).mono ?_
 rintro e w' ⟨rfl,k,os,rfl⟩
 exact ⟨rfl,Lib.below_grow _ _ (Nat.le_refl _) _ _⟩
set_option maxRecDepth 100000 in
set_option maxHeartbeats 6400000 in
theorem write_any (qc:Rat) (x:ByteArray) (ad:Option Addr) (n cap:Nat) (q:List Qm) (s:ByteArray) (w:World) (h:InV w ad n cap qc x q) (htab:Tab w) (hs:Hid (s=⟨(formT qc q).toArray⟩)) :
 Calls Tryz.prog 62 #[.agg #[.slice ad n cap,.string x]] w fun e w'=>e = .returned (.string s)∧Below w.heap.size w w':=by
 have hn:n=q.length:=by obtain ⟨_,_,_,e1,e2,_⟩:=h.in_.at_;cases e1;simpa [tms] using e2
 have HLEN:=Lib.hid (And.intro hn h.len)
 have HV:=Lib.hid h
 have HT:=Lib.hid htab
 have hA:=(Below.refl w.heap.size w).alloc (Nat.le_refl _) (.cells #[.slice ad n cap,.string x] 24)
 have HB:=Lib.hid (Bx.new w (.slice ad n cap) (.string x) 24)
 have HA:=Lib.hid hA
 have hx:x.data.toList=rt qc:=by rw [← h.is_];rfl
 have HX:=Lib.hid hx
 have hxs:=h.in_.size
 by_cases h0:n=0
 · have hq0:q=[]:=List.length_eq_zero_iff.1 (hn.symm.trans h0)
   have hsx:s=x:=by
    rw [hs.out, ← h.is_];unfold formT;rw [if_pos hq0];rfl
   subst hsx
   subst h0
   clear hn h htab hA hx hq0 hs
   obtain ⟨a0,a1,a2,a3⟩:=HB.out.cell
   go_enter Tryz.func62,Tryz.ntmps62
   go_wp2
   go_ret
   exact ⟨rfl,HA.out⟩
 · have hq0:q≠[]:=fun e=>h0 (by rw [hn,e];rfl)
   have hbs:Hid (s=⟨(lastT (termsT [] q) (rt qc)).toArray⟩):=Lib.hid (by rw [hs.out];unfold formT;rw [if_neg hq0])
   have hne:((n:Int)==0)=false:=by simpa using h0
   have hn5:n≤500:=by rw [hn];exact h.len
   have hb2:=Lib.fresh_isBuilder 130 5 (w.alloc (.cells #[.slice ad n cap,.string x] 24))
   rw [World.size_alloc] at hb2
   have HBL:=Lib.hid hb2
   have HB2:=Lib.hid (HB.out.alloc (.cells #[.pointer none,.slice none 0 0] 130))
   have HA2:=Lib.hid (hA.alloc (by simp) (.cells #[.pointer none,.slice none 0 0] 130))
   clear hn h htab hA hx hb2 hs h0
   obtain ⟨a0,a1,a2,a3⟩:=HB.out.cell
   obtain ⟨c0,c1,c2,c3⟩:=HB2.out.cell
   go_enter Tryz.func62,Tryz.ntmps62
   go_wp2
   clear a0 a1 a2 a3 c0 c1 c2 c3
   go_loopw [17] (fun i wr=>∃ k:Nat,k≤n∧i = .int .i64 k∧Hid (Lib.IsBuilder 130 5 (w.heap.size+1) (w.heap.size+1) (Lib.byteCells (termsT [] (q.take k))) wr)∧Hid (Bx wr w.heap.size (.slice ad n cap) (.string x))∧Hid (Below w.heap.size w wr)∧Hid (w.heap.size+1<wr.heap.size)) (fun i _=>n-(intOf i).toNat)
   case atStart=>exact ⟨0,Nat.zero_le _,rfl,HBL,HB2,HA2,Lib.hid (by simp)⟩
   case round =>
    obtain ⟨k,hk,rfl,HU,HBk,HW,HSZ⟩:=hrel
    by_cases hlt:k<n
    · have hkq:k<q.length:=by rw [← HLEN.out.1];exact hlt
      obtain ⟨ad',n',cap',e1,e2,hv⟩:=(HV.out.in_.at_.keep HW.out (Nat.le_refl _))
      cases e1
      clear e2
      obtain ⟨g,off,rfl,hg,hcc⟩:∃ g off,ad=some ⟨g,off,none⟩∧g<wr.heap.size∧∀ (i:Nat) (h:i<(tms q).length),wr.cell? ⟨g,off+i*2,none⟩=some (.int .i64 (tms q)[i].1)∧wr.cell? ⟨g,off+i*2+1,none⟩=some (.string (tms q)[i].2):=by
       rcases hv with h | h
       · omega
       · exact h
      obtain ⟨hd0,hd1⟩:=hcc k (by simpa [tms] using hkq)
      obtain ⟨p,hp⟩:∃ p,q[k]=p:=⟨_,rfl⟩
      have ek:(tms q)[k]'(by simpa [tms] using hkq)=(p.1,txt p.2):=by simp [tms,hp]
      rw [ek] at hd0 hd1
      have hmem:p∈q:=by rw [← hp];exact List.getElem_mem hkq
      have hti:=HV.out.terms p hmem
      have htk:=take_next hkq hp
      obtain ⟨col,hcol⟩:∃ col,p.1=col:=⟨_,rfl⟩
      obtain ⟨y,hy⟩:∃ y,txt p.2=y:=⟨_,rfl⟩
      dsimp only at hd0 hd1
      rw [hcol] at hd0 hti
      rw [hy] at hd1
      have hyl:y.data.toList=rt p.2:=by rw [← hy];rfl
      have hys:y.size≤100000:=by rw [← hy];have:=txt_size hti.2;omega
      obtain ⟨nm,hnm⟩:∃ nm:ByteArray,nm=⟨(Lib.itoa col).toArray⟩:=⟨_,rfl⟩
      obtain ⟨xn,hxn⟩:∃ xn,(⟨#[120]⟩:ByteArray)++nm=xn:=⟨_,rfl⟩
      have hnms:nm.size≤4:=by rw [hnm,Lib.size_eq];exact itoa_col hti.1
      have hxnl:xn.data.toList=nameT col:=by rw [← hxn,hnm,ByteArray.data_append];simp [nameT]
      have hxns:xn.size≤100000:=by
       have:xn.size=(⟨#[120]⟩:ByteArray).size+nm.size:=by rw [← hxn,ByteArray.size_append]
       have h1:(⟨#[120]⟩:ByteArray).size=1:=rfl
       omega
      have hcat1:∀ W:World,(Op.stringOp .add ⟨#[120]⟩ nm).run Tryz.prog W = .ok (.string xn) W:=fun W=>by rw [← hxn];exact run_string_add W _ _ (by decide) (by omega)
      have hlen:(termsT [] (q.take k)).length≤2000000:=by
       have h1:=termsT_length (q.take k) [] (fun x hx=>HV.out.terms x (List.mem_of_mem_take hx))
       have h2:(q.take k).length≤500:=by rw [List.length_take];have:=HLEN.out.2;omega
       simp at h1 h2;omega
      have HR:Hid (termsT [] (q.take k)++partT y.data.toList xn.data.toList (termsT [] (q.take k)).isEmpty=termsT [] (q.take (k+1))):=Lib.hid (by
       rw [htk,termsT_snoc,hyl,hxnl,hcol])
      have hAA:=(Below.refl wr.heap.size wr).alloc (Nat.le_refl _) (.cells #[.int .i64 col,.string y] 68)
      have HUA:=Lib.hid (Builder.alloc HU.out hAA)
      have HBA:=Lib.hid (HBk.out.alloc (.cells #[.int .i64 col,.string y] 68))
      have HNE:=Lib.hid (Bx.new wr (.int .i64 col) (.string y) 68)
      have HWA:=Lib.hid (HW.out.trans (hAA.mono HW.out.size))
      have HNM:=Lib.hid hnm
      have hcol0:(0:Int)≤col∧col<2048:=hti.1
      have HSA:Hid (w.heap.size+1<(wr.alloc (.cells #[.int .i64 col,.string y] 68)).heap.size):=Lib.hid (by have:=HSZ.out;simp;omega)
      have HHL:=Lib.hid (And.intro hlen (And.intro hys hxns))
      obtain ⟨l0,l1,l2,l3⟩:=HNE.out.cell
      have h1:(0:Int)≤k:=by omega
      have h2:(k:Int)<n:=by omega
      clear hv hcc ek hp hmem hti htk hy hyl hys hnm hxn hnms hxnl hxns hlen hAA hcol
      go_wp2_with fail
      have HUD:Hid (Lib.IsBuilder 130 5 (w.heap.size+1) (w.heap.size+1) (Lib.byteCells (termsT [] (q.take k))) (wr.alloc (.cells #[.int .i64 col,.string y] 68)).drew):=Lib.hid (Builder.alloc HUA.out (Below.refl _ _).drew)
      first | go_region_with (first | (go_at_call 93;have hgd:=hW3;clear hgd;refine (write1_any (w.heap.size+1) _ y xn _ _ hU3 (by exact hS3) HHL.out.1 HHL.out.2.1 HHL.out.2.2 HR).mono ?_;rintro e w4 ⟨rfl,hu4,hb4⟩;have hB4:=hB3.below hb4 (Nat.lt_succ_self _);have hW4:=hW3.trans (hb4.mono (Nat.le_succ _));have hS4:=Nat.lt_of_lt_of_le hS3 hb4.size) | (go_at_call 98;refine (itoa_to col nm _ hcol0 (tab_keep HT.out HWA.out.drew) HNM).mono ?_;rintro e w3 ⟨rfl,hb3⟩;have hU3:=Builder.alloc HUD.out hb3;have hB3:=HBA.out.drew.below hb3 HBA.out.lt;have hW3:=HWA.out.drew.trans (hb3.mono HWA.out.size);have hS3:=Nat.lt_of_lt_of_le HSA.out hb3.size;have k0:=(hb3.cell (p:=⟨wr.heap.size,0,none⟩) (by simp)).trans l0;have k1:=(hb3.cell (p:=⟨wr.heap.size,1,none⟩) (by simp)).trans l1;clear l0 l1 l2 l3)) | fail
      all_goals (have HU4:=Lib.hid hu4;have HB4:=Lib.hid hB4;have HW4:=Lib.hid hW4;have HS4:=Lib.hid hS4;clear hb3 hU3 hB3 hW3 hS3 k0 k1 hu4 hb4 hB4 hW4 hS4)
      all_goals go_wp2
      all_goals go_roundw
      all_goals first | (case rel=>exact ⟨k+1,by omega,by go_num,HU4,HB4,HW4,HS4⟩) | skip
      all_goals first | (case measure=>(simp [intOf];omega)) | skip
    · obtain rfl:k=n:=by omega
      have htk:q.take k=q:=List.take_of_length_le (by rw [HLEN.out.1];exact Nat.le_refl _)
      rw [htk] at HU
      have hlen:(termsT [] q).length≤2000000:=by
       have h1:=termsT_length q [] (fun x hx=>HV.out.terms x hx)
       have h2:=HLEN.out.2
       simp at h1;omega
      have HHL:=Lib.hid hlen
      obtain ⟨c0,c1,c2,c3⟩:=HBk.out.cell
      clear htk hlen hlt
      by_cases hz:rt qc=[48]
      · have hb:(x.toList==[48])=true:=by rw [Lib.toList_data,HX.out,hz];rfl
        have hsl:Hid (s=⟨(termsT [] q).toArray⟩):=Lib.hid (by rw [hbs.out];unfold lastT;rw [if_pos hz])
        clear hz
        go_wp2_with fail
        refine (Tryz.Builder_String_any _ _ _ _ HU.out (Nat.le_of_lt HSZ.out)).mono ?_
        rintro e w3 ⟨rfl,hw3⟩
        have HW3:=Lib.hid (HW.out.trans (hw3.mono (Nat.le_succ _)))
        clear hw3
        go_wp2
        go_ret
        exact ⟨by rw [hsl.out];rfl,HW3.out⟩
      · have hb:(x.toList==[48])=false:=by rw [Lib.toList_data,HX.out];simpa using hz
        have hsl:Hid (s=⟨(termsT [] q++partT (rt qc) [] (termsT [] q).isEmpty).toArray⟩):=Lib.hid (by rw [hbs.out];unfold lastT;rw [if_neg hz])
        have HR:Hid (termsT [] q++partT x.data.toList (⟨#[]⟩:ByteArray).data.toList (termsT [] q).isEmpty=termsT [] q++partT (rt qc) [] (termsT [] q).isEmpty):=Lib.hid (by rw [HX.out])
        clear hz
        go_wp2_with fail
        refine (write1_any (w.heap.size+1) _ x ⟨#[]⟩ _ _ HU.out HSZ.out HHL.out hxs (by decide) HR).mono ?_
        rintro e w3 ⟨rfl,hu3,hw3⟩
        have HW3:=Lib.hid (HW.out.trans (hw3.mono (Nat.le_succ _)))
        have HU3:=Lib.hid hu3
        have hs3:=Nat.lt_of_lt_of_le HSZ.out hw3.size
        clear hw3 hu3 c0 c1 c2 c3
        go_wp2_with fail
        refine (Tryz.Builder_String_any _ _ _ _ HU3.out (Nat.le_of_lt hs3)).mono ?_
        rintro e w4 ⟨rfl,hw4⟩
        have HW4:=Lib.hid (HW3.out.trans (hw4.mono (by omega)))
        clear hw4
        go_wp2
        go_ret
        exact ⟨by rw [hsl.out];rfl,HW4.out⟩
theorem txt_inj {p q:Rat} (hp:rshort p=true) (hq:rshort q=true) (h:txt p=txt q):p=q:=by
 have h1:=txt_val hp
 rw [h,txt_val hq] at h1
 exact (Option.some.inj h1).symm
set_option maxRecDepth 100000 in
set_option maxHeartbeats 3200000 in
theorem Text_bad (x:ByteArray) (ad:Option Addr) (n cap:Nat) (l:List Tm) (w:World) (h:InF w ad n cap x l) (hbad:checkErr x l≠0) :
 Calls Tryz.prog 27 #[.agg #[.slice ad n cap,.string x]] w fun e w'=>e = .returned (.tuple #[.string ⟨#[]⟩,.int .i64 3])∧Below w.heap.size w w':=by
 have hA:=(Below.refl w.heap.size w).alloc (Nat.le_refl _) (.cells #[.slice ad n cap,.string x] 24)
 have HV1:=Lib.hid (h.keep hA (Nat.le_refl _))
 have HB1:=Lib.hid (Bx.new w (.slice ad n cap) (.string x) 24)
 have HW:=Lib.hid hA
 obtain ⟨r1,hr1⟩:∃ r,checkErr x l=r:=⟨_,rfl⟩
 rw [hr1] at hbad
 have HR1:=Lib.hid hr1
 have hg1:(r1 != 0)=true:=by simpa using hbad
 clear hA h hr1 hbad
 obtain ⟨a0,a1,a2,a3⟩:=HB1.out.cell
 go_enter Tryz.func27,Tryz.ntmps27
 go_wp2_with fail
 refine (Check_any x ad n cap l r1 _ HV1.out.at_ HV1.out.size HV1.out.sizes (by have:=HV1.out.len;omega) HR1).mono ?_
 rintro e w1 ⟨rfl,hb⟩
 have HW1:=Lib.hid (HW.out.trans (hb.mono HW.out.size))
 clear hb a0 a1 a2 a3
 go_wp2
 go_ret2
 exact ⟨rfl,HW1.out⟩
set_option maxRecDepth 100000 in
set_option maxHeartbeats 3200000 in
theorem Text_good (qc:Rat) (x:ByteArray) (ad:Option Addr) (n cap:Nat) (q:List Qm) (s:ByteArray) (ec:Int) (w:World) (h:InV w ad n cap qc x q) (htab:Tab w) (hs:Hid (if 65536<(formT qc q).length then s=⟨#[]⟩∧ec=5 else s=⟨(formT qc q).toArray⟩∧ec=0)) :
 Calls Tryz.prog 27 #[.agg #[.slice ad n cap,.string x]] w fun e w'=>e = .returned (.tuple #[.string s,.int .i64 ec])∧Below w.heap.size w w':=by
 have hA:=(Below.refl w.heap.size w).alloc (Nat.le_refl _) (.cells #[.slice ad n cap,.string x] 24)
 have HV1:=Lib.hid (h.keep hA (Nat.le_refl _))
 have HB1:=Lib.hid (Bx.new w (.slice ad n cap) (.string x) 24)
 have HW:=Lib.hid hA
 have HT:=Lib.hid htab
 obtain ⟨t,ht⟩:∃ t:ByteArray,t=⟨(formT qc q).toArray⟩:=⟨_,rfl⟩
 have HTT:=Lib.hid ht
 have htl:t.size=(formT qc q).length:=by rw [ht,Lib.size_eq]
 have HS:Hid (if 65536<t.size then s=⟨#[]⟩∧ec=5 else s=t∧ec=0):=Lib.hid (by rw [htl,ht];exact hs.out)
 clear hA h htab ht htl hs
 obtain ⟨a0,a1,a2,a3⟩:=HB1.out.cell
 go_enter Tryz.func27,Tryz.ntmps27
 go_wp2_with fail
 refine (Check_any x ad n cap (tms q) 0 _ HV1.out.in_.at_ HV1.out.in_.size HV1.out.in_.sizes (by have:=HV1.out.in_.len;omega) (Lib.hid HV1.out.ok)).mono ?_
 rintro e w1 ⟨rfl,hb⟩
 have HW1:=Lib.hid (HW.out.trans (hb.mono HW.out.size))
 have HV2:=Lib.hid (HV1.out.keep hb (Nat.le_refl _))
 have HB2:=Lib.hid (HB1.out.below hb HB1.out.lt)
 clear hb a0 a1 a2 a3
 obtain ⟨a0,a1,a2,a3⟩:=HB2.out.cell
 go_wp2_with fail
 refine (write_any qc x ad n cap q t _ HV2.out (tab_keep HT.out HW1.out) HTT).mono ?_
 rintro e w2 ⟨rfl,hb⟩
 have HW2:=Lib.hid (HW1.out.trans (hb.mono HW1.out.size))
 clear hb a0 a1 a2 a3
 by_cases hbig:65536<t.size
 · have hse:s=⟨#[]⟩∧ec=5:=by have h:=HS.out;rw [if_pos hbig] at h;exact h
   obtain ⟨rfl,rfl⟩:=hse
   have hbi:(65536:Int)<(t.size:Int):=by omega
   clear hbig
   go_wp2
   go_ret2
   exact ⟨rfl,HW2.out⟩
 · have hse:s=t∧ec=0:=by have h:=HS.out;rw [if_neg hbig] at h;exact h
   obtain ⟨rfl,rfl⟩:=hse
   have hbi:¬ (65536:Int)<(s.size:Int):=by omega
   clear hbig
   go_wp2
   go_ret2
   exact ⟨rfl,HW2.out⟩
end Go.Proofs.YtkhdocdddicgpaaGreatDoor
set_option linter.unusedVariables false
set_option linter.unusedSimpArgs false
namespace Go.Proofs.YtkhdocdddicgpaaGreatDoor
open Go.RowKit Go.Maps _root_.Go.Proofs.YtkhdocdddicgpaaGreatDoor.Nm
set_option maxRecDepth 100000 in
set_option maxHeartbeats 1600000 in
theorem index_any (s:ByteArray) (i:Int) (w:World) (hi:Hid (Lib.indexByte s.data.toList 32=i)) :
 Calls Tryz.prog 165 #[.string s,.string ⟨#[32]⟩] w fun e w'=>e = .returned (.int .i64 i)∧w'=w:=by
 have h1:Calls Tryz.prog 185 #[.string s,.string ⟨#[32]⟩] w fun e w'=>e = .returned (.int .i64 i)∧w'=w:=by
  obtain ⟨b,hb⟩:∃ b,([32]==s.toList)=b:=⟨_,rfl⟩
  cases b
  · go_enter Tryz.func185,Tryz.ntmps185
    go_wp2_with (first | (go_at_call 210;refine (Tryz.stringslite_IndexByte s 32 _).mono ?_;rintro e w' ⟨rfl,rfl⟩))
    go_ret
    exact ⟨by rw [← hi.out];rfl,rfl⟩
  · have hi0:i=0:=by
     rw [← hi.out]
     have:s.data.toList=[32]:=by rw [← Lib.toList_data];exact (eq_of_beq hb).symm
     rw [this];rfl
    subst hi0
    go_enter Tryz.func185,Tryz.ntmps185
    go_wp2
    go_ret
    exact ⟨rfl,rfl⟩
 go_enter Tryz.func165,Tryz.ntmps165
 go_wp2_with (first | (go_at_call 185;refine h1.mono ?_;rintro e w' ⟨rfl,rfl⟩))
 go_ret
 exact ⟨rfl,rfl⟩
def orT (a b:ByteArray):ByteArray:=if a.data.toList=[] then b else a
set_option maxRecDepth 100000 in
set_option maxHeartbeats 1600000 in
theorem or_any (g:Nat) (a b r:ByteArray) (w:World) (h0:w.cell? ⟨g,0,none⟩=some (.string a)) (h1:w.cell? ⟨g,1,none⟩=some (.string b)) (hb:b.data.toList≠[]) (hr:Hid (orT a b=r)) :
 Calls Tryz.prog 106 #[.slice (some ⟨g,0,none⟩) 2 2] w fun e w'=>e = .returned (.string r)∧w'=w:=by
 have hbt:(b.toList==[])=false:=by rw [Lib.toList_data];simpa using hb
 by_cases ha:a.data.toList=[]
 · have hat:(a.toList==[])=true:=by rw [Lib.toList_data,ha];rfl
   obtain rfl:b=r:=by rw [← hr.out];unfold orT;rw [if_pos ha]
   clear ha hr hb
   go_enter Tryz.func106,Tryz.ntmps106
   go_wp2
   go_loopw [8] (fun i wr=>∃ k:Nat,k≤1∧i = .int .i64 k∧wr=w) (fun i _=>2-(intOf i).toNat)
   case atStart=>exact ⟨0,by omega,rfl,rfl⟩
   case round =>
    obtain ⟨k,hk,rfl,rfl⟩:=hrel
    by_cases hk0:k=0
    · subst hk0
      go_wp2
      go_roundw
      case rel=>exact ⟨1,by omega,rfl,by first | rfl | trivial⟩
      case measure=>decide
    · obtain rfl:k=1:=by omega
      go_wp2
      go_ret
      exact ⟨rfl,rfl⟩
 · have hat:(a.toList==[])=false:=by rw [Lib.toList_data];simpa using ha
   obtain rfl:a=r:=by rw [← hr.out];unfold orT;rw [if_neg ha]
   clear ha hr hb
   go_enter Tryz.func106,Tryz.ntmps106
   go_wp2
   go_loopw [8] (fun i wr=>i = .int .i64 0∧wr=w) (fun _ _=>0)
   case atStart=>exact ⟨rfl,rfl⟩
   case round =>
    obtain ⟨rfl,rfl⟩:=hrel
    go_wp2
    go_ret
    exact ⟨rfl,rfl⟩
def numT (neg:Bool) (s:ByteArray):ByteArray:=if neg=true then (⟨#[45]⟩:ByteArray)++s else s
set_option maxRecDepth 100000 in
set_option maxHeartbeats 1600000 in
theorem read1_any (b:Nat) (neg:Bool) (s r:ByteArray) (w:World) (h0:w.cell? ⟨b,0,none⟩=some (.bool neg)) (hs:s.size≤100000) (hr:Hid (numT neg s=r)) :
 Calls Tryz.prog 102 #[.string s,.pointer (some ⟨b,0,none⟩)] w fun e w'=>e = .returned (.string r)∧w'=w:=by
 obtain rfl:=hr.out
 cases neg
 · go_enter Tryz.func102,Tryz.ntmps102
   go_wp2
   go_ret
   exact ⟨rfl,rfl⟩
 · have hcat1:∀ W:World,(Op.stringOp .add ⟨#[45]⟩ s).run Tryz.prog W = .ok (.string ((⟨#[45]⟩:ByteArray)++s)) W:=fun W=>run_string_add W _ _ (by decide) (by omega)
   go_enter Tryz.func102,Tryz.ntmps102
   go_wp2
   go_ret
   exact ⟨rfl,rfl⟩
set_option maxRecDepth 100000 in
set_option maxHeartbeats 1600000 in
theorem splitSeq_any (s:ByteArray) (w:World) :
 Calls Tryz.prog 103 #[.string s,.string ⟨#[32]⟩] w fun e w'=>e = .returned (.func (.func 163) #[] #[.pointer (some ⟨w.heap.size+1,0,none⟩),.pointer (some ⟨w.heap.size,0,none⟩),.pointer (some ⟨w.heap.size+1+1,0,none⟩)]) ∧
  w'=((w.alloc (.cells #[.string s] 9)).alloc (.cells #[.string ⟨#[32]⟩] 9)).alloc (.cells #[.int .i64 0] 3):=by
 have h1:Calls Tryz.prog 137 #[.string s,.string ⟨#[32]⟩,.int .i64 0] w fun e w'=>e = .returned (.func (.func 163) #[] #[.pointer (some ⟨w.heap.size+1,0,none⟩),.pointer (some ⟨w.heap.size,0,none⟩),.pointer (some ⟨w.heap.size+1+1,0,none⟩)]) ∧
  w'=((w.alloc (.cells #[.string s] 9)).alloc (.cells #[.string ⟨#[32]⟩] 9)).alloc (.cells #[.int .i64 0] 3):=by
  go_enter Tryz.func137,Tryz.ntmps137
  go_wp2
  go_ret
  exact ⟨by simp,rfl⟩
 go_enter Tryz.func103,Tryz.ntmps103
 go_wp2_with (first | (go_at_call 137;refine h1.mono ?_;rintro e w' ⟨rfl,rfl⟩))
 go_ret
 exact ⟨by simp,rfl⟩
end Go.Proofs.YtkhdocdddicgpaaGreatDoor
set_option linter.unusedVariables false
set_option linter.unusedSimpArgs false
namespace Go.Proofs.YtkhdocdddicgpaaGreatDoor
open Go.RowKit Go.Maps _root_.Go.Proofs.YtkhdocdddicgpaaGreatDoor.Nm
def shortC (l:List ByteArray):Bool:=l.all fun s=>decide (s.size≤120)
theorem shortC_snoc (l:List ByteArray) (s:ByteArray):shortC (l++[s])=(shortC l&&decide (s.size≤120)):=by unfold shortC;simp
theorem shortC_take (l:List ByteArray) (k:Nat) (h:shortC (l.take k)=false):shortC l=false:=by
 cases hs:shortC l with
 | false=>rfl
 | true =>
  exfalso
  unfold shortC at h hs
  rw [List.all_eq_true] at hs
  have:(l.take k).all (fun s=>decide (s.size≤120))=true:=by rw [List.all_eq_true];exact fun x hx=>hs x (List.mem_of_mem_take hx)
  rw [this] at h;cases h
theorem shortC_one (s:ByteArray):shortC [s]=decide (s.size≤120):=by unfold shortC;simp
set_option maxRecDepth 100000 in
set_option maxHeartbeats 1600000 in
theorem lshort_any (ad:Option Addr) (n c:Nat) (l:List ByteArray) (b:Bool) (w:World) (h:SsAt w (.slice ad n c) l) (hn:n≤1000) (hb:Hid (shortC l=b)) :
 Calls Tryz.prog 10 #[.slice ad n c] w fun e w'=>e = .returned (.bool b)∧w=w':=by
 obtain ⟨ad',n',cap',e1,hl,hv⟩:=h
 cases e1
 have HL:=Lib.hid (And.intro trivial hl)
 have HV:=Lib.hid hv
 clear hl hv
 go_enter Tryz.func10,Tryz.ntmps10
 go_wp2
 go_loop [7] (fun i=>∃ k:Nat,k≤n∧i = .int .i64 k∧Hid (shortC (l.take k)=true)) (fun i=>n-(intOf i).toNat)
 case atStart=>exact ⟨0,Nat.zero_le _,rfl,Lib.hid rfl⟩
 case round =>
  obtain ⟨k,hk,rfl,HK⟩:=hrel
  by_cases hlt:k<n
  · have hkl:k<l.length:=by rw [← HL.out.2];exact hlt
    obtain ⟨g,off,rfl,hg,hc⟩:∃ g off,ad=some ⟨g,off,none⟩∧g<w.heap.size∧∀ (i:Nat) (h:i<l.length),w.cell? ⟨g,off+i,none⟩=some (.string l[i]):=by
     rcases HV.out with h | h
     · omega
     · exact h
    have hcell:=hc k hkl
    have hsn:shortC (l.take (k+1))=(shortC (l.take k)&&decide (l[k].size≤120)):=by
     rw [← shortC_snoc,List.take_succ_eq_append_getElem hkl]
    obtain ⟨x,hx⟩:∃ x,l[k]=x:=⟨_,rfl⟩
    rw [hx] at hcell hsn
    rw [HK.out,Bool.true_and] at hsn
    have HSN:=Lib.hid hsn
    have h1:(0:Int)≤k:=by omega
    have h2:(k:Int)<n:=by omega
    clear hx hsn hkl hc
    by_cases hbig:(120:Int)<x.size
    · obtain rfl:b=false:=by rw [← hb.out];exact shortC_take l (k+1) (by rw [HSN.out];exact decide_eq_false (by omega))
      go_wp2
      go_ret
      exact ⟨rfl,rfl⟩
    · have HK2:Hid (shortC (l.take (k+1))=true):=Lib.hid (by rw [HSN.out];exact decide_eq_true (by omega))
      go_wp2
      go_round
      case rel=>exact ⟨k+1,by omega,by go_num,HK2⟩
      case measure=>simp [intOf];omega
  · obtain rfl:k=n:=by omega
    obtain rfl:b=true:=by
     rw [← hb.out]
     have h:=HK.out
     rwa [List.take_of_length_le (by rw [← HL.out.2];exact Nat.le_refl _)] at h
    go_wp2
    go_ret
    exact ⟨rfl,rfl⟩
theorem SsAt.one (W:World) (x:ByteArray) (T:TypeId):SsAt (W.alloc (.cells #[.string x] T)) (.slice (some ⟨W.heap.size,0,none⟩) 1 1) [x]:=by
 refine ⟨_,_,_,rfl,rfl,.inr ⟨W.heap.size,0,rfl,by simp,fun i hi => ?_⟩⟩
 obtain rfl:i=0:=by simp at hi;exact hi
 exact (Bo.new W (.string x) T).cell.1
def lightB (x:ByteArray) (l:List Tm):Bool:=shortC (l.map Prod.snd)&&(decide (l.length≤8)&&decide (x.size≤120))
set_option maxRecDepth 100000 in
set_option maxHeartbeats 3200000 in
theorem Light_any (x:ByteArray) (ad:Option Addr) (n cap:Nat) (l:List Tm) (b:Bool) (w:World) (hv:TsAt w (.slice ad n cap) l) (hm:n≤9223372036854775807) (hb:Hid (lightB x l=b)) :
 Calls Tryz.prog 9 #[.agg #[.slice ad n cap,.string x]] w fun e w'=>e = .returned (.bool b)∧Below w.heap.size w w':=by
 have HV:=Lib.hid (hv.keep ((Below.refl w.heap.size w).alloc (Nat.le_refl _) (.cells #[.slice ad n cap,.string x] 24)) (Nat.le_refl _))
 have HB0:=Lib.hid (Bx.new w (.slice ad n cap) (.string x) 24)
 have HW0:=Lib.hid ((Below.refl w.heap.size w).alloc (Nat.le_refl _) (.cells #[.slice ad n cap,.string x] 24))
 clear hv
 obtain ⟨b0,b1,b2,b3⟩:=HB0.out.cell
 go_enter Tryz.func9,Tryz.ntmps9
 go_wp2
 clear b0 b1 b2 b3
 go_loopw [8] (fun i wr=>∃ k:Nat,k≤n∧i = .int .i64 k∧Hid (shortC ((l.map Prod.snd).take k)=true)∧Hid (Bx wr w.heap.size (.slice ad n cap) (.string x))∧Hid (TsAt wr (.slice ad n cap) l)∧Hid (Below w.heap.size w wr)) (fun i _=>n-(intOf i).toNat)
 case atStart=>exact ⟨0,Nat.zero_le _,rfl,Lib.hid rfl,HB0,HV,HW0⟩
 case round =>
  obtain ⟨k,hk,rfl,HK,HB,HT,HW⟩:=hrel
  obtain ⟨ad',n',cap',e1,e2,hv⟩:=HT.out
  cases e1
  have HLEN:=Lib.hid (And.intro trivial e2)
  clear e2
  by_cases hlt:k<n
  · have hkl:k<l.length:=by rw [← HLEN.out.2];exact hlt
    obtain ⟨g,off,rfl,hg,hc⟩:∃ g off,ad=some ⟨g,off,none⟩∧g<wr.heap.size∧∀ (i:Nat) (h:i<l.length),wr.cell? ⟨g,off+i*2,none⟩=some (.int .i64 l[i].1)∧wr.cell? ⟨g,off+i*2+1,none⟩=some (.string l[i].2):=by
     rcases hv with h | h
     · omega
     · exact h
    obtain ⟨hcell0,hcell1⟩:=hc k hkl
    have hsn:shortC ((l.map Prod.snd).take (k+1))=(shortC ((l.map Prod.snd).take k)&&decide (l[k].2.size≤120)):=by
     rw [← shortC_snoc,List.take_succ_eq_append_getElem (by simpa using hkl),List.getElem_map]
    obtain ⟨col,hcol⟩:∃ col,l[k].1=col:=⟨_,rfl⟩
    obtain ⟨y,hy⟩:∃ y,l[k].2=y:=⟨_,rfl⟩
    rw [hcol] at hcell0
    rw [hy] at hcell1 hsn
    rw [HK.out,Bool.true_and] at hsn
    have HSN:=Lib.hid hsn
    have HWA:=Lib.hid (HW.out.alloc HW.out.size (.cells #[.int .i64 col,.string y] 68))
    have HBA:=Lib.hid (HB.out.alloc (.cells #[.int .i64 col,.string y] 68))
    have HTA:=Lib.hid (HT.out.keep ((Below.refl wr.heap.size wr).alloc (Nat.le_refl _) (.cells #[.int .i64 col,.string y] 68)) (Nat.le_refl _))
    obtain ⟨d0,d1,d2,d3⟩:=(Bx.new wr (.int .i64 col) (.string y) 68).cell
    have HWA2:=Lib.hid (HWA.out.alloc HWA.out.size (.cells #[.string y] 9))
    have HBA2:=Lib.hid (HBA.out.alloc (.cells #[.string y] 9))
    have HTA2:=Lib.hid (HTA.out.keep ((Below.refl _ (wr.alloc (.cells #[.int .i64 col,.string y] 68))).alloc (Nat.le_refl _) (.cells #[.string y] 9)) (Nat.le_refl _))
    have hss:=SsAt.one (wr.alloc (.cells #[.int .i64 col,.string y] 68)) y 9
    simp only [World.size_alloc] at hss
    have HSS:=Lib.hid hss
    clear hss
    have h1:(0:Int)≤k:=by omega
    have h2:(k:Int)<n:=by omega
    clear hv hc hcol hy hsn hkl hg
    go_wp2_with fail
    by_cases hbig:y.size≤120
    · have HK2:Hid (shortC ((l.map Prod.snd).take (k+1))=true):=Lib.hid (by rw [HSN.out];exact decide_eq_true hbig)
      refine (lshort_any _ _ _ [y] true _ HSS.out (by omega) (Lib.hid (by rw [shortC_one];exact decide_eq_true hbig))).mono ?_
      rintro e w' ⟨rfl,rfl⟩
      clear d0 d1 d2 d3
      go_wp2
      go_roundw
      case rel=>exact ⟨k+1,by omega,by go_num,HK2,HBA2,HTA2,HWA2⟩
      case measure=>simp [intOf];omega
    · obtain rfl:b=false:=by
       rw [← hb.out]
       unfold lightB
       rw [shortC_take _ (k+1) (by rw [HSN.out];exact decide_eq_false hbig)];rfl
      refine (lshort_any _ _ _ [y] false _ HSS.out (by omega) (Lib.hid (by rw [shortC_one];exact decide_eq_false hbig))).mono ?_
      rintro e w' ⟨rfl,rfl⟩
      clear d0 d1 d2 d3
      go_wp2
      go_ret
      exact ⟨rfl,HWA2.out⟩
  · obtain rfl:k=n:=by omega
    have hall:shortC (l.map Prod.snd)=true:=by
     have h:=HK.out
     rwa [List.take_of_length_le (by rw [List.length_map, ← HLEN.out.2];exact Nat.le_refl _)] at h
    have hb2:(decide (l.length≤8)&&decide (x.size≤120))=b:=by
     rw [← hb.out];unfold lightB;rw [hall];rfl
    obtain ⟨b0,b1,b2,b3⟩:=HB.out.cell
    have HB2:=Lib.hid hb2
    clear hall hv hb2
    by_cases h8:(k:Int)≤8
    · obtain rfl:decide (x.size≤120)=b:=by
       have h:=HB2.out
       rw [← HLEN.out.2,decide_eq_true (show k≤8 by omega),Bool.true_and] at h;exact h
      have HWA:=Lib.hid (HW.out.alloc HW.out.size (.cells #[.string x] 9))
      have HSS:=Lib.hid (SsAt.one wr x 9)
      clear HB2
      go_wp2_with fail
      refine (lshort_any _ _ _ [x] _ _ HSS.out (by omega) (Lib.hid (shortC_one x))).mono ?_
      rintro e w' ⟨rfl,rfl⟩
      clear b0 b1 b2 b3
      go_wp2
      go_ret
      exact ⟨rfl,HWA.out⟩
    · obtain rfl:b=false:=by
       have h:=HB2.out
       rw [← HLEN.out.2,decide_eq_false (show ¬ k≤8 by omega),Bool.false_and] at h;exact h.symm
      clear HB2
      go_wp2
      go_ret
      exact ⟨rfl,HW.out⟩
end Go.Proofs.YtkhdocdddicgpaaGreatDoor
set_option linter.unusedVariables false
set_option linter.unusedSimpArgs false
namespace Go.Proofs.YtkhdocdddicgpaaGreatDoor
open Go.RowKit Go.Maps _root_.Go.Proofs.YtkhdocdddicgpaaGreatDoor.Nm
theorem txt_small {q:Rat} (h:rshort q=true):(txt q).size≤1000:=(txt_is h).size
theorem tms_inj:∀ {a b:List Qm},(∀ p∈a,rshort p.2=true)→(∀ p∈b,rshort p.2=true)→tms a=tms b→a=b
 | [],[],_,_,_=>rfl
 | [],q::b,_,_,h=>by cases h
 | p::a,[],_,_,h=>by cases h
 | p::a,q::b,ha,hb,h=>by
  have h1:((p.1,txt p.2):Tm)::tms a=(q.1,txt q.2)::tms b:=h
  rw [List.cons.injEq,Prod.mk.injEq] at h1
  obtain ⟨⟨e1,e2⟩,e3⟩:=h1
  rw [tms_inj (fun x hx=>ha x (by simp [hx])) (fun x hx=>hb x (by simp [hx])) e3]
  congr 1
  exact Prod.ext e1 (txt_inj (ha p (by simp)) (hb q (by simp)) e2)
end Go.Proofs.YtkhdocdddicgpaaGreatDoor
