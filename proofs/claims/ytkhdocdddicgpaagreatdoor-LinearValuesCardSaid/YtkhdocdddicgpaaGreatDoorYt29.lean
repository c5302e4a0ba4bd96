/- Part 29: what the law's walk leans on. -/
import Derived.Test.YtkhdocdddicgpaaGreatDoorYt28
import Derived.Test.YtkhdocdddicgpaaGreatDoorCards
import Derived.Test.YtkhdocdddicgpaaGreatDoorTie
import Derived.Test.YtkhdocdddicgpaaGreatDoorYt5
import Derived.Test.YtkhdocdddicgpaaGreatDoorYt20
import Derived.WalkKit
import Derived.ProofKit
import Derived.OpenShut
import Derived.ShutString
import Derived.ChangeOld
import Derived.Below
import Derived.Deep.DeepHandedRow
import Derived.Lib.LaidTab
import Derived.Stop.LaidErr
set_option linter.unusedVariables false
set_option linter.unusedSimpArgs false
namespace Go.Proofs.YtkhdocdddicgpaaGreatDoor
open Go.RowKit Go.Maps _root_.Go.Proofs.YtkhdocdddicgpaaGreatDoor.Nm
theorem rt_sign (q:Rat):(q.num<0→negT (rt q)=true∧magT (rt q)=rt (-q))∧(¬ q.num<0→negT (rt q)=false∧magT (rt q)=rt q):=by
 obtain ⟨m,n,h⟩:=rt_numTx q
 have key:n=decide (q.num<0)∧(q.num<0→rt q=45::rt (-q)):=by
  constructor
  · have h1:=h.neg
    rw [← h1]
    unfold rt negT
    have hd:∀ r:List UInt8,Lib.hasPrefix (Lib.itoa q.num++r) [45]=decide (q.num<0):=by
     intro r
     unfold Lib.itoa
     split
     · next hn =>
       rw [List.cons_append,pre_one]
       simp [hn]
     · next hn =>
       obtain ⟨c,t,e,hc⟩:=dec_cons q.num.toNat
       rw [e,List.cons_append,pre_one]
       have:c≠45:=by rintro rfl;revert hc;decide
       simp [hn,Ne.symm this]
    split
    · have:=hd [];rwa [List.append_nil] at this
    · exact hd _
  · intro hn
    have e1:Lib.itoa q.num=45::Lib.itoa (-q.num):=by
     unfold Lib.itoa
     rw [if_pos hn,if_neg (by omega)]
     congr 1
     congr 1
     omega
    unfold rt
    rw [Rat.neg_num,Rat.neg_den,e1]
    split <;> rfl
 constructor
 · intro hn
   have h1:=key.2 hn
   refine ⟨by rw [h.neg,key.1,decide_eq_true hn],?_⟩
   rw [h1]
   show Lib.trimPrefix (45::rt (-q)) [45]=_
   unfold Lib.trimPrefix
   rw [pre_one];rfl
 · intro hn
   have hf:n=false:=by rw [key.1,decide_eq_false hn]
   refine ⟨by rw [h.neg,hf],?_⟩
   have:=h.eq
   rw [hf] at this
   rw [h.mag]
   simpa using this.symm
theorem part_text {q:Rat} {nm:ByteArray} {first:Bool} {r:ByteArray} (sg t:List UInt8) (hr:r=⟨(partT (rt q) nm.data.toList first).toArray⟩) (hs:sgnT (negT (rt q)) first=sg) (ht:magT (rt q)=t):r=⟨(sg++bodyT t nm.data.toList).toArray⟩:=by
 rw [hr, ← hs, ← ht];rfl
set_option maxRecDepth 100000 in
set_option maxHeartbeats 3200000 in
theorem part_any (v:Value) (q:Rat) (nm:ByteArray) (first:Bool) (r:ByteArray) (w:World) (h:RRef w v q) (hq:rshort q=true) (hnm:nm.size≤1000) (hr:Hid (r=⟨(partT (rt q) nm.data.toList first).toArray⟩)) :
 Calls Tryz.prog 63 #[v,.string nm,.bool first] w fun e w'=>e = .returned (.string r)∧Below w.heap.size w w':=by
 obtain ⟨n1,a1,l1,c1,n2,a2,l2,c2,rfl,h1,h2⟩:=h
 have hA:=(Below.refl w.heap.size w).alloc (Nat.le_refl _) (.cells #[.bool n1,.slice a1 l1 c1,.bool n2,.slice a2 l2 c2] 33)
 have HB:=Lib.hid (B4.new w (.bool n1) (.slice a1 l1 c1) (.bool n2) (.slice a2 l2 c2) 33)
 have hx:RRef w (.agg #[.bool n1,.slice a1 l1 c1,.bool n2,.slice a2 l2 c2]) q:=⟨_,_,_,_,_,_,_,_,rfl,h1,h2⟩
 have HX:=Lib.hid (hx.keep hA (Nat.le_refl _))
 have HW:=Lib.hid hA
 obtain ⟨b,hb⟩:∃ b,decide (q.num<0)=b:=⟨_,rfl⟩
 have HBB:=Lib.hid hb
 have HQ:=Lib.hid hq
 have HNM:=Lib.hid (And.intro trivial hnm)
 clear hA h1 h2 hx hb hq hnm
 obtain ⟨x0,x1,x2,x3⟩:=HB.out.cell
 cases first with
 | true =>
  go_enter Tryz.func63,Tryz.ntmps63
  go_wp2_with fail
  refine (rSign_any _ q b _ HX.out HBB).mono ?_
  rintro e w1 ⟨⟨c,rfl,hc⟩,hb⟩
  have HB1:=Lib.hid (HB.out.below hb HB.out.lt)
  have HX1:=Lib.hid (HX.out.keep hb (Nat.le_refl _))
  have HW1:=Lib.hid (HW.out.trans (hb.mono HW.out.size))
  clear hb x0 x1 x2 x3
  obtain ⟨x0,x1,x2,x3⟩:=HB1.out.cell
  cases b with
  | true =>
   go_wp2_with fail
   refine (rrNeg_any _ q (-q) _ HX1.out (Lib.hid rfl)).mono ?_
   rintro e w2 ⟨v2,rfl,hr2,hb⟩
   obtain ⟨E1,E2,E3,E4,E5,E6,E7,E8,rfl,u1,u2⟩:=hr2
   have hnum:RRef w2 (.agg #[.bool E1,.slice E2 E3 E4,.bool E5,.slice E6 E7 E8]) (-q):=⟨_,_,_,_,_,_,_,_,rfl,u1,u2⟩
   have hs2:=HB1.out.below hb HB1.out.lt
   obtain ⟨y0,y1,y2,y3⟩:=hs2.cell
   obtain ⟨f0,f1,f2,f3⟩:=hs2.froz
   have HX3:=Lib.hid (hnum.box4 hs2 (.bool E1) (.slice E2 E3 E4) (.bool E5) (.slice E6 E7 E8))
   have HB3:=Lib.hid (hs2.put (.bool E1) (.slice E2 E3 E4) (.bool E5) (.slice E6 E7 E8))
   have HW3:=Lib.hid (below_set4 (HW1.out.trans (hb.mono HW1.out.size)) w.heap.size 0 1 2 3 (.bool E1) (.slice E2 E3 E4) (.bool E5) (.slice E6 E7 E8) (Nat.le_refl _))
   obtain ⟨t,htt⟩:∃ t,txt (-q)=t:=⟨_,rfl⟩
   have hsn:rshort (-q)=true:=(RT.of HQ.out).neg.short (by omega)
   have HTX:Hid (True∧t=⟨(rt (-q)).toArray⟩):=Lib.hid ⟨trivial,htt.symm⟩
   have HTZ:Hid (True∧t.size≤2000):=Lib.hid ⟨trivial,by rw [← htt];have:=txt_small hsn;omega⟩
   have HTM:Hid (magT (rt q)=t.data.toList):=Lib.hid (by rw [((rt_sign q).1 (of_decide_eq_true HBB.out)).2, ← htt];simp [txt])
   have HSN:=Lib.hid hsn
   clear u1 u2 hnum hs2 hb htt hsn x0 x1 x2 x3
   go_wp2_with fail
   refine (rrText_any _ (-q) t 400 _ HX3.out (RT.of HSN.out) (by omega) HTX).mono ?_
   rintro e w4 ⟨rfl,hb⟩
   have HW4:=Lib.hid (HW3.out.trans (hb.mono HW3.out.size))
   clear hb y0 y1 y2 y3 f0 f1 f2 f3
   have hts:t.size≤2000:=HTZ.out.2
   have hns:nm.size≤1000:=HNM.out.2
   have HRT:Hid (r=⟨([45]++bodyT t.data.toList nm.data.toList).toArray⟩):=Lib.hid (part_text [45] t.data.toList hr.out (by rw [((rt_sign q).1 (of_decide_eq_true HBB.out)).1];rfl) HTM.out)
   by_cases he:nm.data.toList=[]
   · have hE:(nm.toList==[])=true:=by rw [Lib.toList_data,he];rfl
     have HR:Hid ((⟨#[45]⟩:ByteArray)++t=r):=Lib.hid (by
      rw [HRT.out,he]
      apply ByteArray.ext
      simp [bodyT])
     clear he
     go_wp2
     go_ret
     exact ⟨by rw [← HR.out];rfl,HW4.out⟩
   · have hE:(nm.toList==[])=false:=by rw [Lib.toList_data];simpa using he
     by_cases h1:t.data.toList=[49]
     · have hO:(t.toList==[49])=true:=by rw [Lib.toList_data,h1];rfl
       have HR:Hid ((⟨#[45]⟩:ByteArray)++nm=r):=Lib.hid (by
        rw [HRT.out]
        apply ByteArray.ext
        simp [bodyT,he,h1])
       clear he h1
       go_wp2
       go_ret
       exact ⟨by rw [← HR.out];rfl,HW4.out⟩
     · have hO:(t.toList==[49])=false:=by rw [Lib.toList_data];simpa using h1
       have HR:Hid ((⟨#[45]⟩:ByteArray)++t++⟨#[32]⟩++nm=r):=Lib.hid (by
        rw [HRT.out]
        apply ByteArray.ext
        simp [bodyT,he,h1])
       clear he h1
       go_wp2
       go_ret
       exact ⟨by rw [← HR.out];rfl,HW4.out⟩
  | false =>
   obtain ⟨t,htt⟩:∃ t,txt q=t:=⟨_,rfl⟩
   have HTX:Hid (True∧t=⟨(rt q).toArray⟩):=Lib.hid ⟨trivial,htt.symm⟩
   have HTZ:Hid (True∧t.size≤2000):=Lib.hid ⟨trivial,by rw [← htt];have:=txt_small HQ.out;omega⟩
   have HTM:Hid (magT (rt q)=t.data.toList):=Lib.hid (by rw [((rt_sign q).2 (of_decide_eq_false HBB.out)).2, ← htt];simp [txt])
   clear htt
   go_wp2_with fail
   refine (rrText_any _ q t 400 _ HX1.out (RT.of HQ.out) (by omega) HTX).mono ?_
   rintro e w4 ⟨rfl,hb⟩
   have HW4:=Lib.hid (HW1.out.trans (hb.mono HW1.out.size))
   clear hb x0 x1 x2 x3
   have hts:t.size≤2000:=HTZ.out.2
   have hns:nm.size≤1000:=HNM.out.2
   have HRT:Hid (r=⟨([]++bodyT t.data.toList nm.data.toList).toArray⟩):=Lib.hid (part_text [] t.data.toList hr.out (by rw [((rt_sign q).2 (of_decide_eq_false HBB.out)).1];rfl) HTM.out)
   by_cases he:nm.data.toList=[]
   · have hE:(nm.toList==[])=true:=by rw [Lib.toList_data,he];rfl
     have HR:Hid ((⟨#[]⟩:ByteArray)++t=r):=Lib.hid (by
      rw [HRT.out,he]
      apply ByteArray.ext
      simp [bodyT])
     clear he
     go_wp2
     go_ret
     exact ⟨by rw [← HR.out];rfl,HW4.out⟩
   · have hE:(nm.toList==[])=false:=by rw [Lib.toList_data];simpa using he
     by_cases h1:t.data.toList=[49]
     · have hO:(t.toList==[49])=true:=by rw [Lib.toList_data,h1];rfl
       have HR:Hid ((⟨#[]⟩:ByteArray)++nm=r):=Lib.hid (by
        rw [HRT.out]
        apply ByteArray.ext
        simp [bodyT,he,h1])
       clear he h1
       go_wp2
       go_ret
       exact ⟨by rw [← HR.out];rfl,HW4.out⟩
     · have hO:(t.toList==[49])=false:=by rw [Lib.toList_data];simpa using h1
       have HR:Hid ((⟨#[]⟩:ByteArray)++t++⟨#[32]⟩++nm=r):=Lib.hid (by
        rw [HRT.out]
        apply ByteArray.ext
        simp [bodyT,he,h1])
       clear he h1
       go_wp2
       go_ret
       exact ⟨by rw [← HR.out];rfl,HW4.out⟩
 | false =>
  go_enter Tryz.func63,Tryz.ntmps63
  go_wp2_with fail
  refine (rSign_any _ q b _ HX.out HBB).mono ?_
  rintro e w1 ⟨⟨c,rfl,hc⟩,hb⟩
  have HB1:=Lib.hid (HB.out.below hb HB.out.lt)
  have HX1:=Lib.hid (HX.out.keep hb (Nat.le_refl _))
  have HW1:=Lib.hid (HW.out.trans (hb.mono HW.out.size))
  clear hb x0 x1 x2 x3
  obtain ⟨x0,x1,x2,x3⟩:=HB1.out.cell
  cases b with
  | true =>
   go_wp2_with fail
   refine (rrNeg_any _ q (-q) _ HX1.out (Lib.hid rfl)).mono ?_
   rintro e w2 ⟨v2,rfl,hr2,hb⟩
   obtain ⟨E1,E2,E3,E4,E5,E6,E7,E8,rfl,u1,u2⟩:=hr2
   have hnum:RRef w2 (.agg #[.bool E1,.slice E2 E3 E4,.bool E5,.slice E6 E7 E8]) (-q):=⟨_,_,_,_,_,_,_,_,rfl,u1,u2⟩
   have hs2:=HB1.out.below hb HB1.out.lt
   obtain ⟨y0,y1,y2,y3⟩:=hs2.cell
   obtain ⟨f0,f1,f2,f3⟩:=hs2.froz
   have HX3:=Lib.hid (hnum.box4 hs2 (.bool E1) (.slice E2 E3 E4) (.bool E5) (.slice E6 E7 E8))
   have HB3:=Lib.hid (hs2.put (.bool E1) (.slice E2 E3 E4) (.bool E5) (.slice E6 E7 E8))
   have HW3:=Lib.hid (below_set4 (HW1.out.trans (hb.mono HW1.out.size)) w.heap.size 0 1 2 3 (.bool E1) (.slice E2 E3 E4) (.bool E5) (.slice E6 E7 E8) (Nat.le_refl _))
   obtain ⟨t,htt⟩:∃ t,txt (-q)=t:=⟨_,rfl⟩
   have hsn:rshort (-q)=true:=(RT.of HQ.out).neg.short (by omega)
   have HTX:Hid (True∧t=⟨(rt (-q)).toArray⟩):=Lib.hid ⟨trivial,htt.symm⟩
   have HTZ:Hid (True∧t.size≤2000):=Lib.hid ⟨trivial,by rw [← htt];have:=txt_small hsn;omega⟩
   have HTM:Hid (magT (rt q)=t.data.toList):=Lib.hid (by rw [((rt_sign q).1 (of_decide_eq_true HBB.out)).2, ← htt];simp [txt])
   have HSN:=Lib.hid hsn
   clear u1 u2 hnum hs2 hb htt hsn x0 x1 x2 x3
   go_wp2_with fail
   refine (rrText_any _ (-q) t 400 _ HX3.out (RT.of HSN.out) (by omega) HTX).mono ?_
   rintro e w4 ⟨rfl,hb⟩
   have HW4:=Lib.hid (HW3.out.trans (hb.mono HW3.out.size))
   clear hb y0 y1 y2 y3 f0 f1 f2 f3
   have hts:t.size≤2000:=HTZ.out.2
   have hns:nm.size≤1000:=HNM.out.2
   have HRT:Hid (r=⟨([32,45,32]++bodyT t.data.toList nm.data.toList).toArray⟩):=Lib.hid (part_text [32,45,32] t.data.toList hr.out (by rw [((rt_sign q).1 (of_decide_eq_true HBB.out)).1];rfl) HTM.out)
   by_cases he:nm.data.toList=[]
   · have hE:(nm.toList==[])=true:=by rw [Lib.toList_data,he];rfl
     have HR:Hid ((⟨#[32,45,32]⟩:ByteArray)++t=r):=Lib.hid (by
      rw [HRT.out,he]
      apply ByteArray.ext
      simp [bodyT])
     clear he
     go_wp2
     go_ret
     exact ⟨by rw [← HR.out];rfl,HW4.out⟩
   · have hE:(nm.toList==[])=false:=by rw [Lib.toList_data];simpa using he
     by_cases h1:t.data.toList=[49]
     · have hO:(t.toList==[49])=true:=by rw [Lib.toList_data,h1];rfl
       have HR:Hid ((⟨#[32,45,32]⟩:ByteArray)++nm=r):=Lib.hid (by
        rw [HRT.out]
        apply ByteArray.ext
        simp [bodyT,he,h1])
       clear he h1
       go_wp2
       go_ret
       exact ⟨by rw [← HR.out];rfl,HW4.out⟩
     · have hO:(t.toList==[49])=false:=by rw [Lib.toList_data];simpa using h1
       have HR:Hid ((⟨#[32,45,32]⟩:ByteArray)++t++⟨#[32]⟩++nm=r):=Lib.hid (by
        rw [HRT.out]
        apply ByteArray.ext
        simp [bodyT,he,h1])
       clear he h1
       go_wp2
       go_ret
       exact ⟨by rw [← HR.out];rfl,HW4.out⟩
  | false =>
   obtain ⟨t,htt⟩:∃ t,txt q=t:=⟨_,rfl⟩
   have HTX:Hid (True∧t=⟨(rt q).toArray⟩):=Lib.hid ⟨trivial,htt.symm⟩
   have HTZ:Hid (True∧t.size≤2000):=Lib.hid ⟨trivial,by rw [← htt];have:=txt_small HQ.out;omega⟩
   have HTM:Hid (magT (rt q)=t.data.toList):=Lib.hid (by rw [((rt_sign q).2 (of_decide_eq_false HBB.out)).2, ← htt];simp [txt])
   clear htt
   go_wp2_with fail
   refine (rrText_any _ q t 400 _ HX1.out (RT.of HQ.out) (by omega) HTX).mono ?_
   rintro e w4 ⟨rfl,hb⟩
   have HW4:=Lib.hid (HW1.out.trans (hb.mono HW1.out.size))
   clear hb x0 x1 x2 x3
   have hts:t.size≤2000:=HTZ.out.2
   have hns:nm.size≤1000:=HNM.out.2
   have HRT:Hid (r=⟨([32,43,32]++bodyT t.data.toList nm.data.toList).toArray⟩):=Lib.hid (part_text [32,43,32] t.data.toList hr.out (by rw [((rt_sign q).2 (of_decide_eq_false HBB.out)).1];rfl) HTM.out)
   by_cases he:nm.data.toList=[]
   · have hE:(nm.toList==[])=true:=by rw [Lib.toList_data,he];rfl
     have HR:Hid ((⟨#[32,43,32]⟩:ByteArray)++t=r):=Lib.hid (by
      rw [HRT.out,he]
      apply ByteArray.ext
      simp [bodyT])
     clear he
     go_wp2
     go_ret
     exact ⟨by rw [← HR.out];rfl,HW4.out⟩
   · have hE:(nm.toList==[])=false:=by rw [Lib.toList_data];simpa using he
     by_cases h1:t.data.toList=[49]
     · have hO:(t.toList==[49])=true:=by rw [Lib.toList_data,h1];rfl
       have HR:Hid ((⟨#[32,43,32]⟩:ByteArray)++nm=r):=Lib.hid (by
        rw [HRT.out]
        apply ByteArray.ext
        simp [bodyT,he,h1])
       clear he h1
       go_wp2
       go_ret
       exact ⟨by rw [← HR.out];rfl,HW4.out⟩
     · have hO:(t.toList==[49])=false:=by rw [Lib.toList_data];simpa using h1
       have HR:Hid ((⟨#[32,43,32]⟩:ByteArray)++t++⟨#[32]⟩++nm=r):=Lib.hid (by
        rw [HRT.out]
        apply ByteArray.ext
        simp [bodyT,he,h1])
       clear he h1
       go_wp2
       go_ret
       exact ⟨by rw [← HR.out];rfl,HW4.out⟩
end Go.Proofs.YtkhdocdddicgpaaGreatDoor
set_option linter.unusedVariables false
set_option linter.unusedSimpArgs false
namespace Go.Proofs.YtkhdocdddicgpaaGreatDoor
open Go.RowKit Go.Maps _root_.Go.Proofs.YtkhdocdddicgpaaGreatDoor.Nm
set_option maxRecDepth 100000 in
set_option maxHeartbeats 3200000 in
theorem gText_bad (c:ByteArray) (ad:Option Addr) (n cap:Nat) (l:List Tm) (w:World) (hv:TsAt w (.slice ad n cap) l) (hc:c.size≤100000) (hl:∀ t∈l,t.2.size≤100000) (hn:l.length≤500) (hbad:checkErr c l≠0) :
 Calls Tryz.prog 28 #[.string c,.slice ad n cap] w fun e w'=>e = .returned (.tuple #[.string ⟨#[]⟩,.int .i64 3])∧Below w.heap.size w w':=by
 obtain ⟨r1,hr1⟩:∃ r,checkErr c l=r:=⟨_,rfl⟩
 rw [hr1] at hbad
 have HR1:=Lib.hid hr1
 have hg1:(r1 != 0)=true:=by simpa using hbad
 clear hr1 hbad
 go_enter Tryz.func28,Tryz.ntmps28
 go_wp2_with fail
 refine (fCheck_any c ad n cap l r1 _ hv hc hl hn HR1).mono ?_
 rintro e w1 ⟨rfl,hb⟩
 have HW:=Lib.hid hb
 clear hb
 go_wp2
 go_ret2
 exact ⟨rfl,HW.out⟩
theorem terms_grow:∀ (q:List Qm) (out:List UInt8),out.length≤(termsT out q).length
 | [],out=>Nat.le_refl _
 | p::q,out=>Nat.le_trans (by simp) (terms_grow q (out++partT (rt p.2) (nameT p.1) out.isEmpty))
theorem part_pos (l name:List UInt8) (f:Bool) (h:name≠[]):0<(partT l name f).length:=by
 unfold partT bodyT
 rw [if_neg h]
 have:=List.length_pos_iff.2 h
 split <;> simp <;> omega
theorem first_empty (q:List Qm) (k:Nat) (hk:k<q.length):(termsT [] (q.take k)).isEmpty=decide (k=0):=by
 cases k with
 | zero=>rfl
 | succ k =>
  cases q with
  | nil=>simp at hk
  | cons p q =>
   show (termsT ([]++partT (rt p.2) (nameT p.1) true) (q.take k)).isEmpty=_
   have h1:=terms_grow (q.take k) ([]++partT (rt p.2) (nameT p.1) true)
   have h2:=part_pos (rt p.2) (nameT p.1) true (by simp [nameT])
   rw [List.nil_append] at h1
   cases h:termsT ([]++partT (rt p.2) (nameT p.1) true) (q.take k) with
   | nil=>exact absurd (Nat.lt_of_lt_of_le h2 (by rw [List.nil_append] at h;rw [h] at h1;exact h1)) (Nat.lt_irrefl _)
   | cons a b=>simp
set_option maxRecDepth 100000 in
set_option maxHeartbeats 6400000 in
theorem gText_good (qc:Rat) (x:ByteArray) (ad:Option Addr) (n cap:Nat) (q:List Qm) (s:ByteArray) (ec:Int) (w:World) (h:InV w ad n cap qc x q) (hs:Hid (if 65536<(formT qc q).length then s=⟨#[]⟩∧ec=5 else s=⟨(formT qc q).toArray⟩∧ec=0)) :
 Calls Tryz.prog 28 #[.string x,.slice ad n cap] w fun e w'=>e = .returned (.tuple #[.string s,.int .i64 ec])∧Below w.heap.size w w':=by
 have HV:=Lib.hid h
 have hnl:n=q.length:=by obtain ⟨_,_,_,e1,e2,_⟩:=h.in_.at_;cases e1;simpa [tms] using e2
 have HNL:=Lib.hid (And.intro trivial hnl)
 have HQL:=Lib.hid (And.intro trivial h.len)
 have hx:txt qc=x:=h.is_
 have HX:=Lib.hid hx
 have hn5:n≤500:=by have:=HQL.out.2;omega
 have HXV:Hid (rval x.data.toList=some qc):=Lib.hid (by rw [← hx];exact txt_val h.short)
 have HXS:Hid (x.size≤1000):=Lib.hid (by rw [← hx];exact txt_small h.short)
 clear hx hnl
 go_enter Tryz.func28,Tryz.ntmps28
 go_wp2_with fail
 refine (fCheck_any x ad n cap (tms q) 0 _ HV.out.in_.at_ HV.out.in_.size HV.out.in_.sizes HV.out.in_.len (Lib.hid HV.out.ok)).mono ?_
 rintro e w1 ⟨rfl,hb⟩
 have HW1:=Lib.hid hb
 clear hb h
 go_wp2
 go_loopw [6,7] (fun v i wr=>∃ (k:Nat) (o:ByteArray),k≤n ∧ .string o=v∧i = .int .i64 k∧Hid (o=⟨(termsT [] (q.take k)).toArray⟩∧o.size≤k*1100)∧Hid (Below w.heap.size w wr)) (fun _ i _=>n-(intOf i).toNat)
 case atStart=>exact ⟨0,⟨#[]⟩,Nat.zero_le _,rfl,rfl,Lib.hid ⟨rfl,by decide⟩,HW1⟩
 case round =>
  obtain ⟨k,o,hk,rfl,rfl,HO,HW⟩:=hrel
  by_cases hlt:k<n
  · have hkq:k<q.length:=by rw [← HNL.out.2];exact hlt
    have HV2:=Lib.hid (HV.out.keep HW.out (Nat.le_refl _))
    obtain ⟨ad',n',cap',e1,e2,hv⟩:=HV2.out.in_.at_
    cases e1
    clear e2
    obtain ⟨g,off,rfl,hg,hcc⟩:∃ g off,ad=some ⟨g,off,none⟩∧g<wr.heap.size∧∀ (i:Nat) (h:i<(tms q).length),wr.cell? ⟨g,off+i*2,none⟩=some (.int .i64 (tms q)[i].1)∧wr.cell? ⟨g,off+i*2+1,none⟩=some (.string (tms q)[i].2):=by
     rcases hv with h | h
     · omega
     · exact h
    obtain ⟨a0,a1⟩:=hcc k (by simpa [tms] using hkq)
    obtain ⟨p,hp⟩:∃ p,q[k]=p:=⟨_,rfl⟩
    have ek:(tms q)[k]'(by simpa [tms] using hkq)=(p.1,txt p.2):=by simp [tms,hp]
    rw [ek] at a0 a1
    dsimp only at a0 a1
    obtain ⟨hci,hps⟩:=HV.out.terms p (by rw [← hp];exact List.getElem_mem hkq)
    obtain ⟨j,hpj⟩:∃ j:Nat,p.1=(j:Int):=⟨p.1.toNat,(Int.toNat_of_nonneg hci.1).symm⟩
    have hj:=hci.2
    obtain ⟨z,hz⟩:∃ z,txt p.2=z:=⟨_,rfl⟩
    rw [hpj] at a0 hj
    rw [hz] at a1
    obtain ⟨nm,hnm⟩:∃ nm:ByteArray,nm=⟨(Lib.decDigits j).toArray⟩:=⟨_,rfl⟩
    obtain ⟨xn,hxn⟩:∃ xn:ByteArray,(⟨#[120]⟩:ByteArray)++nm=xn:=⟨_,rfl⟩
    have hnz:nm.size≤100:=by rw [hnm];exact dec_size _ (by omega)
    have hxs:xn.size=1+nm.size:=by rw [← hxn,ByteArray.size_append];rfl
    have hxt:xn.data.toList=nameT p.1:=by
     rw [← hxn,hnm,name_eq hci,hpj]
     simp
    obtain ⟨pt,hpt⟩:∃ pt:ByteArray,pt=⟨(partT (rt p.2) xn.data.toList (decide (k=0))).toArray⟩:=⟨_,rfl⟩
    obtain ⟨o2,ho2⟩:∃ o2,o++pt=o2:=⟨_,rfl⟩
    have hpz:pt.size≤1100:=by
     rw [hpt]
     have h1:=partT_length (rt p.2) xn.data.toList (decide (k=0))
     have h2:=rt_length hps
     have h3:xn.data.toList.length=xn.size:=Array.length_toList
     show (partT (rt p.2) xn.data.toList (decide (k=0))).toArray.size≤_
     simp only [List.size_toArray]
     have h4:nm.size≤20:=by
      rw [hnm]
      show (Lib.decDigits j).toArray.size≤20
      have:=Lib.nDigits_le20 j (by omega)
      rw [← Lib.decDigits_length] at this
      simpa using this
     omega
    have hoz:o.size≤600000:=by have h1:=HO.out.2;have h2:=HQL.out.2;have h3:=HNL.out.2;omega
    have hcat1:∀ W:World,(Op.stringOp .add ⟨#[120]⟩ nm).run Tryz.prog W = .ok (.string xn) W:=fun W=>by rw [← hxn];exact run_string_add W _ _ (by decide) (by omega)
    have hcat2:∀ W:World,(Op.stringOp .add o pt).run Tryz.prog W = .ok (.string o2) W:=fun W=>by rw [← ho2];exact run_string_add W _ _ (by omega) (by omega)
    have HO2:Hid (o2=⟨(termsT [] (q.take (k+1))).toArray⟩∧o2.size≤(k+1)*1100):=Lib.hid (by
     constructor
     · rw [take_next hkq hp,termsT_snoc,first_empty q k hkq, ← ho2,HO.out.1,hpt,hxt]
       apply ByteArray.ext
       simp
     · have h1:=HO.out.2
       rw [← ho2,ByteArray.size_append];omega)
    have HZV:Hid (rval z.data.toList=some p.2):=Lib.hid (by rw [← hz];exact txt_val hps)
    have HZS:Hid (z.size≤100000):=Lib.hid (by rw [← hz];have:=txt_small hps;omega)
    have HNM:=Lib.hid hnm
    have HPS:=Lib.hid hps
    have hk0:((k:Int)==0)=decide (k=0):=by
     show decide ((k:Int)=0)=decide (k=0)
     exact decide_eq_decide.2 (by omega)
    obtain ⟨fb,hfb⟩:∃ fb,decide (k=0)=fb:=⟨_,rfl⟩
    rw [hfb] at hk0 hpt
    have HFB:=Lib.hid hfb
    have HPT:=Lib.hid hpt
    have hxn2:xn.size≤1000:=by omega
    have h1:(0:Int)≤k:=by omega
    have h2:(k:Int)<n:=by omega
    have HG:=Lib.hid (And.intro trivial hg)
    clear hv hcc ek hp hci hz hnm hxn hxt hpt ho2 hps hfb hpj hg hkq
    go_wp2_with fail
    go_region_held3 (fun w'=>w'.cell? ⟨g,off+k*2,none⟩=some (.int .i64 (j:Int))∧w'.cell? ⟨g,off+k*2+1,none⟩=some (.string z)) (first | ((try dsimp only);(repeat' apply And.intro);all_goals with_reducible assumption) | go_keep) (first | (go_at_call 63;have hgd:=HR2;clear hgd;refine (part_any _ p.2 xn fb pt _ (by exact HR2.out) HPS.out hxn2 HPT).mono ?_;rintro e w4 ⟨rfl,hb4⟩;have hb5:Below wr.heap.size wr w4:=HB3.out.trans (hb4.mono HB3.out.size);have v0:=(hb4.cell (p:=⟨g,off+k*2,none⟩) (Nat.lt_of_lt_of_le HG.out.2 HB3.out.size)).trans u0;have v1:=(hb4.cell (p:=⟨g,off+k*2+1,none⟩) (Nat.lt_of_lt_of_le HG.out.2 HB3.out.size)).trans u1;have HB5:=Lib.hid hb5;clear hb4 hb5 u0 u1) | (go_at_call 65;refine (dec_any j j (Nat.le_refl _) (by omega) nm HNM _).mono ?_;rintro e w3 ⟨rfl,h⟩;rw [h];clear h w3) | (go_at_call 64;refine (rrOf_some z p.2 _ HZV HZS.out).mono ?_;rintro e w2 ⟨v2,rfl,hr2,hb2⟩;have hb3:Below wr.heap.size wr w2:=(Below.refl wr.heap.size wr).drew.trans hb2;have u0:=(hb3.cell (p:=⟨g,off+k*2,none⟩) HG.out.2).trans a0;have u1:=(hb3.cell (p:=⟨g,off+k*2+1,none⟩) HG.out.2).trans a1;have HB3:=Lib.hid hb3;have HR2:=Lib.hid hr2;clear hb2 hb3 hr2 a0 a1))
    all_goals
     have HW5:=Lib.hid (HW.out.trans (HB5.out.mono HW.out.size))
     clear v0 v1
     go_wp2
     go_roundw
     case rel=>exact ⟨k+1,o2,by omega,rfl,by go_num,HO2,HW5⟩
     case measure=>simp [intOf];omega
  · obtain rfl:n=k:=by omega
    have hnn:¬ (n:Int)<n:=by omega
    have hall:o=⟨(termsT [] q).toArray⟩:=by
     have h:=HO.out.1
     rwa [List.take_of_length_le (by rw [← HNL.out.2];exact Nat.le_refl _)] at h
    have HALL:=Lib.hid hall
    have hoz:o.size≤600000:=by have h1:=HO.out.2;have h2:=HQL.out.2;have h3:=HNL.out.2;omega
    have hxz:=HXS.out
    clear hall
    have hzx:(x.toList==[48])=decide (qc=0):=by rw [Lib.toList_data, ← HX.out];exact txt_is_zero HV.out.short
    by_cases hlast:qc=0∧q≠[]
    · have hg0:(x.toList==[48])=true:=by rw [hzx];exact decide_eq_true hlast.1
      have hg1:((n:Int)==0)=false:=by
       have h3:=HNL.out.2
       have:q.length≠0:=fun h=>hlast.2 (List.length_eq_zero_iff.1 h)
       show decide ((n:Int)=0)=false
       exact decide_eq_false (by omega)
      have hft:formT qc q=termsT [] q:=by
       unfold formT lastT
       rw [if_neg hlast.2,if_pos]
       rw [hlast.1];decide +kernel
      have HE:Hid (o=⟨(formT qc q).toArray⟩):=Lib.hid (by rw [HALL.out,hft])
      have hlen:(formT qc q).length=o.size:=by rw [HE.out];show _=(formT qc q).toArray.size;simp
      have HLE:=Lib.hid (And.intro trivial hlen)
      clear hzx hft hlen hlast
      by_cases hbig:(65536:Int)<o.size
      · have h:=hs.out
        rw [if_pos (by rw [HLE.out.2];omega)] at h
        obtain ⟨rfl,rfl⟩:=h
        go_wp2
        go_ret2
        exact ⟨rfl,HW.out⟩
      · have h:=hs.out
        rw [if_neg (by rw [HLE.out.2];omega), ← HE.out] at h
        obtain ⟨rfl,rfl⟩:=h
        go_wp2
        go_ret2
        exact ⟨rfl,HW.out⟩
    · obtain ⟨fb,hfb⟩:∃ fb,decide (n=0)=fb:=⟨_,rfl⟩
      have hn0:((n:Int)==0)=fb:=by
       rw [← hfb]
       show decide ((n:Int)=0)=decide (n=0)
       exact decide_eq_decide.2 (by omega)
      obtain ⟨pt,hpt⟩:∃ pt:ByteArray,pt=⟨(partT (rt qc) [] fb).toArray⟩:=⟨_,rfl⟩
      obtain ⟨o2,ho2⟩:∃ o2,o++pt=o2:=⟨_,rfl⟩
      have hft:formT qc q=termsT [] q++partT (rt qc) [] fb:=by
       unfold formT
       by_cases hq:q=[]
       · have hnz:n=0:=by rw [HNL.out.2,hq];rfl
         rw [if_pos hq, ← hfb,decide_eq_true hnz,hq]
         obtain ⟨m,b,h⟩:=rt_numTx qc
         show rt qc=[]++partT (rt qc) [] true
         unfold partT bodyT
         rw [if_pos rfl,h.neg,h.mag]
         have:=h.eq
         cases b <;> simpa [sgnT] using this
       · have hnz:n≠0:=fun h=>hq (List.length_eq_zero_iff.1 (by rw [← HNL.out.2];exact h))
         have hqz:qc≠0:=fun h=>hlast ⟨h,hq⟩
         rw [if_neg hq, ← hfb,decide_eq_false hnz]
         unfold lastT
         have hne:rt qc≠[48]:=by
          intro h
          have h2:=txt_zero HV.out.short
          unfold txt at h2
          simp [h,hqz] at h2
         have hfe:(termsT [] q).isEmpty=false:=by
          cases q with
          | nil=>exact absurd rfl hq
          | cons p q =>
           have h1:=terms_grow q ([]++partT (rt p.2) (nameT p.1) true)
           have h2:=part_pos (rt p.2) (nameT p.1) true (by simp [nameT])
           rw [List.nil_append] at h1
           show (termsT ([]++partT (rt p.2) (nameT p.1) true) q).isEmpty=false
           rw [List.nil_append]
           cases h:termsT (partT (rt p.2) (nameT p.1) true) q with
           | nil=>rw [h] at h1;exact absurd (Nat.lt_of_lt_of_le h2 h1) (Nat.lt_irrefl _)
           | cons a b=>rfl
         rw [if_neg hne,hfe]
      have hpz:pt.size≤1100:=by
       rw [hpt]
       have h1:=partT_length (rt qc) [] fb
       have h2:=rt_length HV.out.short
       show (partT (rt qc) [] fb).toArray.size≤_
       simp only [List.size_toArray]
       simp only [List.length_nil] at h1
       omega
      have HE:Hid (o2=⟨(formT qc q).toArray⟩):=Lib.hid (by
       rw [hft, ← ho2,HALL.out,hpt]
       apply ByteArray.ext
       simp)
      have hlen:(formT qc q).length=o2.size:=by rw [HE.out];show _=(formT qc q).toArray.size;simp
      have HLE:=Lib.hid (And.intro trivial hlen)
      have hg:(x.toList==[48])=false∨(x.toList==[48])=true∧fb=true:=by
       rw [hzx]
       by_cases h0:qc=0
       · right
         have hq:q=[]:=Decidable.byContradiction fun h=>hlast ⟨h0,h⟩
         refine ⟨decide_eq_true h0,?_⟩
         rw [← hfb]
         exact decide_eq_true (by rw [HNL.out.2,hq];rfl)
       · left;exact decide_eq_false h0
      have hcat2:∀ W:World,(Op.stringOp .add o pt).run Tryz.prog W = .ok (.string o2) W:=fun W=>by rw [← ho2];exact run_string_add W _ _ (by omega) (by omega)
      have hos:o2.size=o.size+pt.size:=by rw [← ho2,ByteArray.size_append]
      have HPT:Hid (pt=⟨(partT (rt qc) (⟨#[]⟩:ByteArray).data.toList fb).toArray⟩):=Lib.hid hpt
      have HO3:=Lib.hid ho2
      clear hzx hft hlen hlast hpt ho2 hfb
      rcases hg with hg0 | ⟨hg0,rfl⟩
      all_goals
       go_wp2_with fail
       refine (rrOf_some x qc _ HXV (by omega)).mono ?_
       rintro e w4 ⟨v4,rfl,hr4,hb⟩
       have HR4:=Lib.hid hr4
       have HW4:=Lib.hid (HW.out.trans (hb.mono HW.out.size))
       clear hr4 hb
       go_wp2_with fail
       refine (part_any _ qc ⟨#[]⟩ _ pt _ HR4.out HV.out.short (by decide) HPT).mono ?_
       rintro e w5 ⟨rfl,hb⟩
       have HW5:=Lib.hid (HW4.out.trans (hb.mono HW4.out.size))
       clear hb
       by_cases hbig:(65536:Int)<o2.size
       · have h:=hs.out
         rw [if_pos (by rw [HLE.out.2];omega)] at h
         obtain ⟨rfl,rfl⟩:=h
         go_wp2
         go_ret2
         exact ⟨rfl,HW5.out⟩
       · have h:=hs.out
         rw [if_neg (by rw [HLE.out.2];omega), ← HE.out] at h
         obtain ⟨rfl,rfl⟩:=h
         go_wp2
         go_ret2
         exact ⟨rfl,HW5.out⟩
end Go.Proofs.YtkhdocdddicgpaaGreatDoor
set_option linter.unusedVariables false
set_option linter.unusedSimpArgs false
namespace Go.Proofs.YtkhdocdddicgpaaGreatDoor
open Go.RowKit Go.Maps _root_.Go.Proofs.YtkhdocdddicgpaaGreatDoor.Nm
theorem form_length {qc:Rat} {q:List Qm} (hc:rshort qc=true) (hq:∀ p∈q,ColIn p.1∧rshort p.2=true):(formT qc q).length≤q.length*1100+1100:=by
 unfold formT
 have h1:=rt_length hc
 split
 · omega
 · have h2:=termsT_length q [] hq
   unfold lastT
   simp only [List.length_nil] at h2
   split
   · omega
   · have h3:=partT_length (rt qc) [] (termsT [] q).isEmpty
     simp only [List.length_nil] at h3
     rw [List.length_append]
     omega
theorem form_in {qc:Rat} {q:List Qm} (hc:rshort qc=true) (hq:Fo q) (hl:q.length≤500):ReadIn (formT qc q):=by
 unfold ReadIn
 rw [read_form (fun p hp=>(hq.1 p hp).1)]
 refine ⟨?_,?_,?_⟩
 · have:=txt_small hc
   show (txt qc).size≤100000
   omega
 · intro t ht
   obtain ⟨p,hp,rfl⟩:=List.mem_map.1 ht
   have:=txt_small (hq.1 p hp).2.1
   show (txt p.2).size≤100000
   omega
 · show (tms q).length≤500
   simpa [tms] using hl
theorem form_text {qc:Rat} {q:List Qm} (hc:rshort qc=true) (hq:Fo q):TextOf (formT qc q) qc q:=⟨read_form (fun p hp=>(hq.1 p hp).1),hq,hc,rfl⟩
set_option maxRecDepth 100000 in
set_option maxHeartbeats 6400000 in
theorem law_LinearTexts (x0:Option Addr) (n0 c0:Nat) (s0:ByteArray) (l0:List Tm) (w:World) (ha0:TsAt w (.slice x0 n0 c0) l0) (hn0:x0=none→c0=0) (hm0:n0≤9223372036854775807) (htab:Tab w) (he:Ers w) :
 Calls Tryz.prog 6 #[.agg #[.slice x0 n0 c0,.string s0]] w fun e w'=>e = .returned (.bool true)∧Below w.heap.size w w':=by
 have hnil:SsAt w (.slice none 0 0) []:=⟨_,_,_,rfl,rfl,.inl rfl⟩
 have HL0:=Lib.hid (LE.start (s0:=s0) w ha0 hnil htab he)
 obtain ⟨a0,a1,a2,a3⟩:=HL0.out.a.cell
 cases hA:lightB s0 l0 with
 | false =>
  clear ha0 hnil htab he
  go_enter Tryz.func6,Tryz.ntmps6
  go_wp2_with fail
  refine (Light_any s0 x0 n0 c0 l0 false _ HL0.out.fa hm0 (Lib.hid hA)).mono ?_
  rintro e w1 ⟨rfl,hb⟩
  have HL1:=Lib.hid (HL0.out.keep hb)
  clear hb a0 a1 a2 a3
  go_wp2_with fail
  refine (lawake_any _ HL1.out.tab HL1.out.ers).mono ?_
  rintro e wz ⟨rfl,hb⟩
  have HZ:=Lib.hid (HL1.out.below.trans (hb.mono HL1.out.below.size))
  clear hb
  go_wp2
  go_ret
  exact ⟨rfl,HZ.out⟩
 | true =>
  have hF:∀ W,TsAt W (.slice x0 n0 c0) l0→InF W x0 n0 c0 s0 l0:=fun W h=>(inF_light h hn0 hA).1
  have HF:=Lib.hid hF
  have hls:=light_sizes hA
  by_cases hok:checkErr s0 l0=0
  · obtain ⟨qc,q,hlq,hin⟩:=(hF _ ha0).valid hok
    subst hlq
    have hx:=hin.is_
    have hsq:=hin.short
    have hfo:=hin.fo
    have hV:∀ W,TsAt W (.slice x0 n0 c0) (tms q)→InV W x0 n0 c0 qc s0 q:=fun W h=>⟨HF.out W h,hx,hsq,hfo⟩
    have HV:=Lib.hid hV
    have hlen:=form_length hsq (fun p hp=>⟨(hfo.1 p hp).1,(hfo.1 p hp).2.1⟩)
    have hql:q.length≤8:=by have:=hls.2.1;simpa [tms] using this
    have hbig:¬ 65536<(formT qc q).length:=by omega
    obtain ⟨S,hS⟩:∃ S:ByteArray,S=⟨(formT qc q).toArray⟩:=⟨_,rfl⟩
    have HSE:=Lib.hid hS
    have HBG:=Lib.hid (And.intro trivial hbig)
    have hSl:S.data.toList=formT qc q:=by rw [hS]
    have HTX:Hid (TextOf S.data.toList qc q):=Lib.hid (by rw [hSl];exact form_text hsq hfo)
    have HIN:Hid (ReadIn S.data.toList):=Lib.hid (by rw [hSl];exact form_in hsq hfo (by omega))
    have HSZ:Hid (S.size≤65536):=Lib.hid (by rw [hS];show (formT qc q).toArray.size≤65536;simp only [List.size_toArray];omega)
    have HX:=Lib.hid hx
    have HQL:Hid ((tms q).length≤100000):=Lib.hid (by simp [tms];omega)
    have HA:=Lib.hid hA
    clear ha0 hnil htab he hV hin hx hsq hfo hlen hql hbig hS hSl hls hok hF hA
    go_enter Tryz.func6,Tryz.ntmps6
    go_wp2_with fail
    refine (Light_any s0 x0 n0 c0 (tms q) true _ HL0.out.fa hm0 HA).mono ?_
    rintro e w1 ⟨rfl,hb⟩
    have HL1:=Lib.hid (HL0.out.keep hb)
    clear hb a0 a1 a2 a3
    obtain ⟨a0,a1,a2,a3⟩:=HL1.out.a.cell
    go_wp2_with fail
    refine (Text_good qc s0 x0 n0 c0 q S 0 _ (HV.out _ HL1.out.fa) HL1.out.tab (Lib.hid (by rw [if_neg HBG.out.2];exact ⟨HSE.out,rfl⟩))).mono ?_
    rintro e w2 ⟨rfl,hb⟩
    have HL2:=Lib.hid (HL1.out.keep hb)
    clear hb a0 a1 a2 a3
    obtain ⟨a0,a1,a2,a3⟩:=HL2.out.a.cell
    go_wp2_with fail
    refine (gText_good qc s0 x0 n0 c0 q S 0 _ (HV.out _ HL2.out.fa) (Lib.hid (by rw [if_neg HBG.out.2];exact ⟨HSE.out,rfl⟩))).mono ?_
    rintro e w3 ⟨rfl,hb⟩
    have HL3:=Lib.hid (HL2.out.keep hb)
    clear hb a0 a1 a2 a3
    obtain ⟨a0,a1,a2,a3⟩:=HL3.out.a.cell
    go_wp2_with fail
    refine (Parse_good S s0 qc q _ HTX.out HX.out HIN.out HSZ.out HL3.out.tab HL3.out.ers).mono ?_
    rintro e w4 ⟨⟨ad,n,cap,rfl,hinv⟩,hb⟩
    have hC:Below w4.heap.size w4 (w4.alloc (.cells #[.slice ad n cap,.string s0] 24)):=(Below.refl _ w4).alloc (Nat.le_refl _) _
    have HL4:=Lib.hid ((HL3.out.keep hb).keep hC)
    have HT4:=Lib.hid (hinv.in_.at_.keep hC (Nat.le_refl _))
    have HB4:=Lib.hid (Bx.new w4 (.slice ad n cap) (.string s0) 24)
    clear hb hC hinv a0 a1 a2 a3
    obtain ⟨a0,a1,a2,a3⟩:=HL4.out.a.cell
    obtain ⟨b0,b1,b2,b3⟩:=HB4.out.cell
    go_wp2_with fail
    refine (Equal_same ad x0 n cap n0 c0 (tms q) _ HT4.out HL4.out.fa HQL.out).mono ?_
    rintro e w5 ⟨rfl,hb⟩
    have HL5:=Lib.hid (HL4.out.keep hb)
    have HB5:=Lib.hid (HB4.out.below hb HB4.out.lt)
    clear hb a0 a1 a2 a3 b0 b1 b2 b3
    obtain ⟨a0,a1,a2,a3⟩:=HL5.out.a.cell
    obtain ⟨b0,b1,b2,b3⟩:=HB5.out.cell
    go_wp2_with fail
    refine (lawake_any _ HL5.out.tab HL5.out.ers).mono ?_
    rintro e wz ⟨rfl,hb⟩
    have HZ:=Lib.hid (HL5.out.below.trans (hb.mono HL5.out.below.size))
    clear hb
    go_wp2
    go_ret
    exact ⟨rfl,HZ.out⟩
  · have HBAD:=Lib.hid hok
    have HA:=Lib.hid hA
    clear ha0 hnil htab he hls hok hF hA
    go_enter Tryz.func6,Tryz.ntmps6
    go_wp2_with fail
    refine (Light_any s0 x0 n0 c0 l0 true _ HL0.out.fa hm0 HA).mono ?_
    rintro e w1 ⟨rfl,hb⟩
    have HL1:=Lib.hid (HL0.out.keep hb)
    clear hb a0 a1 a2 a3
    obtain ⟨a0,a1,a2,a3⟩:=HL1.out.a.cell
    go_wp2_with fail
    refine (Text_bad s0 x0 n0 c0 l0 _ (HF.out _ HL1.out.fa) HBAD.out).mono ?_
    rintro e w2 ⟨rfl,hb⟩
    have HL2:=Lib.hid (HL1.out.keep hb)
    clear hb a0 a1 a2 a3
    obtain ⟨a0,a1,a2,a3⟩:=HL2.out.a.cell
    go_wp2_with fail
    refine (gText_bad s0 x0 n0 c0 l0 _ HL2.out.fa (HF.out _ HL2.out.fa).size (HF.out _ HL2.out.fa).sizes (HF.out _ HL2.out.fa).len HBAD.out).mono ?_
    rintro e w3 ⟨rfl,hb⟩
    have HL3:=Lib.hid (HL2.out.keep hb)
    clear hb a0 a1 a2 a3
    go_wp2_with fail
    refine (lawake_any _ HL3.out.tab HL3.out.ers).mono ?_
    rintro e wz ⟨rfl,hb⟩
    have HZ:=Lib.hid (HL3.out.below.trans (hb.mono HL3.out.below.size))
    clear hb
    go_wp2
    go_ret
    exact ⟨rfl,HZ.out⟩
end Go.Proofs.YtkhdocdddicgpaaGreatDoor
set_option linter.unusedVariables false
namespace Go.Proofs.YtkhdocdddicgpaaGreatDoor
open Go.ChangeShapes Go.WideShapes Go.ChangeAt Go.RowKit
theorem ownk:ownKnob Tryz.prog.godebug=none:=by kernel_rfl
theorem gPow : Tryz.prog.globalNamed "internal/strconv.uint64pow10" = some 3 := by kernel_rfl
theorem gPowType:(Tryz.prog.globals[3]?).map (·.type)=some 259:=by kernel_rfl
theorem cellsArr:Tryz.prog.cellsOf 259=20:=by kernel_rfl
theorem cellsEl:Tryz.prog.cellsOf 170=1:=by kernel_rfl
abbrev laidAll : List (String × DataW Unit) := [("math/bits.deBruijn32tab", Rows.laid_math_bits_deBruijn32tab), ("math/bits.deBruijn64tab", Rows.laid_math_bits_deBruijn64tab), ("internal/strconv.uint64pow10", Rows.laid_internal_strconv_uint64pow10), ("unicode/utf8.acceptRanges", Rows.laid_unicode_utf8_acceptRanges), ("strconv.ErrRange", Rows.laid_strconv_ErrRange), ("strconv.ErrSyntax", Rows.laid_strconv_ErrSyntax), ("unicode/utf8.first", Rows.laid_unicode_utf8_first)]
theorem tab_of {W:World} (h:laidMet Tryz.prog laidAll W):Tab W :=
 Lib.tabIs_of_head (zs:=Lib.pow10Tab) gPow gPowType Tryz.underlying259 Tryz.underlying170 cellsEl cellsArr (laidMet.tail (laidMet.tail h))
theorem star : "*" ++ "errors.errorString" = "*errors.errorString" := by decide
theorem cellsEs:Tryz.prog.cellsOf 268=1:=by kernel_rfl
theorem cellsStr:Tryz.prog.cellsOf 9=1:=by kernel_rfl
theorem rowEs (u : TypeId) (h : Tryz.prog.typeName? 3 u = some "*errors.errorString") : u = 266 :=
 typeName_ptr_named (nm := "errors.errorString") (by rw [star]; kernel_rfl) (by kernel_rfl) (by decide) u (by rw [star]; exact h)
theorem gErrRange : Tryz.prog.globalNamed "strconv.ErrRange" = some 1 := by kernel_rfl
theorem gErrRangeType:(Tryz.prog.globals[1]?).map (·.type)=some 134:=by kernel_rfl
theorem atErrRange_of {W:World} (h:laidMet Tryz.prog laidAll W):ErAt 1 W:=by
 obtain ⟨a0,s0,hv0,_,_,_⟩:=laid_sentinel (laidMet.tail (laidMet.tail (laidMet.tail (laidMet.tail h)))) gErrRange gErrRangeType Tryz.underlying134 rowEs Tryz.underlying266 Tryz.underlying268 rfl rfl Tryz.underlying9 cellsEs cellsStr
 have hc:W.cell? ⟨1,0,none⟩=some (.iface 266 (.pointer (some a0))):=by simpa using World.var?_cell gErrRange hv0 0
 refine ⟨_,hc,.inr ⟨_,_,rfl⟩,?_⟩
 rcases Nat.lt_or_ge 1 W.heap.size with h1 | h1
 · exact h1
 · simp [World.cell?,Array.getElem?_eq_none h1] at hc
theorem gErrSyntax : Tryz.prog.globalNamed "strconv.ErrSyntax" = some 0 := by kernel_rfl
theorem gErrSyntaxType:(Tryz.prog.globals[0]?).map (·.type)=some 134:=by kernel_rfl
theorem atErrSyntax_of {W:World} (h:laidMet Tryz.prog laidAll W):ErAt 0 W:=by
 obtain ⟨a0,s0,hv0,_,_,_⟩:=laid_sentinel (laidMet.tail (laidMet.tail (laidMet.tail (laidMet.tail (laidMet.tail h))))) gErrSyntax gErrSyntaxType Tryz.underlying134 rowEs Tryz.underlying266 Tryz.underlying268 rfl rfl Tryz.underlying9 cellsEs cellsStr
 have hc:W.cell? ⟨0,0,none⟩=some (.iface 266 (.pointer (some a0))):=by simpa using World.var?_cell gErrSyntax hv0 0
 refine ⟨_,hc,.inr ⟨_,_,rfl⟩,?_⟩
 rcases Nat.lt_or_ge 0 W.heap.size with h1 | h1
 · exact h1
 · simp [World.cell?,Array.getElem?_eq_none h1] at hc
theorem ers_of {W:World} (h:laidMet Tryz.prog laidAll W):Ers W:=⟨atErrSyntax_of h,atErrRange_of h⟩
noncomputable def low:Nat:=(World.holding Tryz.prog default ⟨#[],#[],[]⟩).heap.size
noncomputable def laidWorld (os:Os):World :=
 let w0:=World.holding Tryz.prog os ⟨#[.cells #[.string ⟨#[118,97,108,117,101,32,111,117,116,32,111,102,32,114,97,110,103,101]⟩] 268,.cells #[.string ⟨#[105,110,118,97,108,105,100,32,115,121,110,116,97,120]⟩] 268],#[],[]⟩
 { w0 with heap:=((((((w0.heap.modify 3 fun
  | .cells _ t frozen => .cells #[.int .u64 1,.int .u64 10,.int .u64 100,.int .u64 1000,.int .u64 10000,.int .u64 100000,.int .u64 1000000,.int .u64 10000000,.int .u64 100000000,.int .u64 1000000000,.int .u64 10000000000,.int .u64 100000000000,.int .u64 1000000000000,.int .u64 10000000000000,.int .u64 100000000000000,.int .u64 1000000000000000,.int .u64 10000000000000000,.int .u64 100000000000000000,.int .u64 1000000000000000000,.int .u64 10000000000000000000] t frozen
  | o=>o).modify 6 fun
  | .cells _ t frozen => .cells #[.int .u8 0,.int .u8 1,.int .u8 28,.int .u8 2,.int .u8 29,.int .u8 14,.int .u8 24,.int .u8 3,.int .u8 30,.int .u8 22,.int .u8 20,.int .u8 15,.int .u8 25,.int .u8 17,.int .u8 4,.int .u8 8,.int .u8 31,.int .u8 27,.int .u8 13,.int .u8 23,.int .u8 21,.int .u8 19,.int .u8 16,.int .u8 7,.int .u8 26,.int .u8 12,.int .u8 18,.int .u8 6,.int .u8 11,.int .u8 5,.int .u8 10,.int .u8 9] t frozen
  | o=>o).modify 7 fun
  | .cells _ t frozen => .cells #[.int .u8 0,.int .u8 1,.int .u8 56,.int .u8 2,.int .u8 57,.int .u8 49,.int .u8 28,.int .u8 3,.int .u8 61,.int .u8 58,.int .u8 42,.int .u8 50,.int .u8 38,.int .u8 29,.int .u8 17,.int .u8 4,.int .u8 62,.int .u8 47,.int .u8 59,.int .u8 36,.int .u8 45,.int .u8 43,.int .u8 51,.int .u8 22,.int .u8 53,.int .u8 39,.int .u8 33,.int .u8 30,.int .u8 24,.int .u8 18,.int .u8 12,.int .u8 5,.int .u8 63,.int .u8 55,.int .u8 48,.int .u8 27,.int .u8 60,.int .u8 41,.int .u8 37,.int .u8 16,.int .u8 46,.int .u8 35,.int .u8 44,.int .u8 21,.int .u8 52,.int .u8 32,.int .u8 23,.int .u8 11,.int .u8 54,.int .u8 26,.int .u8 40,.int .u8 15,.int .u8 34,.int .u8 20,.int .u8 31,.int .u8 10,.int .u8 25,.int .u8 14,.int .u8 19,.int .u8 9,.int .u8 13,.int .u8 8,.int .u8 7,.int .u8 6] t frozen
  | o=>o).modify 1 fun
  | .cells _ t frozen => .cells #[.iface 266 (.pointer (some ⟨low,0,none⟩))] t frozen
  | o=>o).modify 0 fun
  | .cells _ t frozen => .cells #[.iface 266 (.pointer (some ⟨low+1,0,none⟩))] t frozen
  | o=>o).modify 5 fun
  | .cells _ t frozen => .cells #[.int .u8 128,.int .u8 191,.int .u8 160,.int .u8 191,.int .u8 128,.int .u8 159,.int .u8 144,.int .u8 191,.int .u8 128,.int .u8 143,.int .u8 0,.int .u8 0,.int .u8 0,.int .u8 0,.int .u8 0,.int .u8 0,.int .u8 0,.int .u8 0,.int .u8 0,.int .u8 0,.int .u8 0,.int .u8 0,.int .u8 0,.int .u8 0,.int .u8 0,.int .u8 0,.int .u8 0,.int .u8 0,.int .u8 0,.int .u8 0,.int .u8 0,.int .u8 0] t frozen
  | o=>o).modify 4 fun
  | .cells _ t frozen => .cells #[.int .u8 240,.int .u8 240,.int .u8 240,.int .u8 240,.int .u8 240,.int .u8 240,.int .u8 240,.int .u8 240,.int .u8 240,.int .u8 240,.int .u8 240,.int .u8 240,.int .u8 240,.int .u8 240,.int .u8 240,.int .u8 240,.int .u8 240,.int .u8 240,.int .u8 240,.int .u8 240,.int .u8 240,.int .u8 240,.int .u8 240,.int .u8 240,.int .u8 240,.int .u8 240,.int .u8 240,.int .u8 240,.int .u8 240,.int .u8 240,.int .u8 240,.int .u8 240,.int .u8 240,.int .u8 240,.int .u8 240,.int .u8 240,.int .u8 240,.int .u8 240,.int .u8 240,.int .u8 240,.int .u8 240,.int .u8 240,.int .u8 240,.int .u8 240,.int .u8 240,.int .u8 240,.int .u8 240,.int .u8 240,.int .u8 240,.int .u8 240,.int .u8 240,.int .u8 240,.int .u8 240,.int .u8 240,.int .u8 240,.int .u8 240,.int .u8 240,.int .u8 240,.int .u8 240,.int .u8 240,.int .u8 240,.int .u8 240,.int .u8 240,.int .u8 240,.int .u8 240,.int .u8 240,.int .u8 240,.int .u8 240,.int .u8 240,.int .u8 240,.int .u8 240,.int .u8 240,.int .u8 240,.int .u8 240,.int .u8 240,.int .u8 240,.int .u8 240,.int .u8 240,.int .u8 240,.int .u8 240,.int .u8 240,.int .u8 240,.int .u8 240,.int .u8 240,.int .u8 240,.int .u8 240,.int .u8 240,.int .u8 240,.int .u8 240,.int .u8 240,.int .u8 240,.int .u8 240,.int .u8 240,.int .u8 240,.int .u8 240,.int .u8 240,.int .u8 240,.int .u8 240,.int .u8 240,.int .u8 240,.int .u8 240,.int .u8 240,.int .u8 240,.int .u8 240,.int .u8 240,.int .u8 240,.int .u8 240,.int .u8 240,.int .u8 240,.int .u8 240,.int .u8 240,.int .u8 240,.int .u8 240,.int .u8 240,.int .u8 240,.int .u8 240,.int .u8 240,.int .u8 240,.int .u8 240,.int .u8 240,.int .u8 240,.int .u8 240,.int .u8 240,.int .u8 240,.int .u8 240,.int .u8 240,.int .u8 240,.int .u8 240,.int .u8 241,.int .u8 241,.int .u8 241,.int .u8 241,.int .u8 241,.int .u8 241,.int .u8 241,.int .u8 241,.int .u8 241,.int .u8 241,.int .u8 241,.int .u8 241,.int .u8 241,.int .u8 241,.int .u8 241,.int .u8 241,.int .u8 241,.int .u8 241,.int .u8 241,.int .u8 241,.int .u8 241,.int .u8 241,.int .u8 241,.int .u8 241,.int .u8 241,.int .u8 241,.int .u8 241,.int .u8 241,.int .u8 241,.int .u8 241,.int .u8 241,.int .u8 241,.int .u8 241,.int .u8 241,.int .u8 241,.int .u8 241,.int .u8 241,.int .u8 241,.int .u8 241,.int .u8 241,.int .u8 241,.int .u8 241,.int .u8 241,.int .u8 241,.int .u8 241,.int .u8 241,.int .u8 241,.int .u8 241,.int .u8 241,.int .u8 241,.int .u8 241,.int .u8 241,.int .u8 241,.int .u8 241,.int .u8 241,.int .u8 241,.int .u8 241,.int .u8 241,.int .u8 241,.int .u8 241,.int .u8 241,.int .u8 241,.int .u8 241,.int .u8 241,.int .u8 241,.int .u8 241,.int .u8 2,.int .u8 2,.int .u8 2,.int .u8 2,.int .u8 2,.int .u8 2,.int .u8 2,.int .u8 2,.int .u8 2,.int .u8 2,.int .u8 2,.int .u8 2,.int .u8 2,.int .u8 2,.int .u8 2,.int .u8 2,.int .u8 2,.int .u8 2,.int .u8 2,.int .u8 2,.int .u8 2,.int .u8 2,.int .u8 2,.int .u8 2,.int .u8 2,.int .u8 2,.int .u8 2,.int .u8 2,.int .u8 2,.int .u8 2,.int .u8 19,.int .u8 3,.int .u8 3,.int .u8 3,.int .u8 3,.int .u8 3,.int .u8 3,.int .u8 3,.int .u8 3,.int .u8 3,.int .u8 3,.int .u8 3,.int .u8 3,.int .u8 35,.int .u8 3,.int .u8 3,.int .u8 52,.int .u8 4,.int .u8 4,.int .u8 4,.int .u8 68,.int .u8 241,.int .u8 241,.int .u8 241,.int .u8 241,.int .u8 241,.int .u8 241,.int .u8 241,.int .u8 241,.int .u8 241,.int .u8 241,.int .u8 241] t frozen
  | o=>o }
theorem laid_met (os:Os) (args:Array Value):laidMet Tryz.prog laidAll ((laidWorld os).forCall (fun _ _=>0) ⟨#[],args,[]⟩).memory :=
 laidMet_of_run' 8 (by kernel_rfl) (by kernel_rfl)
end Go.Proofs.YtkhdocdddicgpaaGreatDoor
