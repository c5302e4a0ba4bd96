/- Part 6: what the law's walk leans on. -/
import Derived.Test.YtkhdocdddicgpaaGreatDoorYt5
import Derived.Laws.IdiomStrings
import Derived.Test.YtkhdocdddicgpaaGreatDoorYt2
import Derived.Test.YtkhdocdddicgpaaGreatDoorYt3
set_option linter.unusedVariables false
set_option linter.unusedSimpArgs false
namespace Go.Proofs.YtkhdocdddicgpaaGreatDoor
open Go.RowKit _root_.Go.Proofs.YtkhdocdddicgpaaGreatDoor.Nm
theorem tab_from {w w':World} (h:Tab w) (hb:Below w.heap.size w w'):TabFrom w.heap.size w':=fun w2 hb2=>Lib.tabBelow_of_tabIs h w2 (hb.trans hb2)
theorem tab_keep {w w':World} (h:Tab w) (hb:Below w.heap.size w w'):Tab w':=(tab_from h hb).here
theorem appendTo_any (out:List UInt8) (nv sv:Value) (n:Nat) (w0 w:World) (hn:IsNat w0 nv n) (ln:(ds 1000000000 n).length≤1000) (hb:Below w0.heap.size w0 w) (htab:Tab w0)
 (hown:w.ownsRow w0.heap.size 5 1 sv out.length (Lib.byteCells out)) (hl:out.length≤1000) :
 Calls Tryz.prog 203 #[nv,sv] w (TxtPost w0.heap.size w (out++Lib.decDigits n)):=by
 rcases Rd.cases hn with ⟨h0,aa,ca,rfl,_⟩ | ⟨h0,g,off,ca,rfl,_,_,hg,hr⟩
 · have:n=0:=(ds_eq_nil _ (by omega) n).1 h0
   subst this
   rw [show Lib.decDigits 0=[48] from by decide +kernel]
   exact appendTo_zero _ out aa ca sv w hown hb.size (by omega)
 · have h:=appendTo_pos w0.heap.size g off ca out (ds 1000000000 n) sv w hown hb.size hl h0 ln (ds_lt _ (by omega) n) (getLast_ne _ (by omega) n) (hr.keep hb hg) hg (tab_from htab hb)
   rwa [vl_ds _ (by omega)] at h
def StrPost (l:List UInt8) (w:World) (e:Ending) (w':World):Prop:=e = .returned (.string ⟨l.toArray⟩)∧Below w.heap.size w w'
theorem bytes_back {B:Nat} {w:World} {v:Value} {l:List UInt8} (h:w.ownsRow B 5 1 v l.length (Lib.byteCells l)) (h0:0<l.length) :
 ∃ a c,v = .slice (some a) l.length c∧(convert 128 9 (.slice (some a) l.length c)).run Tryz.prog w = .ok (.string ⟨l.toArray⟩) w:=by
 rcases h.2 with ⟨_,h2⟩ | ⟨g,cap,cur,rfl,_⟩
 · omega
 · refine ⟨⟨g,0,none⟩,cap,rfl,run_convert_bytes_back w _ _ 5 _ _ l Tryz.underlying128 Tryz.underlying5 Tryz.underlying9 fun j hj => ?_⟩
   have hc:=World.ownsRow.cells h (g:=g) rfl j (.int .u8 (l[j].toNat:Int)) (by simp [Lib.byteCells,List.getElem?_eq_getElem hj])
   exact hc
set_option maxHeartbeats 2000000 in
set_option maxRecDepth 100000 in
theorem Text_short (z:Int) (hz:z.natAbs<1000000000000000000) (w:World) (htab:Tab w) :
 Calls Tryz.prog 172 #[.agg #[.int .i64 z,.pointer none]] w (StrPost (Lib.itoa z) w):=by
 have h1 : -9223372036854775808≤z:=by omega
 have h2:z≤9223372036854775807:=by omega
 have HT:=Lib.hid htab
 clear hz htab
 go_enter Tryz.func172,Tryz.ntmps172
 go_wp2_with fail
 refine (Tryz.strconv_FormatInt_10 z h1 h2 _ (tab_keep HT.out ((Below.refl _ _).alloc (Nat.le_refl _) _))).mono ?_
 rintro e w1 ⟨rfl,kk,os,hw⟩
 have HB:=Lib.hid (show Below w.heap.size w w1 from by rw [hw];exact ((Below.refl _ _).alloc (Nat.le_refl _) _).trans (Lib.below_grow w.heap.size _ (by simp) kk os))
 clear hw
 go_wp2
 go_ret
 exact ⟨rfl,HB.out⟩
set_option maxHeartbeats 2000000 in
set_option maxRecDepth 100000 in
theorem Text_pos (P:Nat→Prop) (g:Nat) (aa:Option Addr) (m ca n:Nat) (w:World) (hf:Far P w g false (.slice aa m ca) n) (ln:(ds 1000000000 n).length≤1000) (hm:m≤1000) (htab:Tab w) :
 Calls Tryz.prog 172 #[.agg #[.int .i64 0,.pointer (some ⟨g,0,none⟩)]] w (StrPost (Lib.decDigits n) w):=by
 obtain ⟨i0,hi,hz0,hz1,hz2⟩:=info_parts info8
 have HI:=Lib.hid hi
 have HZ0:=Lib.hid hz0
 have HZ1:=Lib.hid hz1
 have HZ2:=Lib.hid hz2
 have HF:=Lib.hid hf
 have HT:=Lib.hid htab
 obtain ⟨c0,c1⟩:=hf.cells
 have hg:=hf.1
 clear hi hz0 hz1 hz2 hf htab
 go_enter Tryz.func172,Tryz.ntmps172
 go_wp2_with (refine wpList_make_own _ rfl (.const (.int .i64 0)) (.tmp 17) 128 rfl w.heap.size 5 i0 (.int .u8 0) 1 Tryz.underlying128 HI.out HZ0.out HZ1.out .i64 .i64 _ (9*m+1) rfl rfl (by omega) (by rw [HZ2.out];omega) (by unfold maxLen;omega) (by simp) ?_;intro w1 hown hgrow;refine hold ?_)
 have hB:=((Below.refl (w.heap.size+1) (w.alloc (.cells #[.int .i64 0,.pointer (some ⟨g,0,none⟩)] 107)))).grown hgrow (by simp) (fun k hk=>by simp at hk)
 have hBW:=((Below.refl w.heap.size w).alloc (Nat.le_refl _) (.cells #[.int .i64 0,.pointer (some ⟨g,0,none⟩)] 107)).trans (hB.mono (by omega))
 have HBX:=Lib.hid ((Bx.new w (.int .i64 0) (.pointer (some ⟨g,0,none⟩)) 107).below hB (by omega))
 obtain ⟨q0,q1,q2,q3⟩:=HBX.out.cell
 have d0:w1.cell? ⟨g,0,none⟩=some (.bool false):=(hBW.cell (p:=⟨g,0,none⟩) hg).trans c0
 have d1:w1.cell? ⟨g,1,none⟩=some (.slice aa m ca):=(hBW.cell (p:=⟨g,1,none⟩) hg).trans c1
 have HB:=Lib.hid hBW
 have HB1:=Lib.hid hB
 rw [World.size_alloc] at hown
 have HOWN:Hid (w1.ownsRow w.heap.size 5 1 (.slice (some ⟨w.heap.size+1,0,none⟩) 0 (9*m+1)) ([]:List UInt8).length (Lib.byteCells [])):=Lib.hid hown
 clear hown hgrow hB hBW
 refine go_on ?_
 go_wp2_with fail
 refine (appendTo_any [] _ _ n w w1 HF.out.2.2.2.2 ln HB.out HT.out HOWN.out (by simp)).mono ?_
 rintro e w2 ⟨v',rfl,h1,h2⟩
 rw [List.nil_append] at h1
 obtain ⟨a,c,rfl,hcv⟩:=bytes_back h1 (List.length_pos_iff.2 (dec_ne n))
 have H2:=Lib.hid h2
 clear h1 h2
 go_wp2
 go_ret
 exact ⟨rfl,HB.out.trans H2.out⟩
set_option maxHeartbeats 2000000 in
set_option maxRecDepth 100000 in
theorem Text_neg (P:Nat→Prop) (g:Nat) (aa:Option Addr) (m ca n:Nat) (w:World) (hf:Far P w g true (.slice aa m ca) n) (ln:(ds 1000000000 n).length≤1000) (hm:m≤1000) (htab:Tab w) :
 Calls Tryz.prog 172 #[.agg #[.int .i64 0,.pointer (some ⟨g,0,none⟩)]] w (StrPost (45::Lib.decDigits n) w):=by
 obtain ⟨i0,hi,hz0,hz1,hz2⟩:=info_parts info8
 have HI:=Lib.hid hi
 have HZ0:=Lib.hid hz0
 have HZ1:=Lib.hid hz1
 have HZ2:=Lib.hid hz2
 have HF:=Lib.hid hf
 have HT:=Lib.hid htab
 obtain ⟨c0,c1⟩:=hf.cells
 have hg:=hf.1
 clear hi hz0 hz1 hz2 hf htab
 go_enter Tryz.func172,Tryz.ntmps172
 go_wp2_with (refine wpList_make_own _ rfl (.const (.int .i64 0)) (.tmp 17) 128 rfl w.heap.size 5 i0 (.int .u8 0) 1 Tryz.underlying128 HI.out HZ0.out HZ1.out .i64 .i64 _ (9*m+1) rfl rfl (by omega) (by rw [HZ2.out];omega) (by unfold maxLen;omega) (by simp) ?_;intro w1 hown hgrow;refine hold ?_)
 have hB:=((Below.refl (w.heap.size+1) (w.alloc (.cells #[.int .i64 0,.pointer (some ⟨g,0,none⟩)] 107)))).grown hgrow (by simp) (fun k hk=>by simp at hk)
 have hBW:=((Below.refl w.heap.size w).alloc (Nat.le_refl _) (.cells #[.int .i64 0,.pointer (some ⟨g,0,none⟩)] 107)).trans (hB.mono (by omega))
 have HBX:=Lib.hid ((Bx.new w (.int .i64 0) (.pointer (some ⟨g,0,none⟩)) 107).below hB (by omega))
 obtain ⟨q0,q1,q2,q3⟩:=HBX.out.cell
 have d0:w1.cell? ⟨g,0,none⟩=some (.bool true):=(hBW.cell (p:=⟨g,0,none⟩) hg).trans c0
 have d1:w1.cell? ⟨g,1,none⟩=some (.slice aa m ca):=(hBW.cell (p:=⟨g,1,none⟩) hg).trans c1
 have HB:=Lib.hid hBW
 have HB1:=Lib.hid hB
 rw [World.size_alloc] at hown
 have HOWN:Hid (w1.ownsRow w.heap.size 5 1 (.slice (some ⟨w.heap.size+1,0,none⟩) 0 (9*m+1)) ([]:List UInt8).length (Lib.byteCells [])):=Lib.hid hown
 clear hown hgrow hB hBW
 refine go_on ?_
 have hsz:w.heap.size≤w1.heap.size:=HB.out.size
 go_wp2_with (at_builtin;refine wpList_append_own _ rfl _ _ 128 rfl w.heap.size 5 i0 (.int .u8 0) 1 1 Tryz.underlying128 HI.out HZ0.out HZ1.out HZ2.out rfl (by decide) _ _ _ rfl (HOWN.out.alloc _) ⟨w1.heap.size,0,none⟩ 1 1 [.int .u8 45] rfl rfl ?c1 ?c2 ?c3 ?c4 ?c5 ?_)
 case c1 =>
  intro j u hj
  match j,hj with
  | 0,hj=>simp at hj;subst hj;simp [Addr.add]
 case c2=>intro u hu;simp at hu;subst hu;rfl
 case c3=>unfold maxLen;simp
 case c4=>simp
 case c5=>simp;omega
 intro v3 w3 hown' hgrow _
 have H3:=Lib.hid hown'
 have HB3:=Lib.hid ((HB.out.alloc hsz _).grown hgrow (by simp;omega) (fun k hk=>(HOWN.out.lt k hk).1))
 have hlt:w.heap.size<w1.heap.size:=by have:=HB1.out.size;rw [World.size_alloc] at this;omega
 have r1:w3.cell? ⟨w.heap.size,1,none⟩=some (.pointer (some ⟨g,0,none⟩)):=(World.cell?_of_block (hgrow.block w.heap.size (by simp;omega) (by simp [Value.ownBlock]))).trans ((World.cell?_alloc_past _ _ _ hlt).trans q1)
 have r2:w3.cell? ⟨g,1,none⟩=some (.slice aa m ca):=(World.cell?_of_block (hgrow.block g (by simp;omega) (by simp [Value.ownBlock];omega))).trans ((World.cell?_alloc_past _ _ _ (by omega)).trans d1)
 have H3':Hid (w3.ownsRow w.heap.size 5 1 v3 ([45]:List UInt8).length (Lib.byteCells [45])):=H3
 clear hown' hgrow H3 c0 c1 d0 d1 q0 q1 q2 q3
 go_wp2_with fail
 refine (appendTo_any [45] _ _ n w w3 HF.out.2.2.2.2 ln HB3.out HT.out H3'.out (by simp)).mono ?_
 rintro e w2 ⟨v',rfl,h1,h2⟩
 have hpos:0<([45]++Lib.decDigits n).length:=by simp
 have HL:Hid ([45]++Lib.decDigits n=45::Lib.decDigits n):=Lib.hid rfl
 generalize [45]++Lib.decDigits n=L at h1 hpos HL
 obtain ⟨a,c,rfl,hcv⟩:=bytes_back h1 hpos
 have H2:=Lib.hid h2
 clear h1 h2
 go_wp2
 go_ret
 exact ⟨by rw [← HL.out];rfl,HB3.out.trans H2.out⟩
theorem Text_any (P:Nat→Prop) (x:Value) (z:Int) (w:World) (hx:IsInt P w x z) (ln:(ds 1000000000 z.natAbs).length≤1000) (htab:Tab w) :
 Calls Tryz.prog 172 #[x] w (StrPost (Lib.itoa z) w):=by
 rcases hx with ⟨h1,rfl⟩ | ⟨h1,g,sv,rfl,h2⟩
 · exact Text_short z h1 w htab
 · obtain ⟨aa,c,rfl,_⟩:=id h2.2.2.2.2
   unfold Lib.itoa
   by_cases hz:z<0
   · rw [if_pos hz]
     rw [show isNeg z=true from by simp [isNeg,hz]] at h2
     exact Text_neg P g aa _ c _ w h2 ln ln htab
   · rw [if_neg hz,show z.toNat=z.natAbs from by omega]
     rw [show isNeg z=false from by simp [isNeg,hz]] at h2
     exact Text_pos P g aa _ c _ w h2 ln ln htab
end Go.Proofs.YtkhdocdddicgpaaGreatDoor
set_option linter.unusedVariables false
set_option linter.unusedSimpArgs false
namespace Go.Proofs.YtkhdocdddicgpaaGreatDoor
open Go.RowKit _root_.Go.Proofs.YtkhdocdddicgpaaGreatDoor.Nm
theorem pair_kept {Q:Nat→Prop} (w1:World) (g:Nat) (x0 x1 y0 y1:Value) (hg:¬ Q g) (hg1:¬ Q (g+1)):Kept Q w1 ((((w1.setCell ⟨g,0,none⟩ x0).setCell ⟨g,1,none⟩ x1).setCell ⟨g+1,0,none⟩ y0).setCell ⟨g+1,1,none⟩ y1) :=
 (((Kept.set w1 g 0 x0 hg).trans (.set _ g 1 x1 hg)).trans (.set _ (g+1) 0 y0 hg1)).trans (.set _ (g+1) 1 y1 hg1)
theorem pair_below (w1:World) (g:Nat) (x0 x1 y0 y1:Value):Below g w1 ((((w1.setCell ⟨g,0,none⟩ x0).setCell ⟨g,1,none⟩ x1).setCell ⟨g+1,0,none⟩ y0).setCell ⟨g+1,1,none⟩ y1) :=
 ((((Only.refl g w1).set 0 x0).set 1 x1).below (Nat.le_refl _)).trans ((((Only.refl (g+1) _).set 0 y0).set 1 y1).below (Nat.le_succ _))
def St2 (w W:World) (x0 x1 y0 y1:Value):Prop:=Below w.heap.size w W∧w.heap.size+2≤W.heap.size∧Bx W w.heap.size x0 x1∧Bx W (w.heap.size+1) y0 y1
theorem St2.start (w:World) (x0 x1 y0 y1:Value) (T1 T2:TypeId):St2 w ((w.alloc (.cells #[x0,x1] T1)).alloc (.cells #[y0,y1] T2)) x0 x1 y0 y1 :=
 ⟨boxes2 _ _ _,by simp,(Bx.new w x0 x1 T1).alloc _,second_box w _ y0 y1 T2 ()⟩
theorem St2.next {w W W':World} {x0 x1 y0 y1:Value} {B:Nat} (h:St2 w W x0 x1 y0 y1) (hb:Below B W W') (hB:W.heap.size≤B):St2 w W' x0 x1 y0 y1:=by
 obtain ⟨h1,h2,h3,h4⟩:=h
 exact ⟨h1.trans (hb.mono (by omega)),Nat.le_trans h2 hb.size,h3.below hb (by have:=h3.lt;omega),h4.below hb (by have:=h4.lt;omega)⟩
theorem St2.drew {w W:World} {x0 x1 y0 y1:Value} (h:St2 w W x0 x1 y0 y1):St2 w W.drew x0 x1 y0 y1:=⟨h.1.drew,h.2.1,h.2.2.1.drew,h.2.2.2.drew⟩
theorem St2.cells {w W:World} {x0 x1 y0 y1:Value} (h:St2 w W x0 x1 y0 y1) :
 W.cell? ⟨w.heap.size,0,none⟩=some x0∧W.cell? ⟨w.heap.size,1,none⟩=some x1∧W.cell? ⟨w.heap.size+1,0,none⟩=some y0∧W.cell? ⟨w.heap.size+1,1,none⟩=some y1 ∧
 W.frozen? ⟨w.heap.size,0,none⟩=false∧W.frozen? ⟨w.heap.size,1,none⟩=false∧W.frozen? ⟨w.heap.size+1,0,none⟩=false∧W.frozen? ⟨w.heap.size+1,1,none⟩=false:=by
 obtain ⟨_,_,h3,h4⟩:=h
 exact ⟨h3.cell.1,h3.cell.2.1,h4.cell.1,h4.cell.2.1,h3.cell.2.2.1,h3.cell.2.2.2,h4.cell.2.2.1,h4.cell.2.2.2⟩
def Bar2 (P:Nat→Prop) (w:World) (k:Nat):Prop:=P k∧(k<w.heap.size∨w.heap.size+2≤k)
theorem Bar2.new {P:Nat→Prop} {w:World} (hP:∀ k,w.heap.size≤k→P k) (k:Nat) (hk:w.heap.size+2≤k):Bar2 P w k:=⟨hP k (by omega),.inr hk⟩
theorem IsInt.bar2 {P:Nat→Prop} {w W:World} {v:Value} {z:Int} (h:IsInt P w v z) (hb:Below w.heap.size w W):IsInt (Bar2 P w) W v z :=
 (h.mono (fun k hk hp=>(⟨hp,.inl hk⟩:Bar2 P w k))).kept (.all hb)
end Go.Proofs.YtkhdocdddicgpaaGreatDoor
set_option linter.unusedVariables false
set_option linter.unusedSimpArgs false
namespace Go.Proofs.YtkhdocdddicgpaaGreatDoor
open Go.RowKit _root_.Go.Proofs.YtkhdocdddicgpaaGreatDoor.Nm
def Ten (K:Nat) (z:Int):Prop:=∃ k,k≤K∧z.natAbs<10 ^ k
theorem Ten.mono {K L:Nat} {z:Int} (h:Ten K z) (hl:K≤L):Ten L z:=by
 obtain ⟨k,h1,h2⟩:=h
 exact ⟨k,Nat.le_trans h1 hl,h2⟩
theorem Ten.neg {K:Nat} {z:Int} (h:Ten K z):Ten K (-z):=by
 obtain ⟨k,h1,h2⟩:=h
 exact ⟨k,h1,by rwa [Int.natAbs_neg]⟩
theorem Ten.mul {K L:Nat} {a b:Int} (h:Ten K a) (h':Ten L b):Ten (K+L) (a*b):=by
 obtain ⟨k,h1,h2⟩:=h
 obtain ⟨l,h3,h4⟩:=h'
 refine ⟨k+l,by omega,?_⟩
 rw [Int.natAbs_mul,Nat.pow_add]
 exact Nat.mul_lt_mul'' h2 h4
theorem ten_up (k K n:Nat) (h:k≤K) (hn:n<10 ^ k):n<10 ^ K:=Nat.lt_of_lt_of_le hn (Nat.pow_le_pow_right (by omega) h)
theorem Ten.add {K:Nat} {a b:Int} (h:Ten K a) (h':Ten K b):Ten (K+1) (a+b):=by
 obtain ⟨k,h1,h2⟩:=h
 obtain ⟨l,h3,h4⟩:=h'
 refine ⟨K+1,by omega,?_⟩
 have e1:=ten_up _ _ _ h1 h2
 have e2:=ten_up _ _ _ h3 h4
 have e3:=Int.natAbs_add_le a b
 rw [Nat.pow_succ]
 generalize 10 ^ K=X at *
 omega
theorem ds_ten (m k n:Nat) (h:n<10 ^ k) (hk:k≤9*m):(ds 1000000000 n).length≤m:=by
 refine ds_length_le _ (by omega) n m (Nat.lt_of_lt_of_le h ?_)
 rw [show 1000000000=10 ^ 9 from rfl, ← Nat.pow_mul]
 exact Nat.pow_le_pow_right (by omega) hk
theorem zv_ten (l:List UInt8) (h:canon l=true):Ten 400 (zv l):=by
 by_cases h45:l.head?=some 45
 · obtain ⟨r,rfl⟩:=cons_of_head l h45
   rw [canon_neg] at h
   simp only [Bool.and_eq_true,decide_eq_true_eq] at h
   have h1:=tv_lt r (canonN_parts h.1.1).1
   exact ⟨r.length,h.2,by rw [zv_neg,show (-(tv r:Int)).natAbs=tv r from by omega];exact h1⟩
 · rw [canon_pos l h45] at h
   simp only [Bool.and_eq_true,decide_eq_true_eq] at h
   have h1:=tv_lt l (canonN_parts h.1).1
   exact ⟨l.length,h.2,by rw [zv_pos l h45,Int.natAbs_natCast];exact h1⟩
def Ev (k:Nat):Prop:=True
theorem Ev.all {w:World} (k:Nat) (hk:w.heap.size≤k):Ev k:=trivial
end Go.Proofs.YtkhdocdddicgpaaGreatDoor
set_option linter.unusedVariables false
set_option linter.unusedSimpArgs false
namespace Go.Proofs.YtkhdocdddicgpaaGreatDoor
open Go.RowKit _root_.Go.Proofs.YtkhdocdddicgpaaGreatDoor.Nm
def Bs (W:World) (l:List (Nat × Value × Value)):Prop:=∀ t∈l,Bx W t.1 t.2.1 t.2.2
theorem Bs.nil (W:World):Bs W []:=fun t h=>by cases h
theorem Bs.cons {W:World} {g:Nat} {x y:Value} {l:List (Nat × Value × Value)} (h:Bx W g x y) (hl:Bs W l):Bs W ((g,x,y)::l):=by
 intro t ht
 rcases List.mem_cons.1 ht with rfl | ht
 · exact h
 · exact hl t ht
theorem Bs.head {W:World} {g:Nat} {x y:Value} {l:List (Nat × Value × Value)} (h:Bs W ((g,x,y)::l)):Bx W g x y:=h _ List.mem_cons_self
theorem Bs.tail {W:World} {g:Nat} {x y:Value} {l:List (Nat × Value × Value)} (h:Bs W ((g,x,y)::l)):Bs W l:=fun t ht=>h t (List.mem_cons_of_mem _ ht)
theorem Bs.next {W W':World} {l:List (Nat × Value × Value)} {B:Nat} (h:Bs W l) (hb:Below B W W') (hB:W.heap.size≤B):Bs W' l:=fun t ht=>(h t ht).below hb (Nat.lt_of_lt_of_le (h t ht).lt hB)
theorem Bs.drew {W:World} {l:List (Nat × Value × Value)} (h:Bs W l):Bs W.drew l:=h
def Bar (m:Nat) (P:Nat→Prop) (w:World) (k:Nat):Prop:=P k∧(k<w.heap.size∨w.heap.size+m≤k)
theorem Bar.new {m:Nat} {P:Nat→Prop} {w:World} (hP:∀ k,w.heap.size≤k→P k) (k:Nat) (hk:w.heap.size+m≤k):Bar m P w k:=⟨hP k (by omega),.inr hk⟩
theorem IsInt.bar {m:Nat} {P:Nat→Prop} {w W:World} {v:Value} {z:Int} (h:IsInt P w v z) (hb:Below w.heap.size w W):IsInt (Bar m P w) W v z :=
 (h.mono (fun k hk hp=>(⟨hp,.inl hk⟩:Bar m P w k))).kept (.all hb)
theorem boxes4 (w:World) (x y z u:Obj):Below w.heap.size w ((((w.alloc x).alloc y).alloc z).alloc u):=(boxes3 w x y z).alloc (by simp;omega) u
theorem third_new (w:World) (x y z:Obj):(((w.alloc x).alloc y).alloc z).heap[w.heap.size+1+1]?=some z:=by
 have:=second_new (w.alloc x) y z
 rwa [World.size_alloc] at this
theorem fourth_new (w:World) (x y z u:Obj):((((w.alloc x).alloc y).alloc z).alloc u).heap[w.heap.size+1+1+1]?=some u:=by
 have:=third_new (w.alloc x) y z u
 rwa [World.size_alloc] at this
theorem Bs.four (w:World) (x0 x1 y0 y1 z0 z1 u0 u1:Value) (T1 T2 T3 T4:TypeId) :
 Bs ((((w.alloc (.cells #[x0,x1] T1)).alloc (.cells #[y0,y1] T2)).alloc (.cells #[z0,z1] T3)).alloc (.cells #[u0,u1] T4)) [(w.heap.size,x0,x1),(w.heap.size+1,y0,y1),(w.heap.size+1+1,z0,z1),(w.heap.size+1+1+1,u0,u1)] :=
 .cons (((Bx.new w x0 x1 T1).alloc _).alloc _ |>.alloc _) (.cons (((second_box w _ y0 y1 T2 ()).alloc _).alloc _) (.cons (Bx.alloc ⟨T3,third_new _ _ _ _⟩ _) (.cons ⟨T4,fourth_new _ _ _ _ _⟩ (.nil _))))
def DivPost (P:Nat→Prop) (q r:Int) (w:World) (e:Ending) (w':World):Prop :=
 ∃ s1 p1 s2 p2,e = .returned (.tuple #[.agg #[.int .i64 s1,.pointer p1],.agg #[.int .i64 s2,.pointer p2]])∧IsInt P w' (.agg #[.int .i64 s1,.pointer p1]) q∧IsInt P w' (.agg #[.int .i64 s2,.pointer p2]) r∧Below w.heap.size w w'
theorem drew_cell (W:World) (g i:Nat):W.drew.cell? ⟨g,i,none⟩=W.cell? ⟨g,i,none⟩:=rfl
theorem four_in {P:Nat→Prop} {w w1:World} {v v' x0 x1 y0 y1:Value} {q r:Int} (h:IsInt (Bar 4 P w) w1 v q) (h':IsInt (Bar 4 P w) w1 v' r) (hb:Below w.heap.size w w1) :
 IsInt P ((((w1.setCell ⟨w.heap.size+1+1,0,none⟩ x0).setCell ⟨w.heap.size+1+1,1,none⟩ x1).setCell ⟨w.heap.size+1+1+1,0,none⟩ y0).setCell ⟨w.heap.size+1+1+1,1,none⟩ y1) v q ∧
 IsInt P ((((w1.setCell ⟨w.heap.size+1+1,0,none⟩ x0).setCell ⟨w.heap.size+1+1,1,none⟩ x1).setCell ⟨w.heap.size+1+1+1,0,none⟩ y0).setCell ⟨w.heap.size+1+1+1,1,none⟩ y1) v' r ∧
 Below w.heap.size w ((((w1.setCell ⟨w.heap.size+1+1,0,none⟩ x0).setCell ⟨w.heap.size+1+1,1,none⟩ x1).setCell ⟨w.heap.size+1+1+1,0,none⟩ y0).setCell ⟨w.heap.size+1+1+1,1,none⟩ y1):=by
 have hk:=pair_kept (Q:=Bar 4 P w) w1 (w.heap.size+1+1) x0 x1 y0 y1 (fun h=>by have:=h.2;omega) (fun h=>by have:=h.2;omega)
 exact ⟨(h.kept hk).mono (fun k _ h=>h.1),(h'.kept hk).mono (fun k _ h=>h.1),hb.trans ((pair_below _ _ _ _ _ _).mono (by omega))⟩
def Dv (a b q r:Int):Prop:=a=b*q+r∧r.natAbs<b.natAbs∧(r=0∨(r<0↔b<0))
def Tv (a b q r:Int):Prop:=a=b*q+r∧r.natAbs<b.natAbs∧(r=0∨(r<0↔a<0))
theorem tv_tdiv (a b:Int) (hb:b≠0):Tv a b (a.tdiv b) (a.tmod b):=by
 refine ⟨(Int.mul_tdiv_add_tmod a b).symm,?_⟩
 have h1:=Int.emod_nonneg a hb
 have h2:=Int.emod_lt a hb
 have h3:=Int.tmod_eq_emod (a:=a) (b:=b)
 by_cases h:0≤a∨b∣a
 · rw [if_pos h] at h3
   refine ⟨by omega,?_⟩
   rcases h with h | h
   · right;omega
   · left
     have:=Int.emod_eq_zero_of_dvd h
     omega
 · rw [if_neg h] at h3
   have h4:¬ b∣a:=fun h'=>h (.inr h')
   have h5:a%b≠0:=fun h'=>h4 (Int.dvd_of_emod_eq_zero h')
   have h6:¬ 0≤a:=fun h'=>h (.inl h')
   refine ⟨by omega,.inr ?_⟩
   omega
theorem Dv.unique {a b q r q' r':Int} (h:Dv a b q r) (h':Dv a b q' r'):q=q'∧r=r':=by
 obtain ⟨h1,h2,h3⟩:=h
 obtain ⟨h4,h5,h6⟩:=h'
 have e:b*(q-q')=r'-r:=by grind
 have hq:q=q':=by
  rcases Int.lt_trichotomy (q-q') 0 with hq | hq | hq
  · exfalso
    have:b.natAbs*1≤b.natAbs*(q-q').natAbs:=Nat.mul_le_mul_left _ (by omega)
    rw [← Int.natAbs_mul,e] at this
    omega
  · omega
  · exfalso
    have:b.natAbs*1≤b.natAbs*(q-q').natAbs:=Nat.mul_le_mul_left _ (by omega)
    rw [← Int.natAbs_mul,e] at this
    omega
 subst hq
 exact ⟨rfl,by simp at e;omega⟩
theorem Dv.size {a b q r:Int} (h:Dv a b q r):r.natAbs<b.natAbs:=h.2.1
theorem Tv.size {a b q r:Int} (h:Tv a b q r):q.natAbs≤a.natAbs:=by
 obtain ⟨h1,h2,h3⟩:=h
 rcases Nat.eq_zero_or_pos q.natAbs with hq | hq
 · omega
 · have h4:b.natAbs*q.natAbs=(b*q).natAbs:=(Int.natAbs_mul b q).symm
   have h5:q.natAbs+b.natAbs≤b.natAbs*q.natAbs+1:=by
    obtain ⟨x,hx⟩:∃ x,b.natAbs=x+1:=⟨b.natAbs-1,by omega⟩
    obtain ⟨y,hy⟩:∃ y,q.natAbs=y+1:=⟨q.natAbs-1,by omega⟩
    rw [hx,hy,Nat.add_mul,Nat.mul_add]
    omega
   have h6:b*q=a-r:=by omega
   have h8:b.natAbs*1≤b.natAbs*q.natAbs:=Nat.mul_le_mul_left _ hq
   rw [h6] at h4
   generalize b.natAbs*q.natAbs=M at *
   omega
theorem ds_le (m n k:Nat) (h:m≤n) (hn:(ds 1000000000 n).length≤k):(ds 1000000000 m).length≤k:=Nat.le_trans (ds_length_mono _ (by omega) _ _ h) hn
end Go.Proofs.YtkhdocdddicgpaaGreatDoor
set_option linter.unusedVariables false
set_option linter.unusedSimpArgs false
namespace Go.Proofs.YtkhdocdddicgpaaGreatDoor
open Go.RowKit _root_.Go.Proofs.YtkhdocdddicgpaaGreatDoor.Nm
theorem quo_small (a b:Int) (ha:a.natAbs<1000000000000000000) (hb:b.natAbs<1000000000000000000) (hb0:b≠0):(a.tdiv b).natAbs<1000000000000000000∧(a.tmod b).natAbs<1000000000000000000:=by
 have h:=tv_tdiv a b hb0
 have h1:=h.size
 have h2:=h.2.1
 omega
theorem IsInt.short {P:Nat→Prop} {w:World} {z:Int} (h:z.natAbs<1000000000000000000):IsInt P w (.agg #[.int .i64 z,.pointer none]) z := .inl ⟨h,rfl⟩
set_option maxRecDepth 100000 in
set_option maxHeartbeats 1600000 in
theorem divide_short (P:Nat→Prop) (a b:Int) (ha:a.natAbs<1000000000000000000) (hb:b.natAbs<1000000000000000000) (hb0:b≠0) (w:World) :
 Calls Tryz.prog 201 #[.agg #[.int .i64 a,.pointer none],.agg #[.int .i64 b,.pointer none]] w (DivPost P (a.tdiv b) (a.tmod b) w):=by
 have HS:=Lib.hid (quo_small a b ha hb hb0)
 have hq:IntKind.i64.wrap (a.tdiv b)=a.tdiv b:=IntWalk.i64_in _ (by have:=HS.out;omega)
 have hr:IntKind.i64.wrap (a.tmod b)=a.tmod b:=IntWalk.i64_in _ (by have:=HS.out;omega)
 have hbz:((b:Int)==0)=false:=by rw [beq_eq_false_iff_ne];exact hb0
 clear ha hb
 go_enter Tryz.func201,Tryz.ntmps201
 go_wp2_with fail
 go_region
 go_wp2
 refine bodyPost_ret (v := .tuple #[.agg #[.int .i64 (a.tdiv b),.pointer none],.agg #[.int .i64 (a.tmod b),.pointer none]]) (by simp [results,Tryz.results201,go_sem,drew_cell]) rfl ?_
 exact ⟨_,_,_,_,rfl,.short HS.out.1,.short HS.out.2,(boxes4 _ _ _ _ _).drew⟩
set_option maxRecDepth 100000 in
set_option maxHeartbeats 1600000 in
theorem words_any (a b:Nat) (ha:a<18446744073709551616) (hb:b<18446744073709551616) (w:World) :
 Calls Tryz.prog 156 #[.int .u64 a,.int .u64 b] w fun e w'=>e = .returned (.int .u64 (Nat.gcd a b:Nat))∧∃ n,w'=w.drewN n:=by
 have HA:=Lib.hid (And.intro ha hb)
 clear ha hb
 go_enter Tryz.func156,Tryz.ntmps156
 go_wp2
 go_loopw [0,1] (fun x y wr=>∃ m n k:Nat,x = .int .u64 m∧y = .int .u64 n∧Hid (Nat.gcd m n=Nat.gcd a b)∧wr=w.drewN k∧Hid (True∧m<18446744073709551616∧n<18446744073709551616)) (fun _ y _=>(intOf y).toNat)
 case atStart=>exact ⟨a,b,0,rfl,rfl,Lib.hid rfl,rfl,Lib.hid ⟨trivial,HA.out⟩⟩
 case round =>
  obtain ⟨m,n,k,rfl,rfl,HG,rfl,HB⟩:=hrel
  by_cases hn:0<n
  · have hz:((n:Int)==0)=false:=by rw [beq_eq_false_iff_ne];omega
    have hn':(0:Int)<n:=by omega
    have hr:IntKind.u64.wrap ((m:Int).tmod n)=((m%n:Nat):Int):=by
     rw [Int.tmod_eq_emod_of_nonneg (by omega), ← Int.natCast_emod]
     exact IntWalk.u64_in _ (by have:=HB.out.2.1;have:=Nat.mod_le m n;omega)
    have HG':Hid (Nat.gcd n (m%n)=Nat.gcd a b):=Lib.hid (by rw [← HG.out,Nat.gcd_comm m n,Nat.gcd_rec n m,Nat.gcd_comm])
    have HB':=Lib.hid (show True∧n<18446744073709551616∧m%n<18446744073709551616 from ⟨trivial,HB.out.2.2,by have:=HB.out.2.1;have:=Nat.mod_le m n;omega⟩)
    have hlt:=Nat.mod_lt m hn
    go_wp2_with fail
    go_region
    go_wp2
    go_roundw
    case rel=>exact ⟨n,m%n,k+1,rfl,rfl,HG',rfl,HB'⟩
    case measure=>simp [intOf];omega
  · have h0:n=0:=by omega
    subst h0
    have HG2:Hid (m=Nat.gcd a b):=Lib.hid (by rw [← HG.out,Nat.gcd_zero_right])
    go_wp2
    go_ret
    exact ⟨by rw [← HG2.out];rfl,k,rfl⟩
theorem St.of_eq {w W W':World} {x0 x1 y0 y1 z0 z1:Value} (h:St w W x0 x1 y0 y1 z0 z1) (e:W'=W):St w W' x0 x1 y0 y1 z0 z1:=by rw [e];exact h
theorem words_gcd (a b:Int) (m n:Nat) (h1:Hid (a.natAbs=m∧m<1000000000000000000)) (h2:Hid (b.natAbs=n∧n<1000000000000000000)):Nat.gcd m n=Int.gcd a b∧Nat.gcd m n<1000000000000000000:=by
 obtain ⟨rfl,h1⟩:=h1.out
 obtain ⟨rfl,h2⟩:=h2.out
 refine ⟨rfl,?_⟩
 rcases Nat.eq_zero_or_pos a.natAbs with h | h
 · rw [h,Nat.gcd_zero_left];exact h2
 · exact Nat.lt_of_le_of_lt (Nat.gcd_le_left _ h) h1
set_option maxRecDepth 100000 in
set_option maxHeartbeats 1600000 in
theorem CommonDivisor_short (P:Nat→Prop) (a b:Int) (ha:a.natAbs<1000000000000000000) (hb:b.natAbs<1000000000000000000) (w:World) :
 Calls Tryz.prog 125 #[.agg #[.int .i64 a,.pointer none],.agg #[.int .i64 b,.pointer none]] w (IntPost P (Int.gcd a b) w):=by
 obtain ⟨m,hm⟩:∃ n,a.natAbs=n:=⟨_,rfl⟩
 obtain ⟨n,hn⟩:∃ n,b.natAbs=n:=⟨_,rfl⟩
 have HS1:=Lib.hid (show a.natAbs=m∧m<1000000000000000000 from ⟨hm,by omega⟩)
 have HS2:=Lib.hid (show b.natAbs=n∧n<1000000000000000000 from ⟨hn,by omega⟩)
 have hg:=words_gcd a b m n HS1 HS2
 obtain ⟨g,hgg⟩:∃ g,Nat.gcd m n=g:=⟨_,rfl⟩
 have HG:=Lib.hid (And.intro hgg (And.intro hg.1 hg.2))
 have hwr:IntKind.i64.wrap (g:Int)=g:=IntWalk.i64_in _ (by omega)
 clear ha hb hm hn hg hgg
 have hS0:=St.start w (.int .i64 a) (.pointer none) (.int .i64 b) (.pointer none) (.int .i64 0) (.pointer none) 107 107 107
 obtain ⟨f0,f1,f2,f3,f4,f5,f6,f7⟩:=hS0.drew.cells
 go_enter Tryz.func125,Tryz.ntmps125
 go_wp2_with fail
 go_region_held3 (fun w'=>w'.cell? ⟨w.heap.size,0,none⟩=some (.int .i64 a)∧w'.cell? ⟨w.heap.size+1,0,none⟩=some (.int .i64 b)) (first | ((try dsimp only);(repeat' apply And.intro);all_goals (first | (rw [cell_set2 _ _ _ _ _ _ (by omega)];with_reducible assumption) | with_reducible assumption)) | go_keep) (first | (go_at_call 129;refine (mag_q _ _ _ (by first | exact HS1 | exact HS2)).mono ?_;rintro e w' ⟨rfl,rfl⟩) | (go_at_call 156;refine (words_any m n (abs_u64 HS1) (abs_u64 HS2) _).mono ?_;rintro e w5 ⟨rfl,k,hw5⟩;rw [HG.out.1];have hS2:=St.of_eq (hS0.drew.drewN k) hw5;clear hw5;obtain ⟨l0,l1,l2,l3,l4,l5,l6,l7⟩:=hS2.cells;clear f0 f1 f2 f3 f4 f5 f6 f7))
 go_wp2
 refine bodyPost_ret (v := .agg #[.int .i64 (g:Int),.pointer none]) (by simp [results,Tryz.results125,go_sem,l4,l5]) rfl ?_
 have ho:=hS2.1.trans ((((Only.refl (w.heap.size+1+1) _).set 0 (.int .i64 (g:Int))).set 1 (.pointer none)).below (by omega))
 rw [← HG.out.2.1,HG.out.1]
 exact ⟨_,rfl,.short (by have:=HG.out;omega),ho⟩
end Go.Proofs.YtkhdocdddicgpaaGreatDoor
set_option linter.unusedVariables false
set_option linter.unusedSimpArgs false
namespace Go.Proofs.YtkhdocdddicgpaaGreatDoor
open Go.RowKit _root_.Go.Proofs.YtkhdocdddicgpaaGreatDoor.Nm
theorem Ten.le {K:Nat} {a b:Int} (h:Ten K a) (hb:b.natAbs≤a.natAbs):Ten K b:=by
 obtain ⟨k,h1,h2⟩:=h
 exact ⟨k,h1,Nat.lt_of_le_of_lt hb h2⟩
theorem Dv.qsize {a b q r:Int} (h:Dv a b q r):q.natAbs≤a.natAbs:=by
 obtain ⟨h1,h2,h3⟩:=h
 rcases Nat.eq_zero_or_pos q.natAbs with hq | hq
 · omega
 · have h4:b.natAbs*q.natAbs=(b*q).natAbs:=(Int.natAbs_mul b q).symm
   have h5:q.natAbs+b.natAbs≤b.natAbs*q.natAbs+1:=by
    obtain ⟨x,hx⟩:∃ x,b.natAbs=x+1:=⟨b.natAbs-1,by omega⟩
    obtain ⟨y,hy⟩:∃ y,q.natAbs=y+1:=⟨q.natAbs-1,by omega⟩
    rw [hx,hy,Nat.add_mul,Nat.mul_add]
    omega
   have h6:b*q=a-r:=by omega
   rw [h6] at h4
   generalize b.natAbs*q.natAbs=M at *
   omega
def DivIs (a b:Int):Prop:=∀ (P:Nat→Prop) (x y:Value) (w:World),(∀ k,w.heap.size≤k→P k)→IsInt P w x a→IsInt P w y b→Calls Tryz.prog 201 #[x,y] w (DivPost P (a.tdiv b) (a.tmod b) w)
def GcdIs (a b:Int):Prop:=∀ (P:Nat→Prop) (x y:Value) (w:World),(∀ k,w.heap.size≤k→P k)→IsInt P w x a→IsInt P w y b→Calls Tryz.prog 125 #[x,y] w (IntPost P (Int.gcd a b) w)
end Go.Proofs.YtkhdocdddicgpaaGreatDoor
set_option linter.unusedVariables false
set_option linter.unusedSimpArgs false
namespace Go.Proofs.YtkhdocdddicgpaaGreatDoor
open Go.RowKit _root_.Go.Proofs.YtkhdocdddicgpaaGreatDoor.Nm
theorem Ten.canon {K:Nat} {z:Int} (h:Ten K z) (hK:K≤400):canon (Lib.itoa z)=true:=by
 obtain ⟨k,h1,h2⟩:=h
 rw [canon_itoa]
 simp only [decide_eq_true_eq]
 rw [← Lib.decDigits_length]
 by_cases h0:z.natAbs=0
 · rw [h0,show Lib.decDigits 0=[48] from by decide +kernel];simp
 · rw [dec_ds _ (by omega),List.length_map,List.length_reverse]
   exact Nat.le_trans (ds_length_le 10 (by omega) _ k h2) (by omega)
theorem Valid_to (s:ByteArray) (b:Bool) (h:Hid (canon s.data.toList=b)) (w:World) :
 Calls Tryz.prog 120 #[.string s] w fun e w'=>e = .returned (.bool b)∧w=w':=by
 have:=Valid_any s w
 rwa [h.out] at this
end Go.Proofs.YtkhdocdddicgpaaGreatDoor
set_option linter.unusedVariables false
set_option linter.unusedSimpArgs false
namespace Go.Proofs.YtkhdocdddicgpaaGreatDoor
open Go.RowKit _root_.Go.Proofs.YtkhdocdddicgpaaGreatDoor.Nm
theorem long_facts (a b n y:Nat) (hlb:(ds 1000000000 b).length=n+1) (hy:(ds 1000000000 b)[n]?=some y) (hge:b≤a) :
 0<y∧y<1000000000∧1000000000 ^ n≤b∧b*(1000000000/(y+1))<1000000000 ^ (n+1)∧0<b:=by
 have hl:=vl_split (ds 1000000000 b) n (by omega)
 have h1:(ds 1000000000 b).drop n=[y]:=by
  obtain ⟨h,h2⟩:=List.getElem?_eq_some_iff.1 hy
  rw [List.drop_eq_getElem_cons h,h2,List.drop_of_length_le (by omega)]
 rw [h1,vl_ds _ (by omega),show vl 1000000000 [y]=y from by simp [vl]] at hl
 have hlt:=vl_lt 1000000000 ((ds 1000000000 b).take n) (fun x hx=>ds_lt _ (by omega) b x (List.mem_of_mem_take hx))
 rw [List.length_take,Nat.min_eq_left (by omega)] at hlt
 have hy2:y<1000000000:=ds_lt _ (by omega) b y (List.mem_of_getElem? hy)
 have hy1:0<y:=by
  rcases Nat.eq_zero_or_pos y with h | h
  · exfalso
    subst h
    apply getLast_ne 1000000000 (by omega) b
    rw [List.getLast?_eq_getElem?,hlb,Nat.add_sub_cancel]
    exact hy
  · exact h
 have hp:1000000000 ^ n*1≤1000000000 ^ n*y:=Nat.mul_le_mul_left _ hy1
 obtain ⟨s1,s2⟩:=scale_fits y hy2
 generalize 1000000000/(y+1)=sc at *
 have h3:1000000000 ^ n*(sc*(y+1))≤1000000000 ^ n*1000000000:=Nat.mul_le_mul_left _ s2
 have h4:b*sc<(1000000000 ^ n*(y+1))*sc:=Nat.mul_lt_mul_of_pos_right (by rw [Nat.mul_add];omega) s1
 rw [Nat.pow_succ]
 have h5:(1000000000 ^ n*(y+1))*sc=1000000000 ^ n*(sc*(y+1)):=by rw [Nat.mul_assoc,Nat.mul_comm (y+1) sc]
 have h6:0<1000000000 ^ n:=Nat.pow_pos (by omega)
 generalize 1000000000 ^ n=P at *
 exact ⟨hy1,hy2,by omega,by omega,by omega⟩
theorem set_zero {w:World} {g p:Nat} {Q:List Nat} (h:Own .u32 199 w g (List.replicate (p+1) 0++Q)) (q:Nat):Own .u32 199 (w.setCell ⟨g,p,none⟩ (.int .u32 ((q:Nat):Int))) g (List.replicate p 0++(q::Q)):=by
 have h2:=h.set p q
 have e:(List.replicate (p+1) 0++Q).set p q=List.replicate p 0++(q::Q):=by
  rw [List.replicate_succ',List.append_assoc,List.set_append_right _ _ (by simp)]
  simp
 rwa [e] at h2
set_option maxRecDepth 100000 in
set_option maxHeartbeats 3200000 in
theorem divide_to (aa:Option Addr) (ca L:Nat) (gb ob cb a b n y:Nat) (w:World) (ha:IsNat w (.slice aa L ca) a) (hL:(ds 1000000000 a).length=L) (hb:IsNat w (.slice (some ⟨gb,ob,none⟩) (n+2) cb) b) (hgb:gb<w.heap.size) (hcy:w.cell? ⟨gb,ob+(n+1),none⟩=some (.int .u32 (y:Nat)))
 (hlb:(ds 1000000000 b).length=n+2) (hy:(ds 1000000000 b)[n+1]?=some y) (hge:b≤a) (la:L≤900) :
 Calls Tryz.prog 190 #[.slice aa L ca,.slice (some ⟨gb,ob,none⟩) (n+2) cb] w (QuoPost (a/b) (a%b) w):=by
 obtain ⟨hy1,hy2,hbp,hdl,hb0⟩:=long_facts a b (n+1) y hlb hy hge
 obtain ⟨sc1,sc2⟩:=scale_fits y hy2
 obtain ⟨sc,hsc⟩:∃ sc,1000000000/(y+1)=sc:=⟨_,rfl⟩
 rw [hsc] at hdl sc1 sc2
 have hscl:sc<1000000000:=by
  rcases Nat.lt_or_ge sc 1000000000 with h | h
  · exact h
  · have:1000000000*2≤sc*(y+1):=Nat.mul_le_mul h (by omega)
    omega
 have hsci:(1000000000:Int)/((y:Int)+1)=(sc:Int):=by rw [← hsc];simp
 have hab:=ds_length_mono 1000000000 (by omega) b a hge
 rw [hlb,hL] at hab
 obtain ⟨p0,hp0⟩:∃ p0,p0+(n+1)=L:=⟨L-(n+1),by omega⟩
 have hasc:a*sc<1000000000 ^ (L+1):=by
  have h1:=lt_pow_length 1000000000 (by omega) a
  rw [hL] at h1
  rw [Nat.pow_succ]
  exact Nat.mul_lt_mul'' h1 hscl
 have HX:=Lib.hid (ds_length_le 1000000000 (by omega) (a*sc) (L+1) hasc)
 have HAL:Hid (a<1000000000 ^ L):=Lib.hid (by have h1:=lt_pow_length 1000000000 (by omega) a;rwa [hL] at h1)
 have hd:=sgn_ge a b (by omega)
 obtain ⟨r,hr⟩:∃ r,sgn a b=r:=⟨_,rfl⟩
 rw [hr] at hd
 have HR:=Lib.hid hr
 have HA:=Lib.hid ha
 have HB:=Lib.hid hb
 have HSI:=Lib.hid (And.intro trivial hsci)
 have HDL:=Lib.hid hdl
 have HBP:=Lib.hid hbp
 have hlz:((n:Int)+2==1)=false:=by rw [beq_eq_false_iff_ne];omega
 have lb2:(ds 1000000000 b).length≤1000:=by rw [hlb];omega
 have la2:(ds 1000000000 a).length≤1000:=by rw [hL];omega
 have ls2:(ds 1000000000 sc).length≤1000:=by rw [ds_pos _ _ (by omega) (by omega),Nat.div_eq_of_lt hscl,ds_zero];simp
 have HSD:Hid (ds 1000000000 sc=[sc]):=Lib.hid (by rw [ds_pos _ _ (by omega) (by omega),Nat.div_eq_of_lt hscl,ds_zero,Nat.mod_eq_of_lt hscl])
 obtain ⟨i0,hi,hz0,hz1,hz2⟩:=info_parts info32
 have HZ2:=Lib.hid hz2
 have HI:=Lib.hid hi
 have HZ0:=Lib.hid hz0
 have HZ1:=Lib.hid hz1
 clear hi hz0 hz1 hz2 hasc hL
 clear ha hb hr hsci hsc hdl hbp hy hlb sc2
 go_enter Tryz.func190,Tryz.ntmps190
 go_wp2_with fail
 refine (compare_any _ _ a b _ HA.out HB.out).mono ?_
 rintro e w1 ⟨rfl,n1,hw⟩
 rw [HR.out]
 have HW:=Lib.hid (show Below w.heap.size w w1 from by rw [hw];exact ⟨rfl,rfl,rfl,Nat.le_refl _,fun _ _=>rfl⟩)
 have hc1:w1.cell? ⟨gb,ob+(n+1),none⟩=some (.int .u32 (y:Nat)):=(HW.out.cell (p:=⟨gb,ob+(n+1),none⟩) hgb).trans hcy
 clear hw hcy
 go_wp2_with fail
 rw [HSI.out.2]
 have HO1:=Lib.hid (own_one .u32 199 w1 sc)
 have HAL1:=Lib.hid ((Below.refl w1.heap.size w1).alloc (Nat.le_refl _) (.cells #[.int .u32 ((sc:Nat):Int)] 199))
 have HSN:Hid (IsNat (w1.alloc (.cells #[.int .u32 ((sc:Nat):Int)] 199)) (.slice (some ⟨w1.heap.size,0,none⟩) 1 1) sc):=Lib.hid (by
  unfold IsNat;rw [HSD.out];exact HO1.out.rd 1 1 (by simp) (by omega) (by omega))
 have hsc1:(w1.alloc (.cells #[.int .u32 ((sc:Nat):Int)] 199)).cell? ⟨w1.heap.size,0,none⟩=some (.int .u32 (sc:Nat)):=HO1.out.cell 0 (by simp)
 have HSC:=Lib.hid hsc1
 have HWA:=Lib.hid (HW.out.trans (HAL1.out.mono HW.out.size))
 clear hsc1 HO1 hc1
 refine (product_any _ _ b sc _ (HB.out.keep HWA.out (Nat.le_refl _)) HSN.out lb2 ls2).mono ?_
 rintro e w2 ⟨vd,rfl,hvd,hfd,hb2⟩
 obtain ⟨ad,md,cd,rfl⟩:=IsNat.slice hvd
 have HVD:=Lib.hid hvd
 have HFD:=Lib.hid hfd
 have HB2:=Lib.hid hb2
 have HW2:=Lib.hid (HWA.out.trans (hb2.mono HWA.out.size))
 clear hvd hfd hb2
 go_wp2_with fail
 refine (product_any _ _ a sc _ (HA.out.keep HW2.out (Nat.le_refl _)) (HSN.out.keep HB2.out (Nat.le_refl _)) la2 ls2).mono ?_
 rintro e w3 ⟨vp,rfl,hvp,hfp,hb3⟩
 have HVP:=Lib.hid hvp
 have HB3:=Lib.hid (HB2.out.trans (hb3.mono HB2.out.size))
 have HB23:=Lib.hid hb3
 have HW3:=Lib.hid (HW2.out.trans (hb3.mono HW2.out.size))
 clear hvp hfp hb3
 have hdlen:(ds 1000000000 (b*sc)).length=n+2:=by
  have h1:=ds_length_ge 1000000000 (by omega) (b*sc) (n+1) (Nat.le_trans HBP.out (Nat.le_mul_of_pos_right _ sc1))
  have h2:=ds_length_le 1000000000 (by omega) (b*sc) (n+1+1) HDL.out
  omega
 have hdtop:0<(ds 1000000000 (b*sc))[n+1]'(by omega):=by
  rcases Nat.eq_zero_or_pos ((ds 1000000000 (b*sc))[n+1]'(by omega)) with h | h
  · exfalso
    apply getLast_ne 1000000000 (by omega) (b*sc)
    rw [List.getLast?_eq_getElem?,hdlen,show n+2-1=n+1 from by omega,List.getElem?_eq_getElem (by omega),h]
  · exact h
 have HDT:Hid (True∧∀ h:n+1<(ds 1000000000 (b*sc)).length,0<(ds 1000000000 (b*sc))[n+1]):=Lib.hid ⟨trivial,fun h=>hdtop⟩
 have HDLN:=Lib.hid hdlen
 have hD0:0<b*sc:=Nat.mul_pos hb0 sc1
 have hrd:∃ gd od,ad=some ⟨gd,od,none⟩∧md=n+2∧n+2≤cd∧Cap (n+2) cd∧gd<w2.heap.size∧Row .u32 w2 gd od (ds 1000000000 (b*sc)):=by
  rcases Rd.cases HVD.out with ⟨h0,_⟩ | ⟨_,g',off,c',e,k1,k2,k3,k4⟩
  · rw [h0] at hdlen;simp at hdlen
  · simp only [Value.slice.injEq] at e
    obtain ⟨rfl,rfl,rfl⟩:=e
    rw [hdlen] at k1 k2
    exact ⟨g',off,rfl,hdlen,k1,k2,k3,k4⟩
 obtain ⟨gd,od,rfl,rfl,hcd1,hcd2,hgd,hrow⟩:=hrd
 have HROW:=Lib.hid hrow
 have HCD:=Lib.hid hcd2
 have HPI:=Lib.hid (show (L:Int)-((n:Int)+2)+1=(p0:Int) by omega)
 clear hrow hcd2 hdlen hdtop
 go_wp2_with fail
 rw [show (L:Int)+1=((L+1:Nat):Int) from by omega]
 refine (extended_any vp (ds 1000000000 (a*sc)) (L+1) (L+1) (by omega) (by have:=HX.out;omega) _ HVP.out).mono ?_
 rintro e w4 ⟨gr,hgr,rfl,hO4,hb4⟩
 have HO4:=Lib.hid hO4
 have HW4:=Lib.hid hb4
 clear hO4 hb4
 go_wp2_with (rw [HPI.out];refine wpList_make_full _ rfl (.tmp 59) (.tmp 59) 176 rfl w4.heap.size 199 i0 (.int .u32 0) 1 Tryz.underlying176 HI.out HZ0.out HZ1.out .i64 .i64 _ _ p0 rfl rfl (by rfl) (by rfl) (by rw [HZ2.out];omega) (by unfold maxLen;omega) (Nat.le_refl _) ?_;intro w5 hown hgrow;refine hold ?_)
 rw [made_zeros] at hown
 obtain ⟨hOq,_⟩:=own_of_full (by simp) hown
 have hgrlt:gr<w4.heap.size:=HO4.out.lt
 have hb5:=(Below.refl w4.heap.size w4).grown hgrow (Nat.le_refl _) (fun k hk=>by simp at hk)
 have HOR:=Lib.hid (HO4.out.of_below hb5 hgrlt)
 have HOQ:=Lib.hid hOq
 have HW5:=Lib.hid (HW4.out.trans (hb5.mono HW4.out.size))
 have hw43:=HW4.out.size
 have hwl:(ds 1000000000 (a*sc)++List.replicate (L+1-(ds 1000000000 (a*sc)).length) 0).length=L+1:=by
  rw [List.length_append,List.length_replicate];have:=HX.out;omega
 have HLI:=Lib.hid (LongInv.start a sc b L (n+1) p0 _ HAL.out HBP.out hp0 sc1 hwl (zeros_lt _ _ (ds_lt _ (by omega) _)) (by rw [vl_zeros_app,vl_ds _ (by omega)]))
 have hgrq:gr≠w4.heap.size:=by omega
 have hp1:p0+(n+2)+1≤L+1+1:=by omega
 clear hown hgrow hOq hb5 hwl HO4 HVP
 refine go_on ?_
 go_wp2
 go_loopw [63] (fun j wr=>∃ (k:Nat) (Rl Q:List Nat),k≤p0∧j = .int .i64 k∧Hid (Q.length=k)∧Hid (LongInv (a*sc) (b*sc) L (p0-k) Rl Q)∧Hid (Own .u32 199 wr w4.heap.size (List.replicate (p0-k) 0++Q))∧Hid (Own .u32 199 wr gr Rl)∧Hid (Below w3.heap.size w3 wr)) (fun j _=>p0-(intOf j).toNat)
 case atStart=>exact ⟨0,_,[],by omega,rfl,Lib.hid rfl,HLI,Lib.hid (by rw [Nat.sub_zero,List.append_nil];exact HOQ.out),HOR,HW5⟩
 case round =>
  obtain ⟨k,Rl,Q,hk,rfl,HQL,HI1,HOQ1,HOR1,HBW⟩:=hrel
  by_cases hlt:k<p0
  · have hlt':(k:Int)<p0:=by omega
    obtain ⟨p,hp⟩:∃ p,p0-k=p+1:=⟨p0-k-1,by omega⟩
    have hp2:p0-(k+1)=p:=by omega
    have hpi:(p0:Int)-1-k=p:=by omega
    have hpp:p<p0:=by omega
    have HP2:=Lib.hid hp2
    rw [hp] at HI1 HOQ1
    have hDle:b*sc≤1000000000 ^ (n+2):=Nat.le_of_lt HDL.out
    have hw:=HI1.out.window hDle (by omega)
    have hst:=fun R' h1 h2 h3=>HI1.out.step (R':=R') hD0 hDle (by omega) h1 h2 h3
    have hdl1:n+1<(ds 1000000000 (b*sc)).length:=by rw [HDLN.out];omega
    have hgdr:gd≠gr:=by have:=HB23.out.size;omega
    have hcall:=reduce_to gr (L+1-p) (n+2) (n+1) gd od cd (Rl.take p) ((Rl.drop p).take (n+2+1)) (Rl.drop (p+(n+2)+1)) (ds 1000000000 (b*sc)) wr rfl hw.2.2.1 HDLN.out (by omega) (by rw [hw.2.1,hw.2.2.1];omega)
     (fun x hx=>HI1.out.lt x (List.mem_of_mem_drop (List.mem_of_mem_take hx))) (ds_lt _ (by omega) _) (by rw [vl_ds _ (by omega)];exact hw.2.2.2.2) (HDT.out.2 hdl1) (by rw [← hw.1];exact HOR1.out)
     (HROW.out.keep (HB23.out.trans (HBW.out.mono HB23.out.size)) hgd) (Nat.lt_of_lt_of_le hgd (Nat.le_trans HB23.out.size HBW.out.size)) hgdr (by omega) hcd1 HCD.out
    rw [hw.2.1] at hcall
    have HRL:=Lib.hid hw.2.2.1
    have HCALL:=Lib.hid hcall
    have HST:=Lib.hid hst
    clear hcall hst hw hp hp2 hdl1
    have hpl:p+(n+2)+1-p=n+2+1:=by omega
    go_wp2_with fail
    rw [hpl]
    refine HCALL.out.mono ?_
    rintro e w6 ⟨R',rfl,h1,h2,h3,h4,h5⟩
    have hVD:vl 1000000000 (ds 1000000000 (b*sc))=b*sc:=vl_ds _ (by omega) _
    rw [hVD] at h3 ⊢
    obtain ⟨hli,hql⟩:=HST.out R' (h1.trans HRL.out) h2 h3
    obtain ⟨q,hq⟩:∃ q,vl 1000000000 ((Rl.drop p).take (n+2+1))/(b*sc)=q:=⟨_,rfl⟩
    rw [hq] at hli hql ⊢
    have hOq6:=HOQ1.out.of_only h5 (Ne.symm hgrq)
    obtain ⟨z6,hcc⟩:∃ z,w6.cell? ⟨w4.heap.size,p,none⟩=some z:=⟨_,hOq6.cell p (by simp;omega)⟩
    have hff:w6.frozen? ⟨w4.heap.size,p,none⟩=false:=hOq6.free _
    have HLI2:=Lib.hid hli
    have HOQ2:=Lib.hid (set_zero hOq6 q)
    have HOR2:=Lib.hid (h4.of_only ((Only.refl w4.heap.size w6).set p (.int .u32 ((q:Nat):Int))) hgrq)
    have HBW2:=Lib.hid (HBW.out.trans ((h5.below hgr).trans (((Only.refl w4.heap.size w6).set p (.int .u32 ((q:Nat):Int))).below hw43)))
    clear hVD hq hpl h1 h2 h3 h4 h5 hli hOq6 HCALL HST
    go_wp2
    go_roundw
    case rel=>exact ⟨k+1,_,q::Q,by omega,by go_num,Lib.hid (by rw [List.length_cons,HQL.out]),Lib.hid (by rw [HP2.out];exact HLI2.out),Lib.hid (by rw [HP2.out];exact HOQ2.out),HOR2,HBW2⟩
    case measure=>simp [intOf];omega
  · have hke:k=p0:=by omega
    have HLI2:=Lib.hid (show LongInv (a*sc) (b*sc) L 0 Rl Q by have:=HI1.out;rwa [hke,Nat.sub_self] at this)
    have HDN:=Lib.hid (HLI2.out.done sc1 hb0)
    have HOQ2:Hid (Own .u32 199 wr w4.heap.size Q):=Lib.hid (by have:=HOQ1.out;rwa [hke,Nat.sub_self,List.replicate_zero,List.nil_append] at this)
    have hge':¬ (k:Int)<p0:=by omega
    have HRR:Hid (Rd .u32 wr (.slice (some ⟨gr,0,none⟩) Rl.length (L+1)) Rl):=Lib.hid (by
     have h2:=HOR1.out.rd (L+1) (L+1) (Nat.le_of_eq HLI2.out.len.symm) (by omega) (by omega)
     rw [List.take_of_length_le (Nat.le_of_eq HLI2.out.len)] at h2
     rw [HLI2.out.len];exact h2)
    have HRQ:Hid (Rd .u32 wr (.slice (some ⟨w4.heap.size,0,none⟩) p0 p0) Q):=Lib.hid (by
     have h2:=HOQ2.out.rd p0 p0 (by rw [HQL.out];omega) (by omega) (by omega)
     rwa [List.take_of_length_le (by rw [HQL.out];omega)] at h2)
    have hscw:wr.cell? ⟨w1.heap.size,0,none⟩=some (.int .u32 (sc:Nat)):=((HB3.out.trans (HBW.out.mono HB3.out.size)).cell (p:=⟨w1.heap.size,0,none⟩) (by simp)).trans HSC.out
    have HWR:=Lib.hid (HW3.out.trans (HBW.out.mono HW3.out.size))
    have HLEN:=Lib.hid HLI2.out.len
    clear hke
    go_wp2_with fail
    have hcall:=divideByLimb_to (some ⟨gr,0,none⟩) (L+1) Rl sc wr HRR.out HLI2.out.lt (by rw [HLEN.out];omega) sc1 hscl
    rw [HLEN.out] at hcall
    refine hcall.mono ?_
    clear hcall
    rintro e w6 ⟨v,rfl,hv,hf,hb6⟩
    rw [HDN.out.2] at hv
    have HV:=Lib.hid hv
    have HF:=Lib.hid (hf.mono HWR.out.size)
    have HW6:=Lib.hid (HWR.out.trans (hb6.mono HWR.out.size))
    have HRQ6:=Lib.hid (HRQ.out.keep hb6 (Nat.le_refl _))
    clear hv hf hb6 hscw
    go_wp2_with fail
    refine (trim_any _ Q HLI2.out.qlt _ HRQ6.out).mono ?_
    rintro e w7 ⟨⟨v',rfl,hv,hsm⟩,rfl⟩
    rw [HDN.out.1] at hv
    have HV7:=Lib.hid hv
    have HF7:=Lib.hid (Fr.of_same hsm (show w.heap.size≤w4.heap.size from Nat.le_trans HW3.out.size hw43))
    clear hv hsm
    go_wp2
    go_ret2
    exact ⟨_,_,rfl,HV7.out,HF7.out,HV.out,HF.out,HW6.out⟩
theorem divide_nat (va vb:Value) (a b:Nat) (w:World) (ha:IsNat w va a) (hb:IsNat w vb b) (hb0:0<b) (la:(ds 1000000000 a).length≤900) :
 Calls Tryz.prog 190 #[va,vb] w (QuoPost (a/b) (a%b) w):=by
 by_cases hlt:a<b
 · rw [Nat.div_eq_of_lt hlt,Nat.mod_eq_of_lt hlt]
   exact divide_less va vb a b w ha hb hlt
 · have hge:b≤a:=by omega
   rcases Rd.cases hb with ⟨h0,_⟩ | ⟨hpos,g,off,c,rfl,hxc,hc,hg,hr⟩
   · have:=(ds_eq_nil _ (by omega) b).1 h0
     omega
   · by_cases h1:(ds 1000000000 b).length=1
     · have hbl:b<1000000000:=by
        have:=lt_pow_length 1000000000 (by omega) b
        rwa [h1,Nat.pow_one] at this
       have hds:ds 1000000000 b=[b]:=by rw [ds_pos _ _ (by omega) hb0,Nat.div_eq_of_lt hbl,ds_zero,Nat.mod_eq_of_lt hbl]
       have hc0:=hr 0 (by omega)
       rw [h1] at hb ⊢
       rw [Nat.add_zero] at hc0
       simp only [hds,List.getElem_cons_zero] at hc0
       exact divide_one va g off c a b w ha hb hg hc0 hge hb0 hbl (by omega)
     · obtain ⟨n,hn⟩:∃ n,(ds 1000000000 b).length=n+2:=⟨(ds 1000000000 b).length-2,by omega⟩
       obtain ⟨aa,ca,rfl,_⟩:=id ha
       have hc0:=hr (n+1) (by omega)
       rw [hn] at hb ⊢
       exact divide_to aa ca _ g off c a b n _ w ha rfl hb hg hc0 hn (List.getElem?_eq_getElem (by omega)) hge la
end Go.Proofs.YtkhdocdddicgpaaGreatDoor
