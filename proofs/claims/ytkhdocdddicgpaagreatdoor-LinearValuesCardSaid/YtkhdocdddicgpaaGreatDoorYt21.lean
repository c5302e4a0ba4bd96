/- Part 21: what the law's walk leans on. -/
import Derived.Test.YtkhdocdddicgpaaGreatDoorYt20
import Derived.Laws.EntriesVeiled
import Derived.Test.YtkhdocdddicgpaaGreatDoorYt18
import Derived.Test.YtkhdocdddicgpaaGreatDoorYt19
set_option linter.unusedVariables false
set_option linter.unusedSimpArgs false
namespace Go.Proofs.YtkhdocdddicgpaaGreatDoor
open Go.RowKit Go.Maps Go.Shelf _root_.Go.Proofs.YtkhdocdddicgpaaGreatDoor.Nm
attribute [local go_sem] Oper.semAt_some
set_option maxRecDepth 100000 in
set_option maxHeartbeats 6400000 in
theorem fread_any (s:ByteArray) (w:World) (hs:s.size≤70000) (he:Ers w) :
 Calls Tryz.prog 66 #[.string s] w fun e w'=>(∃ ad n cap,e = .returned (.agg #[.slice ad n cap,.string (readF s.data.toList).1])∧TsAt w' (.slice ad n cap) (readF s.data.toList).2∧(ad=none→cap=0)∧∀ a,ad=some a→w.heap.size≤a.block)∧Below w.heap.size w w':=by
 obtain ⟨M,hM⟩:∃ M:ByteArray,M=⟨(magT s.data.toList).toArray⟩:=⟨_,rfl⟩
 obtain ⟨b,hb⟩:∃ b,negT s.data.toList=b:=⟨_,rfl⟩
 have HM:=Lib.hid hM
 have HB:=Lib.hid hb
 have hMl:M.data.toList=magT s.data.toList:=by rw [hM]
 have hMs:M.size≤70000:=by
  have h:=magT_length s.data.toList
  rw [Lib.size_eq,hMl];rw [Lib.size_eq] at hs;omega
 have HE:=Lib.hid he
 have HMS:=Lib.hid (And.intro hMl hMs)
 clear hM hb hMl hMs he hs
 have hx:=Bo.new ((((w.alloc (.cells #[.slice none 0 0,.string ⟨#[]⟩] 24)).alloc (.cells #[.slice none 0 0,.string ⟨#[48]⟩] 24)).alloc (.cells #[.bool b] 4)).alloc (.cells #[.string ⟨#[]⟩] 9)) .nilFunc 143
 simp only [World.size_alloc] at hx
 obtain ⟨x0,x1⟩:=hx.cell
 clear hx
 refine (callsIn_wide (n:=3)).1 ?_
 refine callsIn_of_wp_marks Tryz.func66 rfl trivial ?_ rfl
 simp only [Tryz.ntmps66,List.size_toArray,List.length_cons,List.length_nil,Nat.reduceAdd,Nat.reduceSub,Array.replicate_succ,Array.replicate_zero,List.push_toArray,List.append_toArray,List.nil_append,List.cons_append]
 gi_wp2_with (first | (refine ⟨trivial,?_⟩;gi_at_call 103;refine (callsIn_wide.2 (splitSeq_any M _)).mono ?_;rintro e w' ⟨rfl,rfl⟩) | (refine ⟨trivial,?_⟩;gi_at_call 94;refine (callsIn_wide.2 (cutMinus_any s M b _ HM HB)).mono ?_;rintro e w' ⟨rfl,rfl⟩))
 have HM5:Hid (M.size≤100000):=Lib.hid (by have:=HMS.out.2;omega)
 refine' range_words (w.heap.size+5) M rfl ?hD ?hb0 ?hb1 ?hb2 HM5.out rfl (fun pre W=>∃ v,Rdm w W (rdAll (rdStart s.data.toList) pre) v) ?hI ?h0 _ ?hassign ?hbody ?hdone
 case hassign =>
  intro l x W K hK
  gi_wp2
  exact hK
 case hD=>simp
 case hb0=>exact (read_start w M b _ rfl).2.1
 case hb1=>exact (read_start w M b _ rfl).2.2.1
 case hb2=>exact (read_start w M b _ rfl).2.2.2
 case hI =>
  rintro pre W W' row ⟨v,hv⟩ hg hr
  exact ⟨v,hv.loop hg hr⟩
 case h0 =>
  have e:rdStart s.data.toList=⟨b,⟨#[]⟩,[]⟩:=by unfold rdStart;rw [HB.out]
  refine ⟨.slice none 0 0,?_⟩
  show Rdm w _ (rdStart s.data.toList) _
  rw [e]
  exact (read_start w M b _ rfl).1
 case hbody =>
  rintro l pre x W hx ⟨rest,hpre⟩ hW ⟨v,hR⟩
  obtain ⟨st,hst⟩:∃ st,rdAll (rdStart s.data.toList) pre=st:=⟨_,rfl⟩
  rw [hst] at hR
  have HS:Hid (∀ W' v',Rdm w W' (rdStep st x.data.toList) v'→∃ v,Rdm w W' (rdAll (rdStart s.data.toList) (pre++[x.data.toList])) v):=Lib.hid (fun W' v' h=>⟨v',by rw [rdAll_snoc,hst];exact h⟩)
  have hword:∀ y∈pre,y.length≤70000:=fun y hy=>by
   have h1:=splitW_mem M.data.toList y (by rw [← hpre];simp [hy])
   have h2:=HMS.out.2
   rw [Lib.size_eq] at h2;omega
  have hsz:st.size.size≤70000:=by rw [← hst];exact rd_size 70000 pre _ (Nat.zero_le _) hword
  have htn:st.terms.length≤70001:=by
   have h1:=rd_terms pre (rdStart s.data.toList)
   have h2:=splitW_length M.data.toList
   have h3:=HMS.out.2
   rw [Lib.size_eq] at h3
   rw [← hpre,List.length_append,List.length_append] at h2
   rw [hst] at h1
   have h4:(rdStart s.data.toList).terms.length=0:=rfl
   omega
  have hxs:x.size≤100000:=by have:=HM5.out;omega
  have HR:=Lib.hid hR
  have HW:=Lib.hid hW
  have HB:=Lib.hid (And.intro hsz htn)
  clear hst hword hsz htn hpre hx hR hW
  obtain ⟨sz,hsz⟩:∃ z,st.size=z:=⟨_,rfl⟩
  obtain ⟨ng,hng⟩:∃ z,st.neg=z:=⟨_,rfl⟩
  have HSN:=Lib.hid (And.intro hsz hng)
  clear hsz hng
  by_cases hp:x.data.toList=[43]
  · have t1:(x.toList==[43])=true:=by rw [Lib.toList_data,hp];rfl
    have t2:(x.toList==[45])=false:=by rw [Lib.toList_data,hp];rfl
    have HP:Hid (rdStep st x.data.toList=⟨false,st.size,st.terms⟩):=Lib.hid (by unfold rdStep;rw [if_pos (.inl hp),hp];rfl)
    obtain ⟨c2,f2⟩:W.cell? ⟨w.heap.size+1+1,0,none⟩=some (.bool st.neg)∧W.frozen? ⟨w.heap.size+1+1,0,none⟩=false:=HR.out.b2.cell
    clear hp
    gi_wp2
    exact ⟨keeps_set W _ _ 0 _ (by omega),HS.out _ _ (by rw [HP.out];exact HR.out.setNeg false)⟩
  · by_cases hm:x.data.toList=[45]
    · have t1:(x.toList==[43])=false:=by rw [Lib.toList_data,hm];rfl
      have t2:(x.toList==[45])=true:=by rw [Lib.toList_data,hm];rfl
      have HP:Hid (rdStep st x.data.toList=⟨true,st.size,st.terms⟩):=Lib.hid (by unfold rdStep;rw [if_pos (.inr hm),hm];rfl)
      obtain ⟨c2,f2⟩:W.cell? ⟨w.heap.size+1+1,0,none⟩=some (.bool st.neg)∧W.frozen? ⟨w.heap.size+1+1,0,none⟩=false:=HR.out.b2.cell
      clear hp hm
      gi_wp2
      exact ⟨keeps_set W _ _ 0 _ (by omega),HS.out _ _ (by rw [HP.out];exact HR.out.setNeg true)⟩
    · have t1:(x.toList==[43])=false:=by rw [Lib.toList_data];simpa using hp
      have t2:(x.toList==[45])=false:=by rw [Lib.toList_data];simpa using hm
      cases hh:Lib.hasPrefix x.data.toList [120] with
      | false =>
       have HH:=Lib.hid hh
       have HP:Hid (rdStep st x.data.toList=⟨st.neg,x,st.terms⟩):=Lib.hid (by unfold rdStep;rw [if_neg (fun h=>h.elim hp hm),if_neg (by rw [hh];simp)])
       obtain ⟨c2,f2⟩:W.cell? ⟨w.heap.size+1+1+1,0,none⟩=some (.string st.size)∧W.frozen? ⟨w.heap.size+1+1+1,0,none⟩=false:=HR.out.b3.cell
       clear hp hm hh
       gi_wp2_with (first | (refine ⟨trivial,?_⟩;gi_at_call 104;refine (CallsIn.inRound l (callsIn_wide.2 (hasX_any x false _ HH hxs))).mono ?_;rintro e w' ⟨rfl,rfl⟩))
       exact ⟨keeps_set _ (w.heap.size+5) (w.heap.size+1+1+1) 0 _ (by omega),HS.out _ _ (by rw [HP.out];exact HR.out.setSize x)⟩
      | true =>
       have HH:=Lib.hid hh
       have hpos:0<x.size:=by
        rcases Nat.eq_zero_or_pos x.size with h0 | h0
        · rw [show x.data.toList=[] from List.eq_nil_of_length_eq_zero (by rw [← Lib.size_eq];exact h0)] at hh;cases hh
        · exact h0
       obtain ⟨y,hy⟩:∃ y,x.extract 1 x.size=y:=⟨_,rfl⟩
       have hyl:y.data.toList=x.data.toList.drop 1:=by
        rw [← hy,ByteArray.data_extract,Array.toList_extract,Lib.size_eq,List.extract_eq_take_drop,List.take_of_length_le (by simp)]
       have hys:y.size≤100000:=by
        rw [Lib.size_eq,hyl,List.length_drop, ← Lib.size_eq];omega
       obtain ⟨c,hc⟩:∃ c,atoiV y.data.toList=c:=⟨_,rfl⟩
       have HC:=Lib.hid hc
       obtain ⟨o,ho⟩:∃ o,orT sz ⟨#[49]⟩=o:=⟨_,rfl⟩
       have HO:=Lib.hid ho
       obtain ⟨z,hz⟩:∃ z,numT ng o=z:=⟨_,rfl⟩
       have HZ:=Lib.hid hz
       have HP:Hid (rdStep st x.data.toList=⟨st.neg,⟨#[]⟩,st.terms++[(c,z)]⟩):=Lib.hid (by
        unfold rdStep
        rw [if_neg (fun h=>h.elim hp hm),if_pos hh, ← hyl,hc,HSN.out.1,HSN.out.2,ho,hz])
       have h1:(1:Int)≤x.size:=by omega
       have HER:=Lib.hid (HE.out.keep HR.out.below (Nat.le_refl _))
       clear hp hm hh hyl hc ho hz
       gi_wp2_with (first | (refine ⟨trivial,?_⟩;gi_at_call 104;refine (CallsIn.inRound l (callsIn_wide.2 (hasX_any x true _ HH hxs))).mono ?_;rintro e w' ⟨rfl,rfl⟩) | (refine ⟨trivial,?_⟩;gi_at_call 105;refine (CallsIn.inRound l (callsIn_wide.2 (atoi_any y c _ HC hys HER.out))).mono ?_;rintro e W1 ⟨⟨er,rfl⟩,hb1⟩))
       have HW1:=Lib.hid hb1
       have HR1:=Lib.hid (HR.out.keep hb1)
       obtain ⟨clo,hclo⟩:∃ clo:Value,clo = .func (.func 102) #[] #[.pointer (some ⟨w.heap.size+1+1,0,none⟩)]:=⟨_,rfl⟩
       have c1:W1.drew.cell? ⟨w.heap.size+1,0,none⟩=some v:=HR1.out.b1.cell.1
       have c3:W1.drew.cell? ⟨w.heap.size+1+1+1,0,none⟩=some (.string sz):=by rw [← HSN.out.1];exact HR1.out.b3.cell.1
       have c4:W1.drew.cell? ⟨w.heap.size+1+1+1+1,0,none⟩=some clo:=by rw [hclo];exact HR1.out.b4.cell.1
       refine region_roundX (S:=fun W'=>W'.cell? ⟨w.heap.size+1,0,none⟩=some v∧W'.cell? ⟨w.heap.size+1+1+1,0,none⟩=some (.string sz)∧W'.cell? ⟨w.heap.size+1+1+1+1,0,none⟩=some clo) (m:=12) (by kernel_rfl) (by kernel_rfl) (fun h=>by obtain ⟨_,_,h⟩:=h;exact h) ?_
       refine x_take (i:=0) (v := .pointer (some ⟨w.heap.size+1,0,none⟩)) rfl rfl (by kernel_rfl) (by kernel_rfl) (by kernel_rfl) (by kernel_rfl) (fun _ _ _ h=>h) (.inl ⟨by rfl,?_⟩) ⟨c1,c3,c4⟩ ?_
       · intro w hSw;(try dsimp only at hSw);go_simp
       simp only [Act.put,List.setIfInBounds_toArray,List.set_cons_zero,List.set_cons_succ]
       refine x_take (i:=1) (v:=v) rfl rfl (by kernel_rfl) (by kernel_rfl) (by kernel_rfl) (by kernel_rfl) (fun _ _ _ h=>h) (.inl ⟨by rfl,?_⟩) ⟨c1,c3,c4⟩ ?_
       · intro w hSw;(try dsimp only at hSw);go_simp
       simp only [Act.put,List.setIfInBounds_toArray,List.set_cons_zero,List.set_cons_succ]
       refine x_take (i:=2) (v := .int .i64 c) rfl rfl (by kernel_rfl) (by kernel_rfl) (by kernel_rfl) (by kernel_rfl) (fun _ _ _ h=>h) (.inl ⟨by rfl,?_⟩) ⟨c1,c3,c4⟩ ?_
       · intro w hSw;(try dsimp only at hSw);go_simp
       simp only [Act.put,List.setIfInBounds_toArray,List.set_cons_zero,List.set_cons_succ]
       refine x_take (i:=3) (v:=clo) rfl rfl (by kernel_rfl) (by kernel_rfl) (by kernel_rfl) (by kernel_rfl) (fun _ _ _ h=>h) (.inl ⟨by rfl,?_⟩) ⟨c1,c3,c4⟩ ?_
       · intro w hSw;(try dsimp only at hSw);go_simp
       simp only [Act.put,List.setIfInBounds_toArray,List.set_cons_zero,List.set_cons_succ]
       refine x_take (i:=4) (v := .string sz) rfl rfl (by kernel_rfl) (by kernel_rfl) (by kernel_rfl) (by kernel_rfl) (fun _ _ _ h=>h) (.inl ⟨by rfl,?_⟩) ⟨c1,c3,c4⟩ ?_
       · intro w hSw;(try dsimp only at hSw);go_simp
       simp only [Act.put,List.setIfInBounds_toArray,List.set_cons_zero,List.set_cons_succ]
       refine x_one (i:=5) (by kernel_rfl) rfl (fun K' hK' => ?_)
       go_simp
       have hA:Below W1.heap.size W1 (W1.alloc (.cells #[.string sz,.string ⟨#[49]⟩] 9)).drew:=((Below.refl _ W1).alloc (Nat.le_refl _) _).drew
       have HRA:=Lib.hid (HR1.out.keep hA)
       have hn:=(show Bx (W1.alloc (.cells #[.string sz,.string ⟨#[49]⟩] 9)).drew W1.heap.size (.string sz) (.string ⟨#[49]⟩) from Bx.new W1 (.string sz) (.string ⟨#[49]⟩) 9).cell
       have hos:o.size≤100000:=by rw [← HO.out];exact orT_size (by have:=HB.out.1;rw [HSN.out.1] at this;omega) (by decide)
       refine hK'.out _ _ (fun _=>HRA.out.three HSN.out.1 hclo) ?_
       clear hK' K' c1 c3 c4
       refine x_one (i:=6) (by kernel_rfl) rfl (fun K' hK' => ?_)
       go_simp
       refine (or_any W1.heap.size sz ⟨#[49]⟩ o _ hn.1 hn.2.1 (by decide) HO).mono ?_
       rintro e w' ⟨rfl,rfl⟩
       dsimp only
       refine hK'.out _ _ (fun _=>HRA.out.three HSN.out.1 hclo) ?_
       clear hK' K' hn
       refine x_one (i:=7) (by kernel_rfl) rfl (fun K' hK' => ?_)
       go_simp
       refine (read1_any (w.heap.size+1+1) ng o z _ (by rw [← HSN.out.2];exact HRA.out.b2.cell.1) hos HZ).mono ?_
       rintro e w' ⟨rfl,rfl⟩
       dsimp only
       refine hK'.out _ _ (fun _=>HRA.out.three HSN.out.1 hclo) ?_
       clear hK' K'
       refine x_one (i:=8) (by kernel_rfl) rfl (fun K' hK' => ?_)
       go_simp
       refine hK'.out _ _ (fun _=>HRA.out.three HSN.out.1 hclo) ?_
       clear hK' K'
       refine x_one (i:=9) (by kernel_rfl) rfl (fun K' hK' => ?_)
       go_simp
       have hB:Below W1.heap.size W1 ((W1.alloc (.cells #[.string sz,.string ⟨#[49]⟩] 9)).alloc (.cells #[.int .i64 c,.string z] 68)).drew:=(((Below.refl _ W1).alloc (Nat.le_refl _) _).alloc (by simp) _).drew
       have HRB:=Lib.hid (HR1.out.keep hB)
       have hnw:=two_new (W1.alloc (.cells #[.string sz,.string ⟨#[49]⟩] 9)) (.int .i64 c) (.string z) 68
       simp only [World.size_alloc] at hnw
       obtain ⟨i0,hi,hz0,hz1,hz2⟩:=info_parts infoTm
       have hWs:w.heap.size+5+5≤W1.heap.size:=Nat.le_trans HW.out HW1.out.size
       refine hK'.out _ _ (fun _=>HRB.out.three HSN.out.1 hclo) ?_
       clear hK' K' HRA hA
       refine x_one (i:=10) (by kernel_rfl) rfl (fun K' hK' => ?_)
       refine step_append_lies _ (by rfl) _ _ _ (by rfl) (w.heap.size+10) 68 i0 (.agg #[.int .i64 0,.string ⟨#[]⟩]) 2 24 Tryz.underlying22 hi hz0 hz1 hz2 rfl (by decide) v st.terms.length (flatB st.terms) rfl HRB.out.row _ 1 1 [.int .i64 c,.string z] rfl rfl (fun j u hu=>hnw j u hu) (by simp [Value.oneCell']) (by decide) (by have:=HB.out.2;unfold maxLen;omega) (by have:=HB.out.2;omega) (by simp;omega) _ rfl ?_
       intro g cap w2 hown hgrow hat hlt
       obtain ⟨S2,f2⟩:=HRB.out.three_grown hgrow HSN.out.1 hclo
       have HK2:=Lib.hid (HRB.out.keeps hgrow (by simp;omega))
       have hne:(Value.slice (some ⟨g,0,none⟩) (st.terms.length+1) cap).ownBlock≠some (w.heap.size+1):=by
        intro e
        have h1:=(hown.lt g rfl).1
        have h2:g=w.heap.size+1:=by simpa [Value.ownBlock] using e
        omega
       have HR3:=Lib.hid (HRB.out.add (t:=(c,z)) hgrow hown hne)
       refine hK'.out _ _ (fun _=>S2) ?_
       clear hK' K'
       simp only [Act.put,List.setIfInBounds_toArray,List.set_cons_zero,List.set_cons_succ]
       refine x_one (i:=11) (by kernel_rfl) rfl (fun K' hK' => ?_)
       go_simp
       refine hK'.out _ _ (fun _=>S2) ?_
       clear hK' K'
       have d1:=S2.1
       refine x_one (i:=12) (by kernel_rfl) rfl (fun K' hK' => ?_)
       go_simp
       refine hK'.out _ _ (fun h=>absurd rfl h) ?_
       clear hK' K'
       refine x_done (by kernel_rfl) ?_ _
       obtain ⟨e3,f3⟩:∃ _:(w2.setCell ⟨w.heap.size+1,0,none⟩ (.slice (some ⟨g,0,none⟩) (st.terms.length+1) cap)).cell? ⟨w.heap.size+1+1+1,0,none⟩=some (.string st.size),(w2.setCell ⟨w.heap.size+1,0,none⟩ (.slice (some ⟨g,0,none⟩) (st.terms.length+1) cap)).frozen? ⟨w.heap.size+1+1+1,0,none⟩=false:=⟨HR3.out.b3.cell.1,HR3.out.b3.cell.2⟩
       have HKA:Hid (KeepsLoop (w.heap.size+5) w' (w2.setCell ⟨w.heap.size+1,0,none⟩ (.slice (some ⟨g,0,none⟩) (st.terms.length+1) cap))):=Lib.hid (((keeps_below HW1.out HW.out).trans ((keeps_below hB hWs).trans HK2.out)).trans (keeps_set _ (w.heap.size+5) (w.heap.size+1) 0 _ (by omega)))
       clear d1 S2 f2 hown hgrow hat hnw hB hb1
       gi_wp2
       exact ⟨HKA.out.trans (keeps_set _ (w.heap.size+5) (w.heap.size+1+1+1) 0 _ (by omega)),HS.out _ _ (by rw [HP.out];exact HR3.out.setSize ⟨#[]⟩)⟩
 case hdone =>
  rintro W ⟨v,hR⟩ hK
  obtain ⟨st,hst⟩:∃ st,rdAll (rdStart s.data.toList) (splitW M.data.toList)=st:=⟨_,rfl⟩
  rw [hst] at hR
  have hF:readF s.data.toList=rdEnd st:=by unfold readF;rw [← HMS.out.1,hst]
  have hsz:st.size.size≤100000:=by
   have h:=rd_size 70000 (splitW M.data.toList) (rdStart s.data.toList) (Nat.zero_le _) (fun y hy=>by
    have h1:=splitW_mem M.data.toList y hy
    have h2:=HMS.out.2
    rw [Lib.size_eq] at h2;omega)
   rw [hst] at h;omega
  obtain ⟨sz,hs0⟩:∃ z,st.size=z:=⟨_,rfl⟩
  obtain ⟨ng,hg0⟩:∃ z,st.neg=z:=⟨_,rfl⟩
  obtain ⟨l,hl0⟩:∃ z,st.terms=z:=⟨_,rfl⟩
  have hro:Rout w W v st.terms:=⟨hR.row,hR.below⟩
  rw [hl0] at hro
  obtain ⟨ad,cap,rfl,hts,hnone,_⟩:=hro.form
  obtain ⟨a0,a1,a2,a3⟩:=hR.b0.cell
  obtain ⟨b0,b1,b2,b3⟩:=hR.b1.cell
  have c3:W.cell? ⟨w.heap.size+1+1+1,0,none⟩=some (.string sz):=by rw [← hs0];exact hR.b3.cell.1
  have c4:W.cell? ⟨w.heap.size+1+1+1+1,0,none⟩=some (.func (.func 102) #[] #[.pointer (some ⟨w.heap.size+1+1,0,none⟩)]):=hR.b4.cell.1
  have c2:W.cell? ⟨w.heap.size+1+1,0,none⟩=some (.bool ng):=by rw [← hg0];exact hR.b2.cell.1
  rw [hs0] at hsz
  have HRo:=Lib.hid hro
  have HB0:=Lib.hid hR.b0
  have HB1:=Lib.hid hR.b1
  have HF:Hid (readF s.data.toList=(if sz.data.toList=[] then ⟨#[48]⟩ else numT ng sz,l)):=Lib.hid (by rw [hF];unfold rdEnd;rw [hs0,hg0,hl0])
  clear hF hst hR hts hnone hs0 hg0 hl0 hro
  by_cases hz:sz.data.toList=[]
  · have t1:(sz.toList==[])=true:=by rw [Lib.toList_data,hz];rfl
    have HF2:Hid (readF s.data.toList=(⟨#[48]⟩,l)):=Lib.hid (by rw [HF.out,if_pos hz])
    clear hz
    gi_wp2
    have hK3:((W.setCell ⟨w.heap.size,0,none⟩ (.slice ad l.length cap)).setCell ⟨w.heap.size,1,none⟩ (.string ⟨#[48]⟩)).heap[w.heap.size+5+3]?=some (.deferred (some [])):=(Below.heap_setCell _ _ _ _ (by dsimp only;omega)).trans ((Below.heap_setCell _ _ _ _ (by dsimp only;omega)).trans hK)
    have hB4:=Bx.grown (HB0.out.store (.slice ad l.length cap) (.string ⟨#[48]⟩)) (grownBy_putObj' _ (w.heap.size+5+3) (.deferred none)) (by simp;omega)
    have HR4:=Lib.hid (((HRo.out.step (grown_set _ w.heap.size 0 (.slice ad l.length cap)) (Nat.le_refl _) (by omega)).step (grown_set _ w.heap.size 1 (.string ⟨#[48]⟩)) (Nat.le_refl _) (by omega)).step (grownBy_putObj' _ (w.heap.size+5+3) (.deferred none)) (by omega) (by omega))
    refine ⟨by simp,.inl ⟨_,_,rfl,run_takeDeferred hK3,?_⟩⟩
    generalize World.putObj _ _ _=W4 at hB4 HR4 ⊢
    obtain ⟨e0,e1,e2,e3⟩:=hB4.cell
    obtain ⟨ad',cap',he',hts,hnn,hfr⟩:=HR4.out.form
    cases he'
    refine ⟨.agg #[.slice ad l.length cap,.string ⟨#[48]⟩],by simp [results,Tryz.results66,go_sem,e0,e1],?_⟩
    rw [HF2.out]
    exact ⟨⟨ad,l.length,cap,rfl,hts,hnn,hfr⟩,HR4.out.below⟩
  · obtain ⟨r,hr⟩:∃ r,numT ng sz=r:=⟨_,rfl⟩
    have HZ:=Lib.hid hr
    have t1:(sz.toList==[])=false:=by rw [Lib.toList_data];simpa using hz
    have HF2:Hid (readF s.data.toList=(r,l)):=Lib.hid (by rw [HF.out,if_neg hz,hr])
    clear hz hr
    gi_wp2_with (first | (refine ⟨trivial,?_⟩;gi_at_call 102;refine (callsIn_wide.2 (read1_any (w.heap.size+1+1) ng sz r _ c2 hsz HZ)).mono ?_;rintro e w' ⟨rfl,hww⟩;rw [hww];clear hww w'))
    have hK3:(((W.setCell ⟨w.heap.size+1,1,none⟩ (.string r)).setCell ⟨w.heap.size,0,none⟩ (.slice ad l.length cap)).setCell ⟨w.heap.size,1,none⟩ (.string r)).heap[w.heap.size+5+3]?=some (.deferred (some [])):=(Below.heap_setCell _ _ _ _ (by dsimp only;omega)).trans ((Below.heap_setCell _ _ _ _ (by dsimp only;omega)).trans ((Below.heap_setCell _ _ _ _ (by dsimp only;omega)).trans hK))
    have hB4:=Bx.grown ((HB0.out.grown (grown_set W (w.heap.size+1) 1 (.string r)) (by simp)).store (.slice ad l.length cap) (.string r)) (grownBy_putObj' _ (w.heap.size+5+3) (.deferred none)) (by simp;omega)
    have HR4:=Lib.hid ((((HRo.out.step (grown_set _ (w.heap.size+1) 1 (.string r)) (by omega) (by omega)).step (grown_set _ w.heap.size 0 (.slice ad l.length cap)) (Nat.le_refl _) (by omega)).step (grown_set _ w.heap.size 1 (.string r)) (Nat.le_refl _) (by omega)).step (grownBy_putObj' _ (w.heap.size+5+3) (.deferred none)) (by omega) (by omega))
    refine ⟨by simp,.inl ⟨_,_,rfl,run_takeDeferred hK3,?_⟩⟩
    generalize World.putObj _ _ _=W4 at hB4 HR4 ⊢
    obtain ⟨e0,e1,e2,e3⟩:=hB4.cell
    obtain ⟨ad',cap',he',hts,hnn,hfr⟩:=HR4.out.form
    cases he'
    refine ⟨.agg #[.slice ad l.length cap,.string r],by simp [results,Tryz.results66,go_sem,e0,e1],?_⟩
    rw [HF2.out]
    exact ⟨⟨ad,l.length,cap,rfl,hts,hnn,hfr⟩,HR4.out.below⟩
end Go.Proofs.YtkhdocdddicgpaaGreatDoor
set_option linter.unusedVariables false
set_option linter.unusedSimpArgs false
namespace Go.Proofs.YtkhdocdddicgpaaGreatDoor
open Go.RowKit Go.Maps _root_.Go.Proofs.YtkhdocdddicgpaaGreatDoor.Nm
def TextOf (l:List UInt8) (qc:Rat) (q:List Qm):Prop:=readF l=(txt qc,tms q)∧Fo q∧rshort qc=true∧formT qc q=l
def ReadIn (l:List UInt8):Prop:=(readF l).1.size≤100000∧(∀ t∈(readF l).2,t.2.size≤100000)∧(readF l).2.length≤500
set_option maxRecDepth 100000 in
set_option maxHeartbeats 3200000 in
theorem Parse_good (s x:ByteArray) (qc:Rat) (q:List Qm) (w:World) (h:TextOf s.data.toList qc q) (hx:txt qc=x) (hin:ReadIn s.data.toList) (hs:s.size≤65536) (htab:Tab w) (he:Ers w) :
 Calls Tryz.prog 29 #[.string s] w fun e w'=>(∃ ad n cap,e = .returned (.tuple #[.agg #[.slice ad n cap,.string x],.int .i64 0])∧InV w' ad n cap qc x q)∧Below w.heap.size w w':=by
 obtain ⟨h1,h2,h3,h4⟩:=h
 obtain ⟨i1,i2,i3⟩:=hin
 rw [h1] at i1 i2 i3
 have hsz:¬ (65536:Int)<s.size:=by omega
 have HR:=Lib.hid (And.intro h1 h4)
 have HFO:=Lib.hid (And.intro h2 h3)
 have HI:=Lib.hid (And.intro i1 (And.intro i2 i3))
 have HT:=Lib.hid htab
 have HX:=Lib.hid hx
 have hA:=(Below.refl w.heap.size w).alloc (Nat.le_refl _) (.cells #[.slice none 0 0,.string ⟨#[]⟩] 24)
 have HE:=Lib.hid (he.keep hA (Nat.le_refl _))
 have HW:=Lib.hid hA
 have HB:=Lib.hid (Bx.new w (.slice none 0 0) (.string ⟨#[]⟩) 24)
 clear h1 h2 h3 h4 i1 i2 i3 htab he hA hx
 go_enter Tryz.func29,Tryz.ntmps29
 go_wp2_with fail
 refine (fread_any s _ (by omega) HE.out).mono ?_
 rintro e w1 ⟨⟨ad,n,cap,rfl,hts,hnone,hfr⟩,hb⟩
 rw [HR.out.1] at hts
 rw [HR.out.1]
 have hv:InV w1 ad n cap qc x q:=⟨⟨hts,by rw [← HX.out];exact HI.out.1,HI.out.2.1,HI.out.2.2,hnone⟩,HX.out,HFO.out.2,HFO.out.1⟩
 have hC:Below w1.heap.size w1 (w1.alloc (.cells #[.slice ad n cap,.string x] 24)):=(Below.refl _ w1).alloc (Nat.le_refl _) _
 have HB1:=Lib.hid ((HB.out.below hb HB.out.lt).below hC (HB.out.below hb HB.out.lt).lt)
 have HB2:=Lib.hid (Bx.new w1 (.slice ad n cap) (.string x) 24)
 have HV:=Lib.hid (hv.keep hC (Nat.le_refl _))
 have HW1:=Lib.hid (HW.out.trans ((hb.trans (hC.mono hb.size)).mono HW.out.size))
 have hne:w.heap.size<w1.heap.size:=Nat.lt_of_lt_of_le HB.out.lt hb.size
 obtain ⟨a0,a1,a2,a3⟩:=HB2.out.cell
 dsimp only
 rw [HX.out]
 have HFR:=Lib.hid hfr
 clear hts hnone hv hC hb hfr
 go_wp2_with fail
 refine (Text_good qc x ad n cap q s 0 _ HV.out (tab_keep HT.out HW1.out) (Lib.hid (by rw [if_neg (by rw [HR.out.2, ← Lib.size_eq];omega),HR.out.2];exact ⟨rfl,rfl⟩))).mono ?_
 rintro e w2 ⟨rfl,hb⟩
 have HB3:=Lib.hid (HB1.out.below hb HB1.out.lt)
 have HB4:=Lib.hid (HB2.out.below hb HB2.out.lt)
 have HV2:=Lib.hid (HV.out.keep hb (Nat.le_refl _))
 have HW2:=Lib.hid (HW1.out.trans (hb.mono HW1.out.size))
 clear hb a0 a1 a2 a3
 obtain ⟨a0,a1,a2,a3⟩:=HB3.out.cell
 obtain ⟨b0,b1,b2,b3⟩:=HB4.out.cell
 go_wp2
 obtain ⟨d0,d1,d2,d3⟩:=(HB3.out.store (.slice ad n cap) (.string x)).cell
 refine bodyPost_ret (v := .tuple #[.agg #[.slice ad n cap,.string x],.int .i64 0]) (by simp only [results,Tryz.results29];simp [go_sem,d0,d1]) rfl ?_
 have hv:=HV2.out
 exact ⟨⟨ad,n,cap,rfl,⟨⟨(hv.in_.at_.set HFR.out (by simp)).set HFR.out (by simp),hv.in_.size,hv.in_.sizes,hv.in_.len,hv.in_.none⟩,hv.is_,hv.short,hv.fo⟩⟩,(HW2.out.setCell (Nat.le_refl _) _).setCell (Nat.le_refl _) _⟩
end Go.Proofs.YtkhdocdddicgpaaGreatDoor
set_option linter.unusedVariables false
set_option linter.unusedSimpArgs false
namespace Go.Proofs.YtkhdocdddicgpaaGreatDoor
open Go.RowKit Go.Maps _root_.Go.Proofs.YtkhdocdddicgpaaGreatDoor.Nm
theorem cell_lit (w:World) (cs:Array Value) (T:TypeId) (j:Nat) (v:Value) (h:cs[j]?=some v):(w.alloc (.cells cs T)).cell? ⟨w.heap.size,j,none⟩=some v:=by
 have hn:=World.alloc_heap_new w (.cells cs T)
 simp only [World.cell?,hn]
 simpa using h
theorem TsAt.lit (w:World) (l:List Tm) (cs:Array Value) (T:TypeId) (n:Nat) (hcs:cs.toList=flatB l) (hn:n=l.length):TsAt (w.alloc (.cells cs T)) (.slice (some ⟨w.heap.size,0,none⟩) n n) l:=by
 refine ⟨_,_,_,rfl,hn,.inr ⟨w.heap.size,0,rfl,by simp,fun i hi => ?_⟩⟩
 obtain ⟨e0,e1⟩:=flatB_get l i hi
 rw [← hcs,Array.getElem?_toList] at e0 e1
 rw [Nat.zero_add]
 exact ⟨cell_lit w cs T _ _ e0,cell_lit w cs T _ _ e1⟩
theorem SsAt.lit (w:World) (l:List ByteArray) (cs:Array Value) (T:TypeId) (n:Nat) (hcs:cs.toList=l.map Value.string) (hn:n=l.length):SsAt (w.alloc (.cells cs T)) (.slice (some ⟨w.heap.size,0,none⟩) n n) l:=by
 refine ⟨_,_,_,rfl,hn,.inr ⟨w.heap.size,0,rfl,by simp,fun i hi => ?_⟩⟩
 have e0:(l.map Value.string)[i]?=some (.string l[i]):=by simp [hi]
 rw [← hcs,Array.getElem?_toList] at e0
 rw [Nat.zero_add]
 exact cell_lit w cs T _ _ e0
def exh:Rat:=Rat.divInt (-1) 2
def exq1:List Qm:=[(3,2),(0,exh),(3,1),(1,1),(1,-1)]
def exq2:List Qm:=[(0,exh),(3,3)]
def exq3:List Qm:=[(0,exh),(1,3)]
def exb:List Qm:=[(1,1)]
theorem ex_of:(acc (fun _=>0) exq1).map formOf=some exq2:=by decide +kernel
theorem ex_tms1:tms exq1=[(3,⟨#[50]⟩),(0,⟨#[45,49,47,50]⟩),(3,⟨#[49]⟩),(1,⟨#[49]⟩),(1,⟨#[45,49]⟩)]:=by decide +kernel
theorem ex_five:txt 5=⟨#[53]⟩:=by decide +kernel
theorem ex_fo1:∀ p∈exq1,ColIn p.1∧rshort p.2=true:=by unfold ColIn;decide +kernel
theorem ex_fo2:Fo exq2:=by unfold Fo ColIn;decide +kernel
theorem ex_fob:Fo exb:=by unfold Fo ColIn;decide +kernel
theorem ex_short5:rshort 5=true:=by decide +kernel
theorem ex_short2:rshort 2=true:=by decide +kernel
theorem ex_short11:rshort 11=true:=by decide +kernel
theorem ex_text1:formT 5 exq2=[45,49,47,50,32,120,48,32,43,32,51,32,120,51,32,43,32,53]:=by decide +kernel
theorem ex_text2:formT 11 exq3=[45,49,47,50,32,120,48,32,43,32,51,32,120,49,32,43,32,49,49]:=by decide +kernel
def exv:List Rat:=[4,9,9,1]
theorem ex_vals:valsQ exv=[⟨#[52]⟩,⟨#[57]⟩,⟨#[57]⟩,⟨#[49]⟩]:=by decide +kernel
theorem ex_shortv:∀ v∈exv,rshort v=true:=by decide +kernel
theorem ex_six:txt 6=⟨#[54]⟩:=by decide +kernel
theorem ex_evalQ:evalQ 5 exq2 (atQ exv)=some 6:=by decide +kernel
theorem ex_eval:EvalIs 5 exq2 exv ⟨#[54]⟩ 0:=by
 unfold EvalIs
 rw [if_neg (by decide),ex_evalQ]
 exact ⟨ex_six.symm,rfl⟩
theorem ex_two:txt 2=⟨#[50]⟩:=by decide +kernel
theorem ex_read:readF [120,49,32,43,32,50]=(txt 2,tms exb):=by decide +kernel
theorem ex_textb:formT 2 exb=[120,49,32,43,32,50]:=by decide +kernel
theorem ex_parse:TextOf [120,49,32,43,32,50] 2 exb:=⟨ex_read,ex_fob,ex_short2,ex_textb⟩
theorem ex_in:ReadIn [120,49,32,43,32,50]:=by
 unfold ReadIn
 rw [ex_read]
 decide +kernel
theorem ex_put:(putRes 5 2 exq2 exb 3).map formOf=some exq3:=by decide +kernel
theorem ex_const:(5:Rat)+2*co exq2 3=11:=by decide +kernel
theorem ex_eleven:txt 11=⟨#[49,49]⟩:=by decide +kernel
end Go.Proofs.YtkhdocdddicgpaaGreatDoor
set_option linter.unusedVariables false
set_option linter.unusedSimpArgs false
namespace Go.Proofs.YtkhdocdddicgpaaGreatDoor
open Go.RowKit Go.Maps _root_.Go.Proofs.YtkhdocdddicgpaaGreatDoor.Nm
theorem inF_light {w:World} {ad:Option Addr} {n cap:Nat} {x:ByteArray} {l:List Tm} (h:TsAt w (.slice ad n cap) l) (h0:ad=none→cap=0) (hl:lightB x l=true):InF w ad n cap x l∧l.length≤8:=by
 unfold lightB shortC at hl
 rw [Bool.and_eq_true,Bool.and_eq_true,List.all_eq_true,decide_eq_true_eq,decide_eq_true_eq] at hl
 obtain ⟨h1,h2,h3⟩:=hl
 refine ⟨⟨h,by omega,fun t ht => ?_,by omega,h0⟩,h2⟩
 have:=of_decide_eq_true (h1 t.2 (List.mem_map.2 ⟨t,ht,rfl⟩))
 omega
theorem stored (W:World) (u v:Value) (T:TypeId):Below W.heap.size W (((W.alloc (.cells #[.slice none 0 0,.string ⟨#[]⟩] T)).setCell ⟨W.heap.size,0,none⟩ u).setCell ⟨W.heap.size,1,none⟩ v) :=
 (((Below.refl _ W).alloc (Nat.le_refl _) _).setCell (Nat.le_refl _) _).setCell (Nat.le_refl _) _
end Go.Proofs.YtkhdocdddicgpaaGreatDoor
set_option linter.unusedVariables false
set_option linter.unusedSimpArgs false
namespace Go.Proofs.YtkhdocdddicgpaaGreatDoor
open Go.RowKit Go.Maps _root_.Go.Proofs.YtkhdocdddicgpaaGreatDoor.Nm
theorem FormRes.inv {g:Int→Rat} {c:ByteArray} {w w':World} {e:Ending} (h:FormRes (some g) c w e w') {qc:Rat} (hc:txt qc=c) (hs:rshort qc=true) (hg:Good g) (hl:(formOf g).length≤500) :
 ∃ ad n cap,e = .returned (.tuple #[.agg #[.slice ad n cap,.string c],.int .i64 0])∧InV w' ad n cap qc c (formOf g)∧Below w.heap.size w w':=by
 obtain ⟨hb,ad,n,cap,he,hts,a,ha,hl2⟩:=h
 refine ⟨ad,n,cap,he,⟨⟨hts,by rw [← hc];have:=txt_small hs;omega,fun t ht => ?_,by simpa [tms] using hl,fun h=>by rw [ha] at h;cases h⟩,hc,hs,formOf_fo hg⟩,hb⟩
 obtain ⟨p,hp,rfl⟩:=List.mem_map.1 ht
 have:=txt_small ((formOf_fo hg).1 p hp).2.1
 dsimp only;omega
set_option maxRecDepth 100000 in
set_option maxHeartbeats 6400000 in
theorem lawake_any (w:World) (htab:Tab w) (he:Ers w):Calls Tryz.prog 11 #[] w fun e w'=>e = .returned (.bool true)∧Below w.heap.size w w':=by
 obtain ⟨g1,hg1,hf1⟩:=Option.map_eq_some_iff.1 ex_of
 obtain ⟨g2,hg2,hf2⟩:=Option.map_eq_some_iff.1 ex_put
 have hG1:Good g1:=acc_good _ _ _ good_zero (fun p hp=>(ex_fo1 p hp).1) hg1
 have hG2:Good g2:=(putRes_some ex_fo2 ex_fob hg2).2.2
 have hA:=(Below.refl w.heap.size w).alloc (Nat.le_refl _) (.cells #[.int .i64 3,.string ⟨#[50]⟩,.int .i64 0,.string ⟨#[45,49,47,50]⟩,.int .i64 3,.string ⟨#[49]⟩,.int .i64 1,.string ⟨#[49]⟩,.int .i64 1,.string ⟨#[45,49]⟩] 68)
 have hts0:TsAt (w.alloc (.cells #[.int .i64 3,.string ⟨#[50]⟩,.int .i64 0,.string ⟨#[45,49,47,50]⟩,.int .i64 3,.string ⟨#[49]⟩,.int .i64 1,.string ⟨#[49]⟩,.int .i64 1,.string ⟨#[45,49]⟩] 68)) (.slice (some ⟨w.heap.size,0,none⟩) 5 5) (tms exq1):=by
  rw [ex_tms1]
  exact TsAt.lit w _ _ 68 5 rfl rfl
 have hO:=Of_any 5 _ 5 5 exq1 _ hts0 ex_short5 ex_fo1 (by decide) (tab_keep htab hA)
 rw [ex_five,hg1] at hO
 have HO:=Lib.hid hO
 have HT:=Lib.hid htab
 have HE:=Lib.hid he
 have HW0:=Lib.hid hA
 have HG:=Lib.hid (And.intro hG1 (And.intro hG2 (And.intro hf1 (And.intro hf2 hg2))))
 clear hO hts0 hA htab he hG1 hG2 hf1 hf2 hg1 hg2
 go_enter Tryz.func11,Tryz.ntmps11
 go_wp2_with fail
 refine HO.out.mono ?_
 rintro e w1 h
 obtain ⟨ad,n,cap,rfl,hv,hb⟩:=h.inv ex_five ex_short5 HG.out.1 (by rw [HG.out.2.2.1];decide)
 rw [HG.out.2.2.1] at hv
 have hC:Below w1.heap.size w1 (w1.alloc (.cells #[.slice ad n cap,.string ⟨#[53]⟩] 24)):=(Below.refl _ w1).alloc (Nat.le_refl _) _
 have HV1:=Lib.hid (hv.keep hC (Nat.le_refl _))
 have HB1:=Lib.hid (Bx.new w1 (.slice ad n cap) (.string ⟨#[53]⟩) 24)
 have HW1:=Lib.hid (HW0.out.trans ((hb.trans (hC.mono hb.size)).mono HW0.out.size))
 clear h hv hb hC
 obtain ⟨a0,a1,a2,a3⟩:=HB1.out.cell
 go_wp2_with fail
 refine (Text_good 5 _ ad n cap exq2 ⟨#[45,49,47,50,32,120,48,32,43,32,51,32,120,51,32,43,32,53]⟩ 0 _ HV1.out (tab_keep HT.out HW1.out) (Lib.hid (by rw [ex_text1];exact ⟨rfl,rfl⟩))).mono ?_
 rintro e w2 ⟨rfl,hb⟩
 have HV2:=Lib.hid (HV1.out.keep hb (Nat.le_refl _))
 have HB2:=Lib.hid (HB1.out.below hb HB1.out.lt)
 have HW2:=Lib.hid (HW1.out.trans (hb.mono HW1.out.size))
 clear hb a0 a1 a2 a3
 obtain ⟨a0,a1,a2,a3⟩:=HB2.out.cell
 have hC:Below w2.heap.size w2 (w2.alloc (.cells #[.string ⟨#[52]⟩,.string ⟨#[57]⟩,.string ⟨#[57]⟩,.string ⟨#[49]⟩] 9)):=(Below.refl _ w2).alloc (Nat.le_refl _) _
 have hss:SsAt (w2.alloc (.cells #[.string ⟨#[52]⟩,.string ⟨#[57]⟩,.string ⟨#[57]⟩,.string ⟨#[49]⟩] 9)) (.slice (some ⟨w2.heap.size,0,none⟩) 4 4) (valsQ exv):=by
  rw [ex_vals]
  exact SsAt.lit w2 _ _ 9 4 rfl rfl
 have HSS:=Lib.hid hss
 have HV3:=Lib.hid (HV2.out.keep hC (Nat.le_refl _))
 have HB3:=Lib.hid (HB2.out.below hC HB2.out.lt)
 have HW3:=Lib.hid (HW2.out.trans (hC.mono HW2.out.size))
 clear hss hC
 go_wp2_with fail
 have hEv:=Eval_loop 5 exq2 exv ad (some ⟨w2.heap.size,0,none⟩) n cap 4 4 ⟨#[54]⟩ 0 _ HV3.out.in_.at_ HSS.out ex_fo2 ex_short5 ex_shortv (by decide) (by decide) (tab_keep HT.out HW3.out) (Lib.hid ex_eval)
 rw [ex_five] at hEv
 refine hEv.mono ?_
 rintro e w3 ⟨rfl,hb⟩
 have HV4:=Lib.hid (HV3.out.keep hb (Nat.le_refl _))
 have HB4:=Lib.hid (HB3.out.below hb HB3.out.lt)
 have HW4:=Lib.hid (HW3.out.trans (hb.mono HW3.out.size))
 clear hb a0 a1 a2 a3 hEv
 go_wp2_with fail
 refine (Parse_good ⟨#[120,49,32,43,32,50]⟩ ⟨#[50]⟩ 2 exb _ ex_parse ex_two ex_in (by decide) (tab_keep HT.out HW4.out) (HE.out.keep HW4.out (Nat.le_refl _))).mono ?_
 rintro e w4 ⟨⟨ad2,n2,cap2,rfl,hv2⟩,hb⟩
 have hC:Below w4.heap.size w4 (w4.alloc (.cells #[.slice ad2 n2 cap2,.string ⟨#[50]⟩] 24)):=(Below.refl _ w4).alloc (Nat.le_refl _) _
 have HV5:=Lib.hid ((HV4.out.keep hb (Nat.le_refl _)).keep hC (Nat.le_refl _))
 have HB5:=Lib.hid ((HB4.out.below hb HB4.out.lt).below hC (HB4.out.below hb HB4.out.lt).lt)
 have HU5:=Lib.hid (hv2.keep hC (Nat.le_refl _))
 have HC5:=Lib.hid (Bx.new w4 (.slice ad2 n2 cap2) (.string ⟨#[50]⟩) 24)
 have HW5:=Lib.hid (HW4.out.trans ((hb.trans (hC.mono hb.size)).mono HW4.out.size))
 clear hb hC hv2
 obtain ⟨a0,a1,a2,a3⟩:=HB5.out.cell
 obtain ⟨b0,b1,b2,b3⟩:=HC5.out.cell
 go_wp2_with fail
 refine (Put_good 5 2 _ _ ad ad2 n cap n2 cap2 exq2 exb 3 _ HV5.out HU5.out (by unfold ColIn;decide) (tab_keep HT.out HW5.out)).mono ?_
 rintro e w5 h
 rw [HG.out.2.2.2.2,ex_const] at h
 obtain ⟨ad3,n3,cap3,rfl,hv3,hb⟩:=h.inv (qc:=11) rfl ex_short11 HG.out.2.1 (by rw [HG.out.2.2.2.1];decide)
 rw [HG.out.2.2.2.1,ex_eleven] at hv3
 rw [ex_eleven]
 have hC:Below w5.heap.size w5 (w5.alloc (.cells #[.slice ad3 n3 cap3,.string ⟨#[49,49]⟩] 24)):=(Below.refl _ w5).alloc (Nat.le_refl _) _
 have HV6:=Lib.hid (hv3.keep hC (Nat.le_refl _))
 have HB6:=Lib.hid (Bx.new w5 (.slice ad3 n3 cap3) (.string ⟨#[49,49]⟩) 24)
 have HW6:=Lib.hid (HW5.out.trans ((hb.trans (hC.mono hb.size)).mono HW5.out.size))
 clear hb hC hv3 h a0 a1 a2 a3 b0 b1 b2 b3
 obtain ⟨a0,a1,a2,a3⟩:=HB6.out.cell
 go_wp2_with fail
 refine (Text_good 11 _ ad3 n3 cap3 exq3 ⟨#[45,49,47,50,32,120,48,32,43,32,51,32,120,49,32,43,32,49,49]⟩ 0 _ HV6.out (tab_keep HT.out HW6.out) (Lib.hid (by rw [ex_text2];exact ⟨rfl,rfl⟩))).mono ?_
 rintro e w6 ⟨rfl,hb⟩
 have HW7:=Lib.hid (HW6.out.trans (hb.mono HW6.out.size))
 clear hb a0 a1 a2 a3
 go_wp2
 go_ret
 exact ⟨rfl,HW7.out⟩
end Go.Proofs.YtkhdocdddicgpaaGreatDoor
