/- Part 12: what the law's walk leans on. -/
import Derived.Test.YtkhdocdddicgpaaGreatDoorYt11
import Derived.Test.YtkhdocdddicgpaaGreatDoorYt4
import Derived.RegionTactic
import Derived.BigQuiet
import Derived.Deep.DeepCutAuto
import Derived.Deep.RegionWith
set_option linter.unusedVariables false
set_option linter.unusedSimpArgs false
namespace Go.Proofs.YtkhdocdddicgpaaGreatDoor
open Go.RowKit _root_.Go.Proofs.YtkhdocdddicgpaaGreatDoor.Nm
set_option maxRecDepth 100000 in
set_option maxHeartbeats 1600000 in
theorem Index_slash (s:ByteArray) (i:Int) (w:World) (hi:Hid (True∧Lib.indexByte s.data.toList 47=i)) :
 Calls Tryz.prog 185 #[.string s,.string ⟨#[47]⟩] w fun e w'=>e = .returned (.int .i64 i)∧w=w':=by
 cases h:([47]==s.toList)
 · go_enter Tryz.func185,Tryz.ntmps185
   go_wp2_with fail
   refine (Tryz.stringslite_IndexByte s 47 _).mono ?_
   rintro e w' ⟨rfl,rfl⟩
   rw [show Lib.indexByte s.data.toList (47:Int).toNat.toUInt8=i from hi.out.2]
   go_wp2
   go_ret
   exact ⟨rfl,rfl⟩
 · obtain rfl:i=0:=by
    have e:=eq_of_beq h
    rw [Lib.toList_data] at e
    rw [← hi.out.2, ← e]
    rfl
   go_enter Tryz.func185,Tryz.ntmps185
   go_wp2
   go_ret
   exact ⟨rfl,rfl⟩
set_option maxRecDepth 100000 in
set_option maxHeartbeats 1600000 in
theorem lCut_miss (s:ByteArray) (w:World) (h:(47:UInt8)∉s.data.toList) :
 Calls Tryz.prog 150 #[.string s,.string ⟨#[47]⟩] w fun e w'=>e = .returned (.tuple #[.string s,.string ⟨#[]⟩,.bool false])∧∃ n,w'=w.drewN n:=by
 have HI:Hid (True∧Lib.indexByte s.data.toList 47 = -1):=Lib.hid ⟨trivial,indexByte_miss _ _ h⟩
 clear h
 go_enter Tryz.func150,Tryz.ntmps150
 go_wp2_with fail
 refine (Index_slash s _ _ HI).mono ?_
 rintro e w' ⟨rfl,rfl⟩
 go_wp2
 go_ret3
 exact ⟨rfl,0,rfl⟩
set_option maxRecDepth 100000 in
set_option maxHeartbeats 1600000 in
theorem lCut_hit (s A B:ByteArray) (n:Nat) (w:World) (h:Hid (Lib.indexByte s.data.toList 47=(n:Nat))) (hn:n+1≤s.size) (hA:Hid (s.extract 0 n=A)) (hB:Hid (s.extract (n+1) s.size=B)) (hs:s.size≤100000) :
 Calls Tryz.prog 150 #[.string s,.string ⟨#[47]⟩] w fun e w'=>e = .returned (.tuple #[.string A,.string B,.bool true])∧∃ n,w'=w.drewN n:=by
 have HI:Hid (True∧Lib.indexByte s.data.toList 47=(n:Nat)):=Lib.hid ⟨trivial,h.out⟩
 have c1:(0:Int)≤n:=by omega
 have c2:(n:Int)≤s.size:=by omega
 have c3:(0:Int)≤(n:Int)+1:=by omega
 have c4:(n:Int)+1≤s.size:=by omega
 go_enter Tryz.func150,Tryz.ntmps150
 go_wp2_with fail
 refine (Index_slash s _ _ HI).mono ?_
 rintro e w' ⟨rfl,rfl⟩
 go_wp2_with fail
 go_region
 go_wp2
 go_ret3
 exact ⟨by rw [← hA.out, ← hB.out];rfl,1,rfl⟩
set_option maxRecDepth 100000 in
set_option maxHeartbeats 1600000 in
theorem Cut_miss (s:ByteArray) (w:World) (h:Hid ((47:UInt8)∉s.data.toList)) :
 Calls Tryz.prog 119 #[.string s,.string ⟨#[47]⟩] w fun e w'=>e = .returned (.tuple #[.string s,.string ⟨#[]⟩,.bool false])∧∃ n,w'=w.drewN n:=by
 go_enter Tryz.func119,Tryz.ntmps119
 go_wp2_with fail
 refine (lCut_miss s _ h.out).mono ?_
 rintro e w' ⟨rfl,n,rfl⟩
 go_wp2
 go_ret3
 exact ⟨rfl,n,rfl⟩
def Split (s A B:ByteArray):Prop:=s.data.toList=A.data.toList++47::B.data.toList∧(47:UInt8)∉A.data.toList
set_option maxRecDepth 100000 in
set_option maxHeartbeats 1600000 in
theorem Cut_hit (s A B:ByteArray) (w:World) (h:Hid (Split s A B)) (hs:s.size≤100000) :
 Calls Tryz.prog 119 #[.string s,.string ⟨#[47]⟩] w fun e w'=>e = .returned (.tuple #[.string A,.string B,.bool true])∧∃ n,w'=w.drewN n:=by
 have hz:s.size=A.size+1+B.size:=by
  have e:=congrArg List.length h.out.1
  rw [List.length_append,List.length_cons,len_size,len_size,len_size] at e
  omega
 have hi:Lib.indexByte s.data.toList 47=(A.size:Nat):=by
  rw [h.out.1,indexByte_hit _ _ _ h.out.2,len_size]
 have hA:s.extract 0 A.size=A:=by
  apply ByteArray.ext
  rw [ByteArray.data_extract]
  apply Array.toList_inj.1
  rw [Array.toList_extract,h.out.1,List.extract_eq_take_drop,List.drop_zero,Nat.sub_zero, ← len_size,List.take_left]
 have hB:s.extract (A.size+1) s.size=B:=by
  apply ByteArray.ext
  rw [ByteArray.data_extract]
  apply Array.toList_inj.1
  rw [Array.toList_extract,h.out.1,List.extract_eq_take_drop,show A.data.toList++47::B.data.toList=(A.data.toList++[47])++B.data.toList from by rw [List.append_assoc];rfl,show A.size+1=(A.data.toList++[47]).length from by rw [List.length_append,len_size];rfl,List.drop_left,List.take_of_length_le]
  rw [List.length_append,len_size,len_size,hz]
  show B.size≤A.size+1+B.size-(A.size+1)
  omega
 have HI:=Lib.hid hi
 have HA:=Lib.hid hA
 have HB:=Lib.hid hB
 have HZ:Hid (A.size+1≤s.size):=Lib.hid (by omega)
 clear hz hi hA hB
 go_enter Tryz.func119,Tryz.ntmps119
 go_wp2_with fail
 refine (lCut_hit s A B A.size _ HI HZ.out HA HB hs).mono ?_
 rintro e w' ⟨rfl,n,rfl⟩
 go_wp2
 go_ret3
 exact ⟨rfl,n,rfl⟩
theorem split_or (s:ByteArray):(47:UInt8)∉s.data.toList∨∃ A B,Split s A B:=by
 rcases split_ex s.data.toList with h | ⟨a,b,e,h⟩
 · exact .inl h
 · exact .inr ⟨⟨a.toArray⟩,⟨b.toArray⟩,by simpa using e,by simpa using h⟩
theorem Split.val {s A B:ByteArray} (h:Split s A B):rval s.data.toList=if canon A.data.toList&&canon B.data.toList&&decide (1<zv B.data.toList)&&(Int.gcd (zv A.data.toList) (zv B.data.toList)==1) then some (Rat.divInt (zv A.data.toList) (zv B.data.toList)) else none:=by
 rw [h.1,rval_frac _ _ h.2]
end Go.Proofs.YtkhdocdddicgpaaGreatDoor
set_option linter.unusedVariables false
set_option linter.unusedSimpArgs false
namespace Go.Proofs.YtkhdocdddicgpaaGreatDoor
open Go.RowKit _root_.Go.Proofs.YtkhdocdddicgpaaGreatDoor.Nm
def RdPost (P:Nat→Prop) (o:Option Rat) (w:World) (e:Ending) (w':World):Prop :=
 ∃ s1 p1 s2 p2,e = .returned (.tuple #[.agg #[.int .i64 s1,.pointer p1,.int .i64 s2,.pointer p2],.bool o.isSome])∧(∀ q,o=some q→IsFr P w' (.agg #[.int .i64 s1,.pointer p1,.int .i64 s2,.pointer p2]) q)∧Below w.heap.size w w'
theorem RdPost.zero {P:Nat→Prop} {o:Option Rat} {w w1:World} {a b c d:Value} {g:Nat} (ho:o=none) (hb:Below w.heap.size w w1) (hg:w.heap.size≤g) :
 RdPost P o w (.returned (.tuple #[.agg #[.int .i64 0,.pointer none,.int .i64 0,.pointer none],.bool false])) (set4 w1 g a b c d):=by
 subst ho
 exact ⟨0,none,0,none,rfl,fun q h=>(by cases h),hb.trans ((set4_only w1 g a b c d).below hg)⟩
theorem RdPost.full {P:Nat→Prop} {o:Option Rat} {q:Rat} {w w1:World} {s1 s2:Int} {p1 p2:Option Addr} {a b c d:Value} {g:Nat} (ho:o=some q) (hb:Below w.heap.size w w1) (hg:w.heap.size≤g) (hn:IsFr (fun k=>P k∧k≠g) w1 (.agg #[.int .i64 s1,.pointer p1,.int .i64 s2,.pointer p2]) q) :
 RdPost P o w (.returned (.tuple #[.agg #[.int .i64 s1,.pointer p1,.int .i64 s2,.pointer p2],.bool true])) (set4 w1 g a b c d):=by
 subst ho
 refine ⟨s1,p1,s2,p2,rfl,fun q' h => ?_,hb.trans ((set4_only w1 g a b c d).below hg)⟩
 cases h
 exact (hn.kept (.only (set4_only w1 g a b c d) (fun h=>h.2 rfl))).mono (fun k _ hk=>hk.1)
set_option maxRecDepth 100000 in
set_option maxHeartbeats 6400000 in
theorem read_any (P:Nat→Prop) (s:ByteArray) (o:Option Rat) (w:World) (hP:∀ k,w.heap.size≤k→P k) (ho:Hid (rval s.data.toList=o)) (hs:s.size≤100000) :
 Calls Tryz.prog 82 #[.string s] w (RdPost P o w):=by
 have HP:=Lib.hid hP
 have hW0:=(Below.refl w.heap.size w).alloc (Nat.le_refl _) (.cells #[.int .i64 0,.pointer none,.int .i64 0,.pointer none] 109)
 have hX0:=B4.new w (.int .i64 0) (.pointer none) (.int .i64 0) (.pointer none) 109
 have HW0:=Lib.hid hW0
 have HX0:=Lib.hid hX0
 clear hP hW0 hX0
 rcases split_or s with h47 | ⟨SA,SB,hsp⟩
 · have H47:=Lib.hid h47
   have hv:=rval_int _ h47
   rw [ho.out] at hv
   cases ka:canon s.data.toList
   · have HNONE:Hid (o=none):=Lib.hid (by rw [hv,ka];rfl)
     have KA:=Lib.hid ka
     clear hv ka h47
     go_enter Tryz.func82,Tryz.ntmps82
     go_wp2_with fail
     refine (Cut_miss s _ H47).mono ?_
     rintro e w1 ⟨rfl,m,rfl⟩
     have HW1:Hid (Below w.heap.size w ((w.alloc (.cells #[.int .i64 0,.pointer none,.int .i64 0,.pointer none] 109)).drewN m)):=Lib.hid (HW0.out.trans ⟨rfl,rfl,rfl,Nat.le_refl _,fun _ _=>rfl⟩)
     have HX1:Hid (B4 ((w.alloc (.cells #[.int .i64 0,.pointer none,.int .i64 0,.pointer none] 109)).drewN m) w.heap.size (.int .i64 0) (.pointer none) (.int .i64 0) (.pointer none)):=HX0
     have HZ1:Hid (True∧w.heap.size+1≤((w.alloc (.cells #[.int .i64 0,.pointer none,.int .i64 0,.pointer none] 109)).drewN m).heap.size):=Lib.hid ⟨trivial,by simp⟩
     clear HW0 HX0
     obtain ⟨c0,c1,c2,c3⟩:=HX1.out.cell
     obtain ⟨f0,f1,f2,f3⟩:=HX1.out.froz
     go_wp2_with fail
     refine (Valid_to s _ KA _).mono ?_
     rintro e w9 ⟨rfl,rfl⟩
     go_wp2
     obtain ⟨l0,l1,l2,l3⟩:=(HX1.out.put (.int .i64 0) (.pointer none) (.int .i64 0) (.pointer none)).cell
     refine bodyPost_ret (v := .tuple #[.agg #[.int .i64 0,.pointer none,.int .i64 0,.pointer none],.bool false]) (by simp only [results,Tryz.results82];simp [go_sem,l0,l1,l2,l3]) rfl ?_
     exact RdPost.zero HNONE.out HW1.out (Nat.le_refl _)
   · have HSOME:Hid (o=some ((zv s.data.toList:Int):Rat)):=Lib.hid (by rw [hv,ka];rfl)
     have KA:=Lib.hid ka
     clear hv ka h47
     go_enter Tryz.func82,Tryz.ntmps82
     go_wp2_with fail
     refine (Cut_miss s _ H47).mono ?_
     rintro e w1 ⟨rfl,m,rfl⟩
     have HW1:Hid (Below w.heap.size w ((w.alloc (.cells #[.int .i64 0,.pointer none,.int .i64 0,.pointer none] 109)).drewN m)):=Lib.hid (HW0.out.trans ⟨rfl,rfl,rfl,Nat.le_refl _,fun _ _=>rfl⟩)
     have HX1:Hid (B4 ((w.alloc (.cells #[.int .i64 0,.pointer none,.int .i64 0,.pointer none] 109)).drewN m) w.heap.size (.int .i64 0) (.pointer none) (.int .i64 0) (.pointer none)):=HX0
     have HZ1:Hid (True∧w.heap.size+1≤((w.alloc (.cells #[.int .i64 0,.pointer none,.int .i64 0,.pointer none] 109)).drewN m).heap.size):=Lib.hid ⟨trivial,by simp⟩
     clear HW0 HX0
     go_wp2_with fail
     refine (Valid_to s _ KA _).mono ?_
     rintro e w9 ⟨rfl,rfl⟩
     go_wp2_with fail
     refine (Read_any (Bar 1 P w) s KA.out _ (fun k hk=>⟨HP.out k (by have:=HZ1.out.2;omega),.inr (by have:=HZ1.out.2;omega)⟩)).mono ?_
     rintro e w2 ⟨v,rfl,hv,hb⟩
     have HV:=Lib.hid hv
     have HW2:=Lib.hid (HW1.out.trans (hb.mono HW1.out.size))
     have HX2:=Lib.hid (HX1.out.below hb HX1.out.lt)
     have HZ2:Hid (True∧w.heap.size+1≤w2.heap.size):=Lib.hid ⟨trivial,Nat.le_trans HZ1.out.2 hb.size⟩
     obtain ⟨s1,p1,rfl⟩:=hv.form
     clear hb hv HW1 HX1 HZ1
     go_wp2_with fail
     refine (whole_any (Bar 1 P w) _ (zv s.data.toList) _ _ (fun k hk=>⟨HP.out k (by have:=HZ2.out.2;omega),.inr (by have:=HZ2.out.2;omega)⟩) HV.out (Lib.hid rfl)).mono ?_
     rintro e w3 ⟨v,rfl,hv,hb⟩
     have HV3:=Lib.hid hv
     have HW3:=Lib.hid (HW2.out.trans (hb.mono HW2.out.size))
     have HX3:=Lib.hid (HX2.out.below hb HX2.out.lt)
     obtain ⟨s3,p3,s4,p4,rfl,_,_⟩:=hv
     clear hb HV HW2 HX2 HZ2
     obtain ⟨c0,c1,c2,c3⟩:=HX3.out.cell
     obtain ⟨f0,f1,f2,f3⟩:=HX3.out.froz
     go_wp2
     obtain ⟨l0,l1,l2,l3⟩:=(HX3.out.put (.int .i64 s3) (.pointer p3) (.int .i64 s4) (.pointer p4)).cell
     refine bodyPost_ret (v := .tuple #[.agg #[.int .i64 s3,.pointer p3,.int .i64 s4,.pointer p4],.bool true]) (by simp only [results,Tryz.results82];simp [go_sem,l0,l1,l2,l3]) rfl ?_
     exact RdPost.full HSOME.out HW3.out (Nat.le_refl _) (HV3.out.mono (fun k _ hk=>⟨hk.1,by have:=hk.2;omega⟩))
 · have HSP:=Lib.hid hsp
   have hv:=hsp.val
   rw [ho.out] at hv
   cases ka:canon SA.data.toList
   · have HNONE:Hid (o=none):=Lib.hid (by rw [hv,ka];rfl)
     have KA:=Lib.hid ka
     clear hv ka hsp
     go_enter Tryz.func82,Tryz.ntmps82
     go_wp2_with fail
     refine (Cut_hit s SA SB _ HSP hs).mono ?_
     rintro e w1 ⟨rfl,m,rfl⟩
     have HW1:Hid (Below w.heap.size w ((w.alloc (.cells #[.int .i64 0,.pointer none,.int .i64 0,.pointer none] 109)).drewN m)):=Lib.hid (HW0.out.trans ⟨rfl,rfl,rfl,Nat.le_refl _,fun _ _=>rfl⟩)
     have HX1:Hid (B4 ((w.alloc (.cells #[.int .i64 0,.pointer none,.int .i64 0,.pointer none] 109)).drewN m) w.heap.size (.int .i64 0) (.pointer none) (.int .i64 0) (.pointer none)):=HX0
     have HZ1:Hid (True∧w.heap.size+1≤((w.alloc (.cells #[.int .i64 0,.pointer none,.int .i64 0,.pointer none] 109)).drewN m).heap.size):=Lib.hid ⟨trivial,by simp⟩
     clear HW0 HX0
     obtain ⟨c0,c1,c2,c3⟩:=HX1.out.cell
     obtain ⟨f0,f1,f2,f3⟩:=HX1.out.froz
     go_wp2_with fail
     refine (Valid_to SA _ KA _).mono ?_
     rintro e w9 ⟨rfl,rfl⟩
     go_wp2
     obtain ⟨l0,l1,l2,l3⟩:=(HX1.out.put (.int .i64 0) (.pointer none) (.int .i64 0) (.pointer none)).cell
     refine bodyPost_ret (v := .tuple #[.agg #[.int .i64 0,.pointer none,.int .i64 0,.pointer none],.bool false]) (by simp only [results,Tryz.results82];simp [go_sem,l0,l1,l2,l3]) rfl ?_
     exact RdPost.zero HNONE.out HW1.out (Nat.le_refl _)
   · cases kb:canon SB.data.toList
     · have HNONE:Hid (o=none):=Lib.hid (by rw [hv,ka,kb];rfl)
       have KA:=Lib.hid ka
       have KB:=Lib.hid kb
       clear hv ka kb hsp
       go_enter Tryz.func82,Tryz.ntmps82
       go_wp2_with fail
       refine (Cut_hit s SA SB _ HSP hs).mono ?_
       rintro e w1 ⟨rfl,m,rfl⟩
       have HW1:Hid (Below w.heap.size w ((w.alloc (.cells #[.int .i64 0,.pointer none,.int .i64 0,.pointer none] 109)).drewN m)):=Lib.hid (HW0.out.trans ⟨rfl,rfl,rfl,Nat.le_refl _,fun _ _=>rfl⟩)
       have HX1:Hid (B4 ((w.alloc (.cells #[.int .i64 0,.pointer none,.int .i64 0,.pointer none] 109)).drewN m) w.heap.size (.int .i64 0) (.pointer none) (.int .i64 0) (.pointer none)):=HX0
       have HZ1:Hid (True∧w.heap.size+1≤((w.alloc (.cells #[.int .i64 0,.pointer none,.int .i64 0,.pointer none] 109)).drewN m).heap.size):=Lib.hid ⟨trivial,by simp⟩
       clear HW0 HX0
       obtain ⟨c0,c1,c2,c3⟩:=HX1.out.cell
       obtain ⟨f0,f1,f2,f3⟩:=HX1.out.froz
       go_wp2_with fail
       refine (Valid_to SA _ KA _).mono ?_
       rintro e w9 ⟨rfl,rfl⟩
       go_wp2_with fail
       refine (Valid_to SB _ KB _).mono ?_
       rintro e w9 ⟨rfl,rfl⟩
       go_wp2
       obtain ⟨l0,l1,l2,l3⟩:=(HX1.out.put (.int .i64 0) (.pointer none) (.int .i64 0) (.pointer none)).cell
       refine bodyPost_ret (v := .tuple #[.agg #[.int .i64 0,.pointer none,.int .i64 0,.pointer none],.bool false]) (by simp only [results,Tryz.results82];simp [go_sem,l0,l1,l2,l3]) rfl ?_
       exact RdPost.zero HNONE.out HW1.out (Nat.le_refl _)
     · have KA:=Lib.hid ka
       have KB:=Lib.hid kb
       obtain ⟨a,ha⟩:∃ a,zv SA.data.toList=a:=⟨_,rfl⟩
       obtain ⟨b,hb0⟩:∃ a,zv SB.data.toList=a:=⟨_,rfl⟩
       have ta:=(zv_ten _ ka)
       have tb:=(zv_ten _ kb)
       rw [ka,kb,ha,hb0] at hv
       rw [ha] at ta
       rw [hb0] at tb
       have HVA:=Lib.hid (And.intro trivial ha)
       have HVB:=Lib.hid (And.intro trivial hb0)
       have HV:=Lib.hid hv
       have HLL:Hid ((ds 1000000000 a.natAbs).length≤900∧(ds 1000000000 b.natAbs).length≤900):=Lib.hid ⟨by obtain ⟨k,h1,h2⟩:=ta;exact ds_ten 900 k _ h2 (by omega),by obtain ⟨k,h1,h2⟩:=tb;exact ds_ten 900 k _ h2 (by omega)⟩
       clear ka kb ha hb0 ta tb hv hsp
       go_enter Tryz.func82,Tryz.ntmps82
       go_wp2_with fail
       refine (Cut_hit s SA SB _ HSP hs).mono ?_
       rintro e w1 ⟨rfl,m,rfl⟩
       have HW1:Hid (Below w.heap.size w ((w.alloc (.cells #[.int .i64 0,.pointer none,.int .i64 0,.pointer none] 109)).drewN m)):=Lib.hid (HW0.out.trans ⟨rfl,rfl,rfl,Nat.le_refl _,fun _ _=>rfl⟩)
       have HX1:Hid (B4 ((w.alloc (.cells #[.int .i64 0,.pointer none,.int .i64 0,.pointer none] 109)).drewN m) w.heap.size (.int .i64 0) (.pointer none) (.int .i64 0) (.pointer none)):=HX0
       have HZ1:Hid (True∧w.heap.size+1≤((w.alloc (.cells #[.int .i64 0,.pointer none,.int .i64 0,.pointer none] 109)).drewN m).heap.size):=Lib.hid ⟨trivial,by simp⟩
       clear HW0 HX0
       go_wp2_with fail
       refine (Valid_to SA _ KA _).mono ?_
       rintro e w9 ⟨rfl,rfl⟩
       go_wp2_with fail
       refine (Valid_to SB _ KB _).mono ?_
       rintro e w9 ⟨rfl,rfl⟩
       go_wp2_with fail
       refine (Read_any (Bar 1 P w) SA KA.out _ (fun k hk=>⟨HP.out k (by have:=HZ1.out.2;omega),.inr (by have:=HZ1.out.2;omega)⟩)).mono ?_
       rintro e w2 ⟨v,rfl,hv,hb⟩
       rw [HVA.out.2] at hv
       have HA2:=Lib.hid hv
       have HW2:=Lib.hid (HW1.out.trans (hb.mono HW1.out.size))
       have HX2:=Lib.hid (HX1.out.below hb HX1.out.lt)
       have HZ2:Hid (True∧w.heap.size+1≤w2.heap.size):=Lib.hid ⟨trivial,Nat.le_trans HZ1.out.2 hb.size⟩
       obtain ⟨s1,p1,rfl⟩:=hv.form
       clear hb hv HW1 HX1 HZ1
       go_wp2_with fail
       refine (Read_any (Bar 1 P w) SB KB.out _ (fun k hk=>⟨HP.out k (by have:=HZ2.out.2;omega),.inr (by have:=HZ2.out.2;omega)⟩)).mono ?_
       rintro e w3 ⟨v,rfl,hv,hb⟩
       rw [HVB.out.2] at hv
       have HB3:=Lib.hid hv
       have HA3:=Lib.hid (HA2.out.kept (.all hb))
       have HW3:=Lib.hid (HW2.out.trans (hb.mono HW2.out.size))
       have HX3:=Lib.hid (HX2.out.below hb HX2.out.lt)
       have HZ3:Hid (True∧w.heap.size+1≤w3.heap.size):=Lib.hid ⟨trivial,Nat.le_trans HZ2.out.2 hb.size⟩
       obtain ⟨s2,p2,rfl⟩:=hv.form
       clear hb hv HW2 HX2 HZ2 HA2
       have hA:=(Below.refl w3.heap.size w3).alloc (Nat.le_refl _) (.cells #[.int .i64 s1,.pointer p1,.int .i64 s2,.pointer p2] 109)
       have HA4:=Lib.hid (HA3.out.kept (.all hA))
       have HB4:=Lib.hid (HB3.out.kept (.all hA))
       have HW4:=Lib.hid (HW3.out.trans (hA.mono HW3.out.size))
       have HX4:=Lib.hid (HX3.out.below hA HX3.out.lt)
       have HY4:=Lib.hid (B4.new w3 (.int .i64 s1) (.pointer p1) (.int .i64 s2) (.pointer p2) 109)
       have HZ4:Hid (True∧w.heap.size+1≤(w3.alloc (.cells #[.int .i64 s1,.pointer p1,.int .i64 s2,.pointer p2] 109)).heap.size):=Lib.hid ⟨trivial,Nat.le_trans HZ3.out.2 hA.size⟩
       clear hA HA3 HB3 HW3 HX3
       go_upto_region 9 with fail
       obtain ⟨g,hg⟩:∃ g,w3.heap.size=g:=⟨_,rfl⟩
       generalize w3.alloc (.cells #[.int .i64 s1,.pointer p1,.int .i64 s2,.pointer p2] 109)=w4 at *
       rw [hg] at HY4 HZ3 ⊢
       clear hg
       obtain ⟨c,hc⟩:∃ c,sgn2 b 1=c:=⟨_,rfl⟩
       obtain ⟨G,hG⟩:∃ G:Int,((Int.gcd a b:Nat):Int)=G:=⟨_,rfl⟩
       have HC:=Lib.hid (And.intro trivial hc)
       have HG:=Lib.hid (And.intro trivial hG)
       have hways:∃ (bad g1:Bool),decide (G=1)=g1∧((bad=true∧o=none∧c = -1)∨(bad=true∧o=none∧c=0)∨(bad=true∧o=none∧c=1∧g1=false)∨(bad=false∧o=some (Rat.divInt a b)∧c=1∧g1=true∧0<b∧Int.gcd a b=1)):=by
        have hv:=HV.out
        by_cases h1:1<b
        · have hc0:c=1:=by rw [← hc];unfold sgn2;rw [if_neg (by omega),if_pos h1]
          by_cases h2:Int.gcd a b=1
          · exact ⟨false,_,rfl,.inr (.inr (.inr ⟨rfl,by rw [hv,h2,decide_eq_true h1];rfl,hc0,decide_eq_true (by omega),by omega,h2⟩))⟩
          · exact ⟨true,_,rfl,.inr (.inr (.inl ⟨rfl,by rw [hv,decide_eq_true h1,beq_eq_false_iff_ne.2 h2];rfl,hc0,decide_eq_false (by omega)⟩))⟩
        · by_cases h3:b<1
          · exact ⟨true,_,rfl,.inl ⟨rfl,by rw [hv,decide_eq_false h1];rfl,by rw [← hc];unfold sgn2;rw [if_pos h3]⟩⟩
          · exact ⟨true,_,rfl,.inr (.inl ⟨rfl,by rw [hv,decide_eq_false h1];rfl,by rw [← hc];unfold sgn2;rw [if_neg h3,if_neg h1]⟩)⟩
       obtain ⟨bad,g1,hg1,hw⟩:=hways
       have HG1:Hid (True∧decide (G=1)=g1):=Lib.hid ⟨trivial,hg1⟩
       have HWY:=Lib.hid hw
       clear hc hG hg1 hw
       obtain ⟨c0,c1,c2,c3⟩:=HY4.out.cell
       go_cut [45] (fun t wx=>t = .bool bad∧Hid (Below w4.heap.size w4 wx))
       case first =>
        have HA5:=Lib.hid (HA4.out.kept (.drew _ _))
        have HB5:=Lib.hid (HB4.out.kept (.drew _ _))
        have HY5:=Lib.hid HY4.out.drew
        have HP5:Hid (∀ k,w4.heap.size≤k→Bar 1 P w k):=Lib.hid (fun k hk=>⟨HP.out k (by have:=HZ4.out.2;omega),.inr (by have:=HZ4.out.2;omega)⟩)
        rcases HWY.out with ⟨rfl,k1,rfl⟩ | ⟨rfl,k1,rfl⟩ | ⟨rfl,k1,rfl,rfl⟩ | ⟨rfl,k1,rfl,rfl,_⟩
        · clear k1 HWY
          first | go_region_with (first | (go_at_call 123;refine (Compare_any (Bar 1 P w) _ _ b 1 _ (fun k hk=>HP5.out k (by have:=hw5.size;omega)) (by exact hB5) (by exact hv5)).mono ?_;rintro e w6 ⟨rfl,hb6⟩;rw [HC.out.2];have hw6:=hw5.trans (hb6.mono hw5.size);have hB6:=hB5.kept (.all hb6);have hA6:=hA5.kept (.all hb6);have hY6:=hY5.below hb6 hY5.lt;obtain ⟨e0,e1,e2,e3⟩:=hY6.cell) | (go_at_call 124;refine (Of_int (Bar 1 P w) 1 (by omega) (by omega) _ (fun k hk=>HP5.out k (by exact hk))).mono ?_;rintro e w5 ⟨v5,rfl,hv5,hb5⟩;have hw5:=(Below.refl w4.heap.size w4).drew.trans hb5;have hB5:=HB5.out.kept (.all hb5);have hA5:=HA5.out.kept (.all hb5);have hY5:=HY5.out.below hb5 HY5.out.lt;obtain ⟨d0,d1,d2,d3⟩:=hY5.cell;obtain ⟨s5,p5,rfl⟩:=hv5.form)) | fail
          all_goals (go_wp2_with fail;go_meet;case rel=>exact ⟨rfl,Lib.hid hw6⟩)
        · clear k1 HWY
          first | go_region_with (first | (go_at_call 123;refine (Compare_any (Bar 1 P w) _ _ b 1 _ (fun k hk=>HP5.out k (by have:=hw5.size;omega)) (by exact hB5) (by exact hv5)).mono ?_;rintro e w6 ⟨rfl,hb6⟩;rw [HC.out.2];have hw6:=hw5.trans (hb6.mono hw5.size);have hB6:=hB5.kept (.all hb6);have hA6:=hA5.kept (.all hb6);have hY6:=hY5.below hb6 hY5.lt;obtain ⟨e0,e1,e2,e3⟩:=hY6.cell) | (go_at_call 124;refine (Of_int (Bar 1 P w) 1 (by omega) (by omega) _ (fun k hk=>HP5.out k (by exact hk))).mono ?_;rintro e w5 ⟨v5,rfl,hv5,hb5⟩;have hw5:=(Below.refl w4.heap.size w4).drew.trans hb5;have hB5:=HB5.out.kept (.all hb5);have hA5:=HA5.out.kept (.all hb5);have hY5:=HY5.out.below hb5 HY5.out.lt;obtain ⟨d0,d1,d2,d3⟩:=hY5.cell;obtain ⟨s5,p5,rfl⟩:=hv5.form)) | fail
          all_goals (go_wp2_with fail;go_meet;case rel=>exact ⟨rfl,Lib.hid hw6⟩)
        · clear k1 HWY
          first | go_region_with (first | (go_at_call 126;refine (IsOne_any (Bar 1 P w) _ G _ _ (by exact hv7) HG1).mono ?_;rintro e w8 ⟨rfl,hb8⟩;have hw8:=hw7.trans (hb8.mono hw7.size);have hY8:=hY7.below hb8 hY7.lt;obtain ⟨i0',i1',i2',i3'⟩:=hY8.cell) | (go_at_call 125;refine ((gcdIs a b HLL.out.1 HLL.out.2) (Bar 1 P w) _ _ _ (fun k hk=>HP5.out k (by have:=hw6.size;omega)) (by exact hA6) (by exact hB6)).mono ?_;rintro e w7 ⟨v7,rfl,hv7,hb7⟩;rw [HG.out.2] at hv7;have hw7:=hw6.trans (hb7.mono hw6.size);have hY7:=hY6.below hb7 hY6.lt;obtain ⟨g0',g1',g2',g3'⟩:=hY7.cell;obtain ⟨s7,p7,rfl⟩:=hv7.form) | (go_at_call 123;refine (Compare_any (Bar 1 P w) _ _ b 1 _ (fun k hk=>HP5.out k (by have:=hw5.size;omega)) (by exact hB5) (by exact hv5)).mono ?_;rintro e w6 ⟨rfl,hb6⟩;rw [HC.out.2];have hw6:=hw5.trans (hb6.mono hw5.size);have hB6:=hB5.kept (.all hb6);have hA6:=hA5.kept (.all hb6);have hY6:=hY5.below hb6 hY5.lt;obtain ⟨e0,e1,e2,e3⟩:=hY6.cell) | (go_at_call 124;refine (Of_int (Bar 1 P w) 1 (by omega) (by omega) _ (fun k hk=>HP5.out k (by exact hk))).mono ?_;rintro e w5 ⟨v5,rfl,hv5,hb5⟩;have hw5:=(Below.refl w4.heap.size w4).drew.trans hb5;have hB5:=HB5.out.kept (.all hb5);have hA5:=HA5.out.kept (.all hb5);have hY5:=HY5.out.below hb5 HY5.out.lt;obtain ⟨d0,d1,d2,d3⟩:=hY5.cell;obtain ⟨s5,p5,rfl⟩:=hv5.form)) | fail
          all_goals (go_wp2_with fail;go_meet;case rel=>exact ⟨rfl,Lib.hid hw8⟩)
        · clear k1 HWY
          first | go_region_with (first | (go_at_call 126;refine (IsOne_any (Bar 1 P w) _ G _ _ (by exact hv7) HG1).mono ?_;rintro e w8 ⟨rfl,hb8⟩;have hw8:=hw7.trans (hb8.mono hw7.size);have hY8:=hY7.below hb8 hY7.lt;obtain ⟨i0',i1',i2',i3'⟩:=hY8.cell) | (go_at_call 125;refine ((gcdIs a b HLL.out.1 HLL.out.2) (Bar 1 P w) _ _ _ (fun k hk=>HP5.out k (by have:=hw6.size;omega)) (by exact hA6) (by exact hB6)).mono ?_;rintro e w7 ⟨v7,rfl,hv7,hb7⟩;rw [HG.out.2] at hv7;have hw7:=hw6.trans (hb7.mono hw6.size);have hY7:=hY6.below hb7 hY6.lt;obtain ⟨g0',g1',g2',g3'⟩:=hY7.cell;obtain ⟨s7,p7,rfl⟩:=hv7.form) | (go_at_call 123;refine (Compare_any (Bar 1 P w) _ _ b 1 _ (fun k hk=>HP5.out k (by have:=hw5.size;omega)) (by exact hB5) (by exact hv5)).mono ?_;rintro e w6 ⟨rfl,hb6⟩;rw [HC.out.2];have hw6:=hw5.trans (hb6.mono hw5.size);have hB6:=hB5.kept (.all hb6);have hA6:=hA5.kept (.all hb6);have hY6:=hY5.below hb6 hY5.lt;obtain ⟨e0,e1,e2,e3⟩:=hY6.cell) | (go_at_call 124;refine (Of_int (Bar 1 P w) 1 (by omega) (by omega) _ (fun k hk=>HP5.out k (by exact hk))).mono ?_;rintro e w5 ⟨v5,rfl,hv5,hb5⟩;have hw5:=(Below.refl w4.heap.size w4).drew.trans hb5;have hB5:=HB5.out.kept (.all hb5);have hA5:=HA5.out.kept (.all hb5);have hY5:=HY5.out.below hb5 HY5.out.lt;obtain ⟨d0,d1,d2,d3⟩:=hY5.cell;obtain ⟨s5,p5,rfl⟩:=hv5.form)) | fail
          all_goals (go_wp2_with fail;go_meet;case rel=>exact ⟨rfl,Lib.hid hw8⟩)
       case rest =>
       obtain ⟨rfl,HBX⟩:=hcut
       clear c0 c1 c2 c3
       have HX9:=Lib.hid (HX4.out.below HBX.out HX4.out.lt)
       have HY9:=Lib.hid (HY4.out.below HBX.out HY4.out.lt)
       have HW9:=Lib.hid (HW4.out.trans (HBX.out.mono HW4.out.size))
       have HA9:=Lib.hid (HA4.out.kept (.all HBX.out))
       have HB9:=Lib.hid (HB4.out.kept (.all HBX.out))
       have hsplit:(bad=true∧o=none)∨(bad=false∧o=some (Rat.divInt a b)∧0<b∧Int.gcd a b=1):=by
        rcases HWY.out with ⟨h,k,_⟩ | ⟨h,k,_⟩ | ⟨h,k,_⟩ | ⟨h,k,_,_,h2⟩
        · exact .inl ⟨h,k⟩
        · exact .inl ⟨h,k⟩
        · exact .inl ⟨h,k⟩
        · exact .inr ⟨h,k,h2⟩
       clear HWY HX4 HY4 HW4 HA4 HB4
       rcases hsplit with ⟨rfl,ho1⟩ | ⟨rfl,ho1,hb0,hg0⟩
       · have HNONE:=Lib.hid ho1
         clear ho1
         obtain ⟨c0,c1,c2,c3⟩:=HX9.out.cell
         obtain ⟨f0,f1,f2,f3⟩:=HX9.out.froz
         go_wp2
         obtain ⟨l0,l1,l2,l3⟩:=(HX9.out.put (.int .i64 0) (.pointer none) (.int .i64 0) (.pointer none)).cell
         refine bodyPost_ret (v := .tuple #[.agg #[.int .i64 0,.pointer none,.int .i64 0,.pointer none],.bool false]) (by simp only [results,Tryz.results82];simp [go_sem,l0,l1,l2,l3]) rfl ?_
         exact RdPost.zero HNONE.out HW9.out (Nat.le_refl _)
       · have HSOME:=Lib.hid ho1
         have hlow:=divInt_low a b hb0 hg0
         have HV9:Hid (IsFr (Bar 1 P w) wc (.agg #[.int .i64 s1,.pointer p1,.int .i64 s2,.pointer p2]) (Rat.divInt a b)):=Lib.hid ⟨s1,p1,s2,p2,rfl,by rw [hlow.1];exact HA9.out,by rw [hlow.2];exact HB9.out⟩
         clear ho1 hlow hb0 hg0
         obtain ⟨c0,c1,c2,c3⟩:=HX9.out.cell
         obtain ⟨f0,f1,f2,f3⟩:=HX9.out.froz
         obtain ⟨d0,d1,d2,d3⟩:=HY9.out.cell
         go_wp2
         obtain ⟨l0,l1,l2,l3⟩:=(HX9.out.put (.int .i64 s1) (.pointer p1) (.int .i64 s2) (.pointer p2)).cell
         refine bodyPost_ret (v := .tuple #[.agg #[.int .i64 s1,.pointer p1,.int .i64 s2,.pointer p2],.bool true]) (by simp only [results,Tryz.results82];simp [go_sem,l0,l1,l2,l3]) rfl ?_
         exact RdPost.full HSOME.out HW9.out (Nat.le_refl _) (HV9.out.mono (fun k _ hk=>⟨hk.1,by have:=hk.2;omega⟩))
end Go.Proofs.YtkhdocdddicgpaaGreatDoor
