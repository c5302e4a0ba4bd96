/- Part 11: what the law's walk leans on. -/
import Derived.Test.YtkhdocdddicgpaaGreatDoorYt10
import Derived.Deep.RegionHeld3
import Derived.Deep.RegionWith
import Derived.BigQuiet
import Derived.Test.YtkhdocdddicgpaaGreatDoorYt6
set_option linter.unusedVariables false
set_option linter.unusedSimpArgs false
namespace Go.Proofs.YtkhdocdddicgpaaGreatDoor
open Go.RowKit _root_.Go.Proofs.YtkhdocdddicgpaaGreatDoor.Nm
def B4 (w:World) (g:Nat) (a b c d:Value):Prop:=∃ T,w.heap[g]?=some (.cells #[a,b,c,d] T (0,0))
theorem B4.cell {w:World} {g:Nat} {a b c d:Value} (h:B4 w g a b c d):w.cell? ⟨g,0,none⟩=some a∧w.cell? ⟨g,1,none⟩=some b∧w.cell? ⟨g,2,none⟩=some c∧w.cell? ⟨g,3,none⟩=some d:=by
 obtain ⟨T,h⟩:=h
 simp [World.cell?,h]
theorem B4.froz {w:World} {g:Nat} {a b c d:Value} (h:B4 w g a b c d):w.frozen? ⟨g,0,none⟩=false∧w.frozen? ⟨g,1,none⟩=false∧w.frozen? ⟨g,2,none⟩=false∧w.frozen? ⟨g,3,none⟩=false:=by
 obtain ⟨T,h⟩:=h
 simp [World.frozen?,h]
theorem B4.lt {w:World} {g:Nat} {a b c d:Value} (h:B4 w g a b c d):g<w.heap.size:=by
 obtain ⟨T,h⟩:=h
 rcases Nat.lt_or_ge g w.heap.size with h' | h'
 · exact h'
 · simp [Array.getElem?_eq_none h'] at h
theorem B4.below {w w':World} {g B:Nat} {a b c d:Value} (h:B4 w g a b c d) (hb:Below B w w') (hg:g<B):B4 w' g a b c d:=by
 obtain ⟨T,h⟩:=h
 exact ⟨T,by rw [hb.block g hg];exact h⟩
theorem B4.only {w w':World} {g b:Nat} {a e c d:Value} (h:B4 w g a e c d) (hb:Only b w w') (hg:g≠b):B4 w' g a e c d:=by
 obtain ⟨T,h⟩:=h
 exact ⟨T,by rw [hb.block g hg];exact h⟩
theorem B4.new (w:World) (a b c d:Value) (T:TypeId):B4 (w.alloc (.cells #[a,b,c,d] T)) w.heap.size a b c d:=⟨T,heap_alloc_new _ _⟩
theorem B4.drew {w:World} {g:Nat} {a b c d:Value} (h:B4 w g a b c d):B4 w.drew g a b c d:=h
abbrev set4 (w:World) (g:Nat) (a b c d:Value):World:=(((w.setCell ⟨g,0,none⟩ a).setCell ⟨g,1,none⟩ b).setCell ⟨g,2,none⟩ c).setCell ⟨g,3,none⟩ d
theorem set4_only (w:World) (g:Nat) (a b c d:Value):Only g w (set4 w g a b c d):=((((Only.refl g w).set 0 a).set 1 b).set 2 c).set 3 d
theorem B4.put0 {w:World} {g:Nat} {a b c d:Value} (h:B4 w g a b c d) (a':Value):B4 (w.setCell ⟨g,0,none⟩ a') g a' b c d:=by
 have hlt:=h.lt
 obtain ⟨T,h⟩:=h
 rw [Array.getElem?_eq_getElem hlt] at h
 have h:=Option.some.inj h
 refine ⟨T,?_⟩
 show (w.heap.modify g _)[g]?=_
 rw [Array.getElem?_eq_getElem (by simpa using hlt),Array.getElem_modify_self,h]
 simp
theorem B4.put1 {w:World} {g:Nat} {a b c d:Value} (h:B4 w g a b c d) (b':Value):B4 (w.setCell ⟨g,1,none⟩ b') g a b' c d:=by
 have hlt:=h.lt
 obtain ⟨T,h⟩:=h
 rw [Array.getElem?_eq_getElem hlt] at h
 have h:=Option.some.inj h
 refine ⟨T,?_⟩
 show (w.heap.modify g _)[g]?=_
 rw [Array.getElem?_eq_getElem (by simpa using hlt),Array.getElem_modify_self,h]
 simp
theorem B4.put2 {w:World} {g:Nat} {a b c d:Value} (h:B4 w g a b c d) (c':Value):B4 (w.setCell ⟨g,2,none⟩ c') g a b c' d:=by
 have hlt:=h.lt
 obtain ⟨T,h⟩:=h
 rw [Array.getElem?_eq_getElem hlt] at h
 have h:=Option.some.inj h
 refine ⟨T,?_⟩
 show (w.heap.modify g _)[g]?=_
 rw [Array.getElem?_eq_getElem (by simpa using hlt),Array.getElem_modify_self,h]
 simp
theorem B4.put3 {w:World} {g:Nat} {a b c d:Value} (h:B4 w g a b c d) (d':Value):B4 (w.setCell ⟨g,3,none⟩ d') g a b c d':=by
 have hlt:=h.lt
 obtain ⟨T,h⟩:=h
 rw [Array.getElem?_eq_getElem hlt] at h
 have h:=Option.some.inj h
 refine ⟨T,?_⟩
 show (w.heap.modify g _)[g]?=_
 rw [Array.getElem?_eq_getElem (by simpa using hlt),Array.getElem_modify_self,h]
 simp
theorem B4.put {w:World} {g:Nat} {a b c d:Value} (h:B4 w g a b c d) (a' b' c' d':Value):B4 (set4 w g a' b' c' d') g a' b' c' d':=(((h.put0 a').put1 b').put2 c').put3 d'
def IsFr (P:Nat→Prop) (w:World) (v:Value) (q:Rat):Prop :=
 ∃ s1 p1 s2 p2,v = .agg #[.int .i64 s1,.pointer p1,.int .i64 s2,.pointer p2]∧IsInt P w (.agg #[.int .i64 s1,.pointer p1]) q.num∧IsInt P w (.agg #[.int .i64 s2,.pointer p2]) q.den
theorem IsFr.kept {P:Nat→Prop} {w w':World} {v:Value} {q:Rat} (h:IsFr P w v q) (hk:Kept P w w'):IsFr P w' v q:=by
 obtain ⟨s1,p1,s2,p2,h1,h2,h3⟩:=h
 exact ⟨s1,p1,s2,p2,h1,h2.kept hk,h3.kept hk⟩
theorem IsFr.mono {P Q:Nat→Prop} {w:World} {v:Value} {q:Rat} (h:IsFr P w v q) (hq:∀ k,k<w.heap.size→P k→Q k):IsFr Q w v q:=by
 obtain ⟨s1,p1,s2,p2,h1,h2,h3⟩:=h
 exact ⟨s1,p1,s2,p2,h1,h2.mono hq,h3.mono hq⟩
def FrPost (P:Nat→Prop) (q:Rat) (w:World) (e:Ending) (w':World):Prop:=∃ v,e = .returned v∧IsFr P w' v q∧Below w.heap.size w w'
theorem FrPost.boxed {P:Nat→Prop} {q:Rat} {w w1:World} {v a b c d:Value} {g:Nat} (hb:Below w.heap.size w w1) (hg:w.heap.size≤g) (hn:IsFr (fun k=>P k∧k≠g) w1 v q) :
 FrPost P q w (.returned v) (set4 w1 g a b c d) :=
 ⟨v,rfl,(hn.kept (.only (set4_only w1 g a b c d) (fun h=>h.2 rfl))).mono (fun k _ hk=>hk.1),hb.trans ((set4_only w1 g a b c d).below hg)⟩
set_option maxRecDepth 100000 in
set_option maxHeartbeats 3200000 in
theorem reduced_any (P:Nat→Prop) (x y:Value) (a b:Int) (q:Rat) (w:World) (hP:∀ k,w.heap.size≤k→P k) (ha:IsInt P w x a) (hb:IsInt P w y b) (hb0:b≠0)
 (la:(ds 1000000000 a.natAbs).length≤900) (lb:(ds 1000000000 b.natAbs).length≤900) (hq:Hid (Rat.divInt a b=q)) :
 Calls Tryz.prog 142 #[x,y] w (FrPost P q w):=by
 obtain ⟨s1,p1,rfl⟩:=ha.form
 obtain ⟨s2,p2,rfl⟩:=hb.form
 have HP:=Lib.hid hP
 have hA:Below w.heap.size w (((w.alloc (.cells #[.int .i64 s1,.pointer p1] 107)).alloc (.cells #[.int .i64 s2,.pointer p2] 107)).alloc (.cells #[.int .i64 0,.pointer none,.int .i64 0,.pointer none] 109)):=boxes3 _ _ _ _
 have HA:=Lib.hid (ha.bar (m:=3) hA)
 have HB:=Lib.hid (hb.bar (m:=3) hA)
 have HW0:=Lib.hid hA
 have hb1:=((Bx.new w (.int .i64 s1) (.pointer p1) 107).alloc (.cells #[.int .i64 s2,.pointer p2] 107)).alloc (.cells #[.int .i64 0,.pointer none,.int .i64 0,.pointer none] 109)
 have hb2:=(second_box w (.cells #[.int .i64 s1,.pointer p1] 107) (.int .i64 s2) (.pointer p2) 107 ()).alloc (.cells #[.int .i64 0,.pointer none,.int .i64 0,.pointer none] 109)
 have hb3:=B4.new ((w.alloc (.cells #[.int .i64 s1,.pointer p1] 107)).alloc (.cells #[.int .i64 s2,.pointer p2] 107)) (.int .i64 0) (.pointer none) (.int .i64 0) (.pointer none) 109
 rw [World.size_alloc,World.size_alloc] at hb3
 have HX1:=Lib.hid hb1
 have HX2:=Lib.hid hb2
 have HX3:=Lib.hid hb3
 have HBZ:=Lib.hid hb0
 have HLL:=Lib.hid (And.intro la lb)
 have HQ:Hid ((Rat.divInt a b).num=q.num∧((Rat.divInt a b).den:Int)=q.den):=Lib.hid (by rw [hq.out];exact ⟨rfl,rfl⟩)
 clear ha hb hb0 la lb hP hA hb1 hb2 hb3
 go_enter Tryz.func142,Tryz.ntmps142
 go_wp2_with fail
 refine (Reduced_any (Bar 3 P w) _ _ a b q.num q.den _ (fun k hk=>⟨HP.out k (by simp at hk;omega),.inr (by simp at hk;omega)⟩) HA.out HB.out HBZ.out HLL.out.1 HLL.out.2 HQ.out.1 HQ.out.2).mono ?_
 rintro e w1 ⟨s3,p3,s4,p4,rfl,hn,hd,hb⟩
 have hB:∀ k,k<w.heap.size+3→k<(((w.alloc (.cells #[.int .i64 s1,.pointer p1] 107)).alloc (.cells #[.int .i64 s2,.pointer p2] 107)).alloc (.cells #[.int .i64 0,.pointer none,.int .i64 0,.pointer none] 109)).heap.size:=fun k hk=>by simp;omega
 have HY1:=Lib.hid (HX1.out.below hb (hB _ (by omega)))
 have HY2:=Lib.hid (HX2.out.below hb (hB _ (by omega)))
 have HY3:=Lib.hid (HX3.out.below hb (hB _ (by omega)))
 have HW1:=Lib.hid (HW0.out.trans (hb.mono (by simp;omega)))
 have HN:=Lib.hid hn
 have HD:=Lib.hid hd
 clear hn hd hb hB HX1 HX2 HX3 HA HB HW0
 obtain ⟨c0,c1,c2,c3⟩:=HY1.out.cell
 obtain ⟨d0,d1,d2,d3⟩:=HY2.out.cell
 obtain ⟨e0,e1,e2,e3⟩:=HY3.out.cell
 obtain ⟨f0,f1,f2,f3⟩:=HY3.out.froz
 have n1:w.heap.size+1≠w.heap.size:=by omega
 have n2:w.heap.size+1+1≠w.heap.size:=by omega
 have n3:w.heap.size+1+1≠w.heap.size+1:=by omega
 have o1:=((Only.refl w.heap.size w1).set 0 (.int .i64 s3)).set 1 (.pointer p3)
 have o2:=((Only.refl (w.heap.size+1) ((w1.setCell ⟨w.heap.size,0,none⟩ (.int .i64 s3)).setCell ⟨w.heap.size,1,none⟩ (.pointer p3))).set 0 (.int .i64 s4)).set 1 (.pointer p4)
 have HN2:Hid (IsFr (fun k=>P k∧k≠w.heap.size+1+1) ((((w1.setCell ⟨w.heap.size,0,none⟩ (.int .i64 s3)).setCell ⟨w.heap.size,1,none⟩ (.pointer p3)).setCell ⟨w.heap.size+1,0,none⟩ (.int .i64 s4)).setCell ⟨w.heap.size+1,1,none⟩ (.pointer p4)) (.agg #[.int .i64 s3,.pointer p3,.int .i64 s4,.pointer p4]) q):=Lib.hid
  ⟨s3,p3,s4,p4,rfl,(((HN.out.kept (.only o1 (by rintro ⟨_,h⟩;omega))).kept (.only o2 (by rintro ⟨_,h⟩;omega))).mono (fun k _ hk=>⟨hk.1,by have:=hk.2;omega⟩)),(((HD.out.kept (.only o1 (by rintro ⟨_,h⟩;omega))).kept (.only o2 (by rintro ⟨_,h⟩;omega))).mono (fun k _ hk=>⟨hk.1,by have:=hk.2;omega⟩))⟩
 have HX3:=Lib.hid ((HY3.out.only o1 (by omega)).only o2 (by omega))
 have HW3:=Lib.hid ((HW1.out.trans (o1.below (Nat.le_refl _))).trans (o2.below (by omega)))
 clear o1 o2 HN HD HY1 HY2 HY3 HW1
 go_wp2
 obtain ⟨l0,l1,l2,l3⟩:=(HX3.out.put (.int .i64 s3) (.pointer p3) (.int .i64 s4) (.pointer p4)).cell
 refine bodyPost_ret (v := .agg #[.int .i64 s3,.pointer p3,.int .i64 s4,.pointer p4]) (by simp only [results,Tryz.results142];simp [go_sem,l0,l1,l2,l3]) rfl ?_
 exact FrPost.boxed HW3.out (by omega) HN2.out
end Go.Proofs.YtkhdocdddicgpaaGreatDoor
set_option linter.unusedVariables false
set_option linter.unusedSimpArgs false
namespace Go.Proofs.YtkhdocdddicgpaaGreatDoor
open Go.RowKit _root_.Go.Proofs.YtkhdocdddicgpaaGreatDoor.Nm
set_option maxRecDepth 100000 in
set_option maxHeartbeats 3200000 in
theorem whole_any (P:Nat→Prop) (x:Value) (z:Int) (q:Rat) (w:World) (hP:∀ k,w.heap.size≤k→P k) (hx:IsInt P w x z) (hq:Hid ((z:Rat)=q)) :
 Calls Tryz.prog 121 #[x] w (FrPost P q w):=by
 obtain ⟨s1,p1,rfl⟩:=hx.form
 have HP:=Lib.hid hP
 have hA:Below w.heap.size w ((w.alloc (.cells #[.int .i64 s1,.pointer p1] 107)).alloc (.cells #[.int .i64 0,.pointer none,.int .i64 0,.pointer none] 109)).drew:=(boxes2 _ _ _).drew
 have HA:=Lib.hid (hx.bar (m:=2) hA)
 have HW0:=Lib.hid hA
 have hb1:=((Bx.new w (.int .i64 s1) (.pointer p1) 107).alloc (.cells #[.int .i64 0,.pointer none,.int .i64 0,.pointer none] 109)).drew
 have hb3:=(B4.new (w.alloc (.cells #[.int .i64 s1,.pointer p1] 107)) (.int .i64 0) (.pointer none) (.int .i64 0) (.pointer none) 109).drew
 rw [World.size_alloc] at hb3
 have HX1:=Lib.hid hb1
 have HX3:=Lib.hid hb3
 have HQ:Hid (z=q.num∧(1:Int)=q.den):=Lib.hid (by rw [← hq.out];exact ⟨(Rat.num_intCast z).symm,by rw [Rat.den_intCast];rfl⟩)
 rw [HQ.out.1] at HA
 clear hx hP hA hb1 hb3
 obtain ⟨c0,c1,c2,c3⟩:=HX1.out.cell
 have n1:w.heap.size≠w.heap.size+1:=by omega
 go_enter Tryz.func121,Tryz.ntmps121
 go_wp2_with fail
 go_region_held3 (fun w'=>w'.cell? ⟨w.heap.size,0,none⟩=some (.int .i64 s1)∧w'.cell? ⟨w.heap.size,1,none⟩=some (.pointer p1)) (first | ((try dsimp only);(repeat' apply And.intro);all_goals with_reducible assumption) | go_keep) (first | (go_at_call 124;refine (Of_int (Bar 2 P w) 1 (by omega) (by omega) _ (fun k hk=>⟨HP.out k (by simp at hk;omega),.inr (by simp at hk;omega)⟩)).mono ?_;rintro e w1 ⟨v1,rfl,hv1,hb⟩;have hY1:=HX1.out.below hb HX1.out.lt;have hY3:=HX3.out.below hb HX3.out.lt;have hA1:=HA.out.kept (.all hb);have hw1:=HW0.out.trans (hb.mono HW0.out.size);clear c0 c1 c2 c3;rw [HQ.out.2] at hv1;obtain ⟨s2,p2,rfl⟩:=hv1.form;obtain ⟨d0,d1,d2,d3⟩:=hY1.cell;obtain ⟨e0,e1,e2,e3⟩:=hY3.cell;obtain ⟨f0,f1,f2,f3⟩:=hY3.froz;have t0:=((set4_only w1 (w.heap.size+1) (.int .i64 s1) (.pointer p1) (.int .i64 s2) (.pointer p2)).cell w.heap.size 0 (by omega)).trans d0;have t1:=((set4_only w1 (w.heap.size+1) (.int .i64 s1) (.pointer p1) (.int .i64 s2) (.pointer p2)).cell w.heap.size 1 (by omega)).trans d1))
 have HN2:Hid (IsFr (fun k=>P k∧k≠w.heap.size+1) w1 (.agg #[.int .i64 s1,.pointer p1,.int .i64 s2,.pointer p2]) q):=Lib.hid ⟨s1,p1,s2,p2,rfl,hA1.mono (fun k _ hk=>⟨hk.1,by have:=hk.2;omega⟩),hv1.mono (fun k _ hk=>⟨hk.1,by have:=hk.2;omega⟩)⟩
 have HY3:=Lib.hid hY3
 have HW1:=Lib.hid hw1
 clear hY3 hw1 hA1 hv1 hY1 d0 d1 d2 d3 e0 e1 e2 e3 f0 f1 f2 f3 t0 t1 HX1 HX3 HA HW0
 go_wp2
 obtain ⟨l0,l1,l2,l3⟩:=(HY3.out.put (.int .i64 s1) (.pointer p1) (.int .i64 s2) (.pointer p2)).cell
 refine bodyPost_ret (v := .agg #[.int .i64 s1,.pointer p1,.int .i64 s2,.pointer p2]) (by simp only [results,Tryz.results121];simp [go_sem,l0,l1,l2,l3]) rfl ?_
 exact FrPost.boxed HW1.out (by omega) HN2.out
end Go.Proofs.YtkhdocdddicgpaaGreatDoor
set_option linter.unusedVariables false
set_option linter.unusedSimpArgs false
namespace Go.Proofs.YtkhdocdddicgpaaGreatDoor
open Go.RowKit _root_.Go.Proofs.YtkhdocdddicgpaaGreatDoor.Nm
theorem Text_is (P:Nat→Prop) (x:Value) (z:Int) (s:ByteArray) (w:World) (hx:IsInt P w x z) (ln:(ds 1000000000 z.natAbs).length≤1000) (hs:Hid (True∧s=⟨(Lib.itoa z).toArray⟩)) (htab:Tab w) :
 Calls Tryz.prog 172 #[x] w fun e w'=>e = .returned (.string s)∧Below w.heap.size w w':=by
 have h:=Text_any P x z w hx ln htab
 rw [hs.out.2]
 exact h
theorem rt_one (q:Rat) (h:(q.den:Int)=1):(⟨(rt q).toArray⟩:ByteArray)=⟨(Lib.itoa q.num).toArray⟩:=by
 unfold rt
 rw [if_pos (by omega)]
theorem rt_more (q:Rat) (h:(q.den:Int)≠1) (s t:ByteArray) (hs:s=⟨(Lib.itoa q.num).toArray⟩) (ht:t=⟨(Lib.itoa (q.den:Int)).toArray⟩):(s++(⟨#[47]⟩:ByteArray))++t=⟨(rt q).toArray⟩:=by
 unfold rt
 rw [if_neg (by omega),hs,ht]
 apply ByteArray.ext
 simp [ByteArray.append_eq,ByteArray.data_append]
def TextIs (q:Rat) (s:ByteArray) (r:Bool):Prop:=(rshort q=true∧r=true∧s=⟨(rt q).toArray⟩)∨(rshort q=false∧r=false∧s=⟨#[]⟩)
theorem TextIs.bad {q:Rat} {s:ByteArray} {r:Bool} (h:TextIs q s r) (hs:rshort q=false):r=false∧s=⟨#[]⟩:=by
 rcases h with ⟨h,_⟩ | ⟨_,h1,h2⟩
 · rw [hs] at h;cases h
 · exact ⟨h1,h2⟩
theorem TextIs.good {q:Rat} {s:ByteArray} {r:Bool} (h:TextIs q s r) (hs:rshort q=true):r=true∧s=⟨(rt q).toArray⟩:=by
 rcases h with ⟨_,h1,h2⟩ | ⟨h,_⟩
 · exact ⟨h1,h2⟩
 · rw [hs] at h;cases h
theorem TextIs.ex (q:Rat):∃ s r,TextIs q s r:=by
 cases h:rshort q
 · exact ⟨_,_,.inr ⟨h,rfl,rfl⟩⟩
 · exact ⟨_,_,.inl ⟨h,rfl,rfl⟩⟩
set_option maxRecDepth 100000 in
set_option maxHeartbeats 3200000 in
theorem text_any (P:Nat→Prop) (x:Value) (q:Rat) (s:ByteArray) (r:Bool) (w:World) (hx:IsFr P w x q) (ht:Hid (TextIs q s r)) (ln:(ds 1000000000 q.num.natAbs).length≤1000) (ld:(ds 1000000000 q.den).length≤1000) (htab:Tab w) :
 Calls Tryz.prog 143 #[x] w fun e w'=>e = .returned (.tuple #[.string s,.bool r])∧Below w.heap.size w w':=by
 obtain ⟨s1,p1,s2,p2,rfl,hn,hd⟩:=hx
 have hA:Below w.heap.size w (w.alloc (.cells #[.int .i64 s1,.pointer p1,.int .i64 s2,.pointer p2] 109)).drew:=((Below.refl _ _).alloc (Nat.le_refl _) _).drew
 have HN:=Lib.hid (hn.kept (.all hA))
 have HD:=Lib.hid (hd.kept (.all hA))
 have HW0:=Lib.hid hA
 have HX1:=Lib.hid (B4.new w (.int .i64 s1) (.pointer p1) (.int .i64 s2) (.pointer p2) 109).drew
 have HT:=Lib.hid htab
 obtain ⟨SN,hSN⟩:∃ u:ByteArray,u=⟨(Lib.itoa q.num).toArray⟩:=⟨_,rfl⟩
 obtain ⟨SD,hSD⟩:∃ u:ByteArray,u=⟨(Lib.itoa (q.den:Int)).toArray⟩:=⟨_,rfl⟩
 have HSN:=Lib.hid (And.intro trivial hSN)
 have HSD:=Lib.hid (And.intro trivial hSD)
 have HLN:=Lib.hid (And.intro ln (show (ds 1000000000 ((q.den:Nat):Int).natAbs).length≤1000 from ld))
 clear hn hd hA htab hSN hSD ln ld
 obtain ⟨c0,c1,c2,c3⟩:=HX1.out.cell
 go_enter Tryz.func143,Tryz.ntmps143
 go_wp2_with fail
 go_region_held3 (fun w'=>w'.cell? ⟨w.heap.size,0,none⟩=some (.int .i64 s1)∧w'.cell? ⟨w.heap.size,1,none⟩=some (.pointer p1)∧w'.cell? ⟨w.heap.size,2,none⟩=some (.int .i64 s2)∧w'.cell? ⟨w.heap.size,3,none⟩=some (.pointer p2)) (first | ((try dsimp only);(repeat' apply And.intro);all_goals with_reducible assumption) | go_keep) (first | (go_at_call 172;have hgd:=hw1;clear hgd;refine (Text_is P _ q.den SD _ (by exact hA1) HLN.out.2 HSD (by exact tab_keep HT.out hw1)).mono ?_;rintro e w2 ⟨rfl,hb2⟩;have hY2:=hY1.below hb2 hY1.lt;have hA2:=hA1.kept (.all hb2);have hw2:=hw1.trans (hb2.mono hw1.size);clear d0 d1 d2 d3;obtain ⟨e0,e1,e2,e3⟩:=hY2.cell) | (go_at_call 172;refine (Text_is P _ q.num SN _ (by exact HN.out) HLN.out.1 HSN (by exact tab_keep HT.out HW0.out)).mono ?_;rintro e w1 ⟨rfl,hb⟩;have hY1:=HX1.out.below hb HX1.out.lt;have hA1:=HD.out.kept (.all hb);have hw1:=HW0.out.trans (hb.mono HW0.out.size);clear c0 c1 c2 c3;obtain ⟨d0,d1,d2,d3⟩:=hY1.cell))
 have HY2:=Lib.hid hY2
 have HW2:=Lib.hid hw2
 have HA2:=Lib.hid hA2
 clear hY2 hw2 hA2 hA1 hw1 hY1 hb hb2 HX1 HN HD HW0 e0 e1 e2 e3
 cases kn:canon (Lib.itoa q.num)
 · have KN:Hid (canon SN.data.toList=false):=Lib.hid (by rw [HSN.out.2];exact kn)
   have hb:r=false∧s=⟨#[]⟩:=ht.out.bad (by unfold rshort;rw [kn];rfl)
   obtain ⟨rfl,rfl⟩:=hb
   clear kn
   go_wp2_with fail
   refine (Valid_to SN _ KN _).mono ?_
   rintro e w9 ⟨rfl,rfl⟩
   go_wp2
   go_ret2
   exact ⟨rfl,HW2.out⟩
 · cases kd:canon (Lib.itoa (q.den:Int))
   · have KN:Hid (canon SN.data.toList=true):=Lib.hid (by rw [HSN.out.2];exact kn)
     have KD:Hid (canon SD.data.toList=false):=Lib.hid (by rw [HSD.out.2];exact kd)
     have hb:r=false∧s=⟨#[]⟩:=ht.out.bad (by unfold rshort;rw [kn,kd];rfl)
     obtain ⟨rfl,rfl⟩:=hb
     clear kn kd
     go_wp2_with fail
     refine (Valid_to SN _ KN _).mono ?_
     rintro e w9 ⟨rfl,rfl⟩
     go_wp2_with fail
     refine (Valid_to SD _ KD _).mono ?_
     rintro e w9 ⟨rfl,rfl⟩
     go_wp2
     go_ret2
     exact ⟨rfl,HW2.out⟩
   · have KN:Hid (canon SN.data.toList=true):=Lib.hid (by rw [HSN.out.2];exact kn)
     have KD:Hid (canon SD.data.toList=true):=Lib.hid (by rw [HSD.out.2];exact kd)
     have hb:r=true∧s=⟨(rt q).toArray⟩:=ht.out.good (by unfold rshort;rw [kn,kd];rfl)
     obtain ⟨rfl,hs⟩:=hb
     have HS:=Lib.hid (And.intro trivial hs)
     clear kn kd hs
     by_cases h1:(q.den:Int)=1
     · have HONE:Hid (True∧decide ((q.den:Int)=1)=true):=Lib.hid ⟨trivial,decide_eq_true h1⟩
       obtain rfl:SN=s:=by rw [HS.out.2,rt_one q h1,HSN.out.2]
       clear h1
       obtain ⟨e0,e1,e2,e3⟩:=HY2.out.cell
       go_wp2_with fail
       refine (Valid_to SN _ KN _).mono ?_
       rintro e w9 ⟨rfl,rfl⟩
       go_wp2_with fail
       refine (Valid_to SD _ KD _).mono ?_
       rintro e w9 ⟨rfl,rfl⟩
       go_wp2_with fail
       refine (IsOne_any P _ (q.den:Int) true _ HA2.out HONE).mono ?_
       rintro e w3 ⟨rfl,hb⟩
       have HW3:=Lib.hid (HW2.out.trans (hb.mono HW2.out.size))
       clear hb
       go_wp2
       go_ret2
       exact ⟨rfl,HW3.out⟩
     · have HONE:Hid (True∧decide ((q.den:Int)=1)=false):=Lib.hid ⟨trivial,decide_eq_false h1⟩
       have HSS:Hid (True∧(SN++(⟨#[47]⟩:ByteArray))++SD=s):=Lib.hid ⟨trivial,by rw [HS.out.2];exact rt_more q h1 SN SD HSN.out.2 HSD.out.2⟩
       have hz1:=canon_size SN KN.out
       have hz2:=canon_size SD KD.out
       have hz3:¬ (9223372036854775807:Int)<SN.size+1:=by omega
       have hz4:¬ (9223372036854775807:Int)<SN.size+1+SD.size:=by omega
       clear h1
       obtain ⟨e0,e1,e2,e3⟩:=HY2.out.cell
       go_wp2_with fail
       refine (Valid_to SN _ KN _).mono ?_
       rintro e w9 ⟨rfl,rfl⟩
       go_wp2_with fail
       refine (Valid_to SD _ KD _).mono ?_
       rintro e w9 ⟨rfl,rfl⟩
       go_wp2_with fail
       refine (IsOne_any P _ (q.den:Int) false _ HA2.out HONE).mono ?_
       rintro e w3 ⟨rfl,hb⟩
       have HW3:=Lib.hid (HW2.out.trans (hb.mono HW2.out.size))
       clear hb
       go_wp2
       go_ret2
       exact ⟨by rw [← HSS.out.2];rfl,HW3.out⟩
def QuoIs (a b:Int) (s:ByteArray) (e:Int):Prop:=(b=0∧s=⟨#[]⟩∧e=24)∨(b≠0∧rshort (Rat.divInt a b)=true∧s=⟨(rt (Rat.divInt a b)).toArray⟩∧e=0)∨(b≠0∧rshort (Rat.divInt a b)=false∧s=⟨#[]⟩∧e=5)
theorem divInt_le (a b:Int) (hb:b≠0):(Rat.divInt a b).num.natAbs≤a.natAbs∧(Rat.divInt a b).den≤b.natAbs:=by
 obtain ⟨h1,h2⟩:=rdiv_div a b hb
 rw [h1]
 have h3:(b.tdiv (rdiv a b)).natAbs≤b.natAbs:=by rw [Int.natAbs_tdiv];exact Nat.div_le_self _ _
 refine ⟨by rw [Int.natAbs_tdiv];exact Nat.div_le_self _ _,by omega⟩
set_option maxRecDepth 100000 in
set_option maxHeartbeats 3200000 in
theorem quotientText_any (P:Nat→Prop) (x y:Value) (a b:Int) (s:ByteArray) (ec:Int) (w:World) (hP:∀ k,w.heap.size≤k→P k) (ha:IsInt P w x a) (hb:IsInt P w y b) (hq:Hid (QuoIs a b s ec))
 (la:(ds 1000000000 a.natAbs).length≤900) (lb:(ds 1000000000 b.natAbs).length≤900) (htab:Tab w) :
 Calls Tryz.prog 108 #[x,y] w fun e w'=>e = .returned (.tuple #[.string s,.int .i64 ec])∧Below w.heap.size w w':=by
 obtain ⟨s1,p1,rfl⟩:=ha.form
 obtain ⟨s2,p2,rfl⟩:=hb.form
 have HP:=Lib.hid hP
 have HS0:=Lib.hid (St2.start w (.int .i64 s1) (.pointer p1) (.int .i64 s2) (.pointer p2) 107 107)
 have HA:=Lib.hid (ha.bar2 HS0.out.1)
 have HB:=Lib.hid (hb.bar2 HS0.out.1)
 have HT:=Lib.hid htab
 have HLL:=Lib.hid (And.intro la lb)
 clear ha hb hP la lb htab
 obtain ⟨c0,c1,c2,c3,c4,c5,c6,c7⟩:=HS0.out.cells
 by_cases hb0:b=0
 · have hse:s=⟨#[]⟩∧ec=24:=by
    rcases hq.out with ⟨_,h1,h2⟩ | ⟨h,_⟩ | ⟨h,_⟩
    · exact ⟨h1,h2⟩
    · exact absurd hb0 h
    · exact absurd hb0 h
   obtain ⟨rfl,rfl⟩:=hse
   have HSG:Hid (sg b=0):=Lib.hid (by rw [hb0];rfl)
   clear hb0
   go_enter Tryz.func108,Tryz.ntmps108
   go_wp2_with fail
   refine (Sign_any (Bar2 P w) _ b _ HB.out).mono ?_
   rintro e w1 ⟨rfl,hb⟩
   rw [HSG.out]
   have HS1:=Lib.hid (HS0.out.next hb (Nat.le_refl _))
   clear hb
   go_wp2
   go_ret2
   exact ⟨rfl,HS1.out.1⟩
 · obtain ⟨c,hc,hc0⟩:∃ c,sg b=c∧(c==0)=false:=⟨_,rfl,by rw [beq_eq_false_iff_ne];unfold sg;split <;> (try split) <;> omega⟩
   have HSG:=Lib.hid hc
   have HBZ:=Lib.hid hb0
   obtain ⟨q,hqq⟩:∃ q,Rat.divInt a b=q:=⟨_,rfl⟩
   have hle:=divInt_le a b hb0
   rw [hqq] at hle
   have HQ:=Lib.hid hqq
   have HQL:Hid ((ds 1000000000 q.num.natAbs).length≤1000∧(ds 1000000000 q.den).length≤1000):=Lib.hid ⟨ds_le _ _ _ hle.1 (by have:=HLL.out.1;omega),ds_le _ _ _ hle.2 (by have:=HLL.out.2;omega)⟩
   obtain ⟨t,r,ht⟩:=TextIs.ex q
   have HTI:=Lib.hid ht
   have hway:(r=true∧s=t∧ec=0)∨(r=false∧s=⟨#[]⟩∧ec=5):=by
    have h:=hq.out
    unfold QuoIs at h
    rw [hqq] at h
    rcases h with ⟨h,_⟩ | ⟨_,h,h1,h2⟩ | ⟨_,h,h1,h2⟩
    · exact absurd h hb0
    · obtain ⟨e1,e2⟩:=ht.good h
      exact .inl ⟨e1,by rw [h1,e2],h2⟩
    · exact .inr ⟨(ht.bad h).1,h1,h2⟩
   clear hc hb0 hqq hle ht
   have HWAY:=Lib.hid hway
   clear hway
   go_enter Tryz.func108,Tryz.ntmps108
   go_wp2_with fail
   refine (Sign_any (Bar2 P w) _ b _ HB.out).mono ?_
   rintro e w1 ⟨rfl,hb⟩
   rw [HSG.out]
   have HS1:=Lib.hid (HS0.out.next hb (Nat.le_refl _))
   have HA1:=Lib.hid (HA.out.kept (.all hb))
   have HB1:=Lib.hid (HB.out.kept (.all hb))
   clear hb c0 c1 c2 c3 c4 c5 c6 c7 HA HB HS0
   obtain ⟨c0,c1,c2,c3,c4,c5,c6,c7⟩:=HS1.out.cells
   go_wp2_with fail
   refine (reduced_any (Bar2 P w) _ _ a b q _ (fun k hk=>Bar2.new HP.out k (Nat.le_trans HS1.out.2.1 hk)) HA1.out HB1.out HBZ.out HLL.out.1 HLL.out.2 HQ).mono ?_
   rintro e w2 ⟨v,rfl,hv,hb⟩
   have HV:=Lib.hid hv
   have HW2:=Lib.hid (HS1.out.1.trans (hb.mono HS1.out.1.size))
   obtain ⟨s3,p3,s4,p4,rfl,_,_⟩:=hv
   clear hb HS1 HA1 HB1 c0 c1 c2 c3 c4 c5 c6 c7
   go_wp2_with fail
   refine (text_any (Bar2 P w) _ q t r _ HV.out HTI HQL.out.1 HQL.out.2 (tab_keep HT.out HW2.out)).mono ?_
   rintro e w3 ⟨rfl,hb⟩
   have HW3:=Lib.hid (HW2.out.trans (hb.mono HW2.out.size))
   clear hb HV
   rcases HWAY.out with ⟨rfl,rfl,rfl⟩ | ⟨rfl,rfl,rfl⟩
   · go_wp2
     go_ret2
     exact ⟨rfl,HW3.out⟩
   · go_wp2
     go_ret2
     exact ⟨rfl,HW3.out⟩
end Go.Proofs.YtkhdocdddicgpaaGreatDoor
set_option linter.unusedVariables false
set_option linter.unusedSimpArgs false
namespace Go.Proofs.YtkhdocdddicgpaaGreatDoor
open Go.RowKit _root_.Go.Proofs.YtkhdocdddicgpaaGreatDoor.Nm
theorem St2.eqN {w W W':World} {x0 x1 y0 y1:Value} {n:Nat} (h:St2 w W x0 x1 y0 y1) (e:W'=W.drewN n):St2 w W' x0 x1 y0 y1:=by
 rw [e]
 exact h.next (B:=W.heap.size) ⟨rfl,rfl,rfl,Nat.le_refl _,fun _ _=>rfl⟩ (Nat.le_refl _)
theorem sgn2_nn (a b:Int) (ha:isNeg a=true) (hb:isNeg b=true):sgn b.natAbs a.natAbs=sgn2 a b:=by
 unfold isNeg at ha hb;unfold sgn sgn2;simp at ha hb
 by_cases h1:a<b
 · rw [if_pos (by omega),if_pos h1]
 · rw [if_neg (by omega),if_neg h1]
   by_cases h2:b<a
   · rw [if_pos (by omega),if_pos h2]
   · rw [if_neg (by omega),if_neg h2]
theorem sgn2_pp (a b:Int) (ha:isNeg a=false) (hb:isNeg b=false):sgn a.natAbs b.natAbs=sgn2 a b:=by
 unfold isNeg at ha hb;unfold sgn sgn2;simp at ha hb
 by_cases h1:a<b
 · rw [if_pos (by omega),if_pos h1]
 · rw [if_neg (by omega),if_neg h1]
   by_cases h2:b<a
   · rw [if_pos (by omega),if_pos h2]
   · rw [if_neg (by omega),if_neg h2]
theorem sgn2_np (a b:Int) (ha:isNeg a=true) (hb:isNeg b=false):sgn2 a b = -1:=by
 unfold isNeg at ha hb;unfold sgn2;simp at ha hb
 rw [if_pos (by omega)]
theorem sgn2_pn (a b:Int) (ha:isNeg a=false) (hb:isNeg b=true):sgn2 a b=1:=by
 unfold isNeg at ha hb;unfold sgn2;simp at ha hb
 rw [if_neg (by omega),if_pos (by omega)]
set_option maxRecDepth 100000 in
set_option maxHeartbeats 3200000 in
theorem Compare_nn (P:Nat→Prop) (s1 s2:Int) (p1 p2:Option Addr) (a b:Int) (w:World) (hP:∀ k,w.heap.size≤k→P k) (ha:IsInt P w (.agg #[.int .i64 s1,.pointer p1]) a) (hb:IsInt P w (.agg #[.int .i64 s2,.pointer p2]) b)
 (hp:(p1.isNone&&p2.isNone)=false) (hna:isNeg a=true) (hnb:isNeg b=true) :
 Calls Tryz.prog 123 #[.agg #[.int .i64 s1,.pointer p1],.agg #[.int .i64 s2,.pointer p2]] w fun e w'=>e = .returned (.int .i64 (sgn2 a b))∧Below w.heap.size w w':=by
 have HA:=Lib.hid ha
 have HB:=Lib.hid hb
 have HP:=Lib.hid hP
 have HNA:=Lib.hid hna
 have HNB:=Lib.hid hnb
 have HV:=Lib.hid (sgn2_nn a b hna hnb)
 obtain ⟨r,hr⟩:∃ r,sgn2 a b=r:=⟨_,rfl⟩
 have HRR:=Lib.hid hr
 clear hr
 clear ha hb hP hna hnb
 have hS0:=St2.start w (.int .i64 s1) (.pointer p1) (.int .i64 s2) (.pointer p2) 107 107
 cases h1:p1.isNone <;> cases h2:p2.isNone
 case true.true=>rw [h1,h2] at hp;cases hp
 all_goals
  clear hp
  go_enter Tryz.func123,Tryz.ntmps123
  go_wp2_with fail
  refine (isNegative_any P _ a _ (HA.out.kept (.all hS0.1))).mono ?_
  rintro e w1 ⟨rfl,hb⟩
  rw [HNA.out]
  have hS1:=hS0.next hb (Nat.le_refl _)
  clear hb
  obtain ⟨c0,c1,c2,c3,c4,c5,c6,c7⟩:=hS1.cells
  go_wp2_with fail
  refine (isNegative_any P _ b _ (HB.out.kept (.all hS1.1))).mono ?_
  rintro e w2 ⟨rfl,hb⟩
  rw [HNB.out]
  have hS2:=hS1.next hb (Nat.le_refl _)
  clear hb c0 c1 c2 c3 c4 c5 c6 c7
  obtain ⟨c0,c1,c2,c3,c4,c5,c6,c7⟩:=hS2.cells
  go_wp2_with fail
  clear c0 c1 c2 c3 c4 c5 c6 c7
  obtain ⟨c0,c1,c2,c3,c4,c5,c6,c7⟩:=hS2.drew.cells
  go_region_held3 (fun w'=>w'.cell? ⟨w.heap.size,0,none⟩=some (.int .i64 s1)∧w'.cell? ⟨w.heap.size,1,none⟩=some (.pointer p1)∧w'.cell? ⟨w.heap.size+1,0,none⟩=some (.int .i64 s2)∧w'.cell? ⟨w.heap.size+1,1,none⟩=some (.pointer p2)) (first | ((try dsimp only);(repeat' apply And.intro);all_goals with_reducible assumption) | go_keep) (first | (go_at_call 133;have hgd:=hT1;clear hgd;refine (limbs_any P _ a _ (by intro k hk;exact HP.out k (Nat.le_trans hT1.1.size hk)) (by exact HA.out.kept (.all hT1.1))).mono ?_;rintro e w9 ⟨v2,rfl,hv2,hi2,hb9⟩;have hT2:=hT1.next hb9 (Nat.le_refl _);clear d0 d1 d2 d3 d4 d5 d6 d7;obtain ⟨e0,e1,e2,e3,e4,e5,e6,e7⟩:=hT2.cells;obtain ⟨a2,m2,k2,rfl⟩:=hv2.slice) | (go_at_call 133;refine (limbs_any P _ b _ (by intro k hk;exact HP.out k (Nat.le_trans hS2.drew.1.size hk)) (by exact HB.out.kept (.all hS2.drew.1))).mono ?_;rintro e w8 ⟨v1,rfl,hv1,hi1,hb8⟩;have hT1:=hS2.drew.next hb8 (Nat.le_refl _);clear c0 c1 c2 c3 c4 c5 c6 c7;obtain ⟨d0,d1,d2,d3,d4,d5,d6,d7⟩:=hT1.cells;obtain ⟨a1,m1,k1,rfl⟩:=hv1.slice) | (go_at_call 145;refine (compare_any _ _ b.natAbs a.natAbs _ (by exact hv1.kept hi1 (.all hb9)) hv2).mono ?_;rintro e w10 ⟨rfl,nn,hw10⟩;rw [HV.out,HRR.out];have hT3:=hT2.eqN hw10;clear hw10 e0 e1 e2 e3 e4 e5 e6 e7;obtain ⟨f0,f1,f2,f3,f4,f5,f6,f7⟩:=hT3.cells))
  go_wp2
  go_ret
  exact ⟨by rw [HRR.out];rfl,hT3.1⟩
set_option maxRecDepth 100000 in
set_option maxHeartbeats 3200000 in
theorem Compare_np (P:Nat→Prop) (s1 s2:Int) (p1 p2:Option Addr) (a b:Int) (w:World) (hP:∀ k,w.heap.size≤k→P k) (ha:IsInt P w (.agg #[.int .i64 s1,.pointer p1]) a) (hb:IsInt P w (.agg #[.int .i64 s2,.pointer p2]) b)
 (hp:(p1.isNone&&p2.isNone)=false) (hna:isNeg a=true) (hnb:isNeg b=false) :
 Calls Tryz.prog 123 #[.agg #[.int .i64 s1,.pointer p1],.agg #[.int .i64 s2,.pointer p2]] w fun e w'=>e = .returned (.int .i64 (sgn2 a b))∧Below w.heap.size w w':=by
 have HA:=Lib.hid ha
 have HB:=Lib.hid hb
 have HP:=Lib.hid hP
 have HNA:=Lib.hid hna
 have HNB:=Lib.hid hnb
 have HV:=Lib.hid (sgn2_np a b hna hnb)
 clear ha hb hP hna hnb
 have hS0:=St2.start w (.int .i64 s1) (.pointer p1) (.int .i64 s2) (.pointer p2) 107 107
 cases h1:p1.isNone <;> cases h2:p2.isNone
 case true.true=>rw [h1,h2] at hp;cases hp
 all_goals
  clear hp
  go_enter Tryz.func123,Tryz.ntmps123
  go_wp2_with fail
  refine (isNegative_any P _ a _ (HA.out.kept (.all hS0.1))).mono ?_
  rintro e w1 ⟨rfl,hb⟩
  rw [HNA.out]
  have hS1:=hS0.next hb (Nat.le_refl _)
  clear hb
  obtain ⟨c0,c1,c2,c3,c4,c5,c6,c7⟩:=hS1.cells
  go_wp2_with fail
  refine (isNegative_any P _ b _ (HB.out.kept (.all hS1.1))).mono ?_
  rintro e w2 ⟨rfl,hb⟩
  rw [HNB.out]
  have hS2:=hS1.next hb (Nat.le_refl _)
  clear hb c0 c1 c2 c3 c4 c5 c6 c7
  obtain ⟨c0,c1,c2,c3,c4,c5,c6,c7⟩:=hS2.cells
  go_wp2_with fail
  refine (isNegative_any P _ a _ (HA.out.kept (.all hS2.1))).mono ?_
  rintro e w3 ⟨rfl,hb⟩
  rw [HNA.out]
  have hS3:=hS2.next hb (Nat.le_refl _)
  clear hb c0 c1 c2 c3 c4 c5 c6 c7
  obtain ⟨c0,c1,c2,c3,c4,c5,c6,c7⟩:=hS3.cells
  go_wp2
  go_ret
  exact ⟨by rw [HV.out];rfl,hS3.1⟩
set_option maxRecDepth 100000 in
set_option maxHeartbeats 3200000 in
theorem Compare_pn (P:Nat→Prop) (s1 s2:Int) (p1 p2:Option Addr) (a b:Int) (w:World) (hP:∀ k,w.heap.size≤k→P k) (ha:IsInt P w (.agg #[.int .i64 s1,.pointer p1]) a) (hb:IsInt P w (.agg #[.int .i64 s2,.pointer p2]) b)
 (hp:(p1.isNone&&p2.isNone)=false) (hna:isNeg a=false) (hnb:isNeg b=true) :
 Calls Tryz.prog 123 #[.agg #[.int .i64 s1,.pointer p1],.agg #[.int .i64 s2,.pointer p2]] w fun e w'=>e = .returned (.int .i64 (sgn2 a b))∧Below w.heap.size w w':=by
 have HA:=Lib.hid ha
 have HB:=Lib.hid hb
 have HP:=Lib.hid hP
 have HNA:=Lib.hid hna
 have HNB:=Lib.hid hnb
 have HV:=Lib.hid (sgn2_pn a b hna hnb)
 clear ha hb hP hna hnb
 have hS0:=St2.start w (.int .i64 s1) (.pointer p1) (.int .i64 s2) (.pointer p2) 107 107
 cases h1:p1.isNone <;> cases h2:p2.isNone
 case true.true=>rw [h1,h2] at hp;cases hp
 all_goals
  clear hp
  go_enter Tryz.func123,Tryz.ntmps123
  go_wp2_with fail
  refine (isNegative_any P _ a _ (HA.out.kept (.all hS0.1))).mono ?_
  rintro e w1 ⟨rfl,hb⟩
  rw [HNA.out]
  have hS1:=hS0.next hb (Nat.le_refl _)
  clear hb
  obtain ⟨c0,c1,c2,c3,c4,c5,c6,c7⟩:=hS1.cells
  go_wp2_with fail
  refine (isNegative_any P _ a _ (HA.out.kept (.all hS1.1))).mono ?_
  rintro e w2 ⟨rfl,hb⟩
  rw [HNA.out]
  have hS2:=hS1.next hb (Nat.le_refl _)
  clear hb c0 c1 c2 c3 c4 c5 c6 c7
  obtain ⟨c0,c1,c2,c3,c4,c5,c6,c7⟩:=hS2.cells
  go_wp2_with fail
  refine (isNegative_any P _ b _ (HB.out.kept (.all hS2.1))).mono ?_
  rintro e w3 ⟨rfl,hb⟩
  rw [HNB.out]
  have hS3:=hS2.next hb (Nat.le_refl _)
  clear hb c0 c1 c2 c3 c4 c5 c6 c7
  obtain ⟨c0,c1,c2,c3,c4,c5,c6,c7⟩:=hS3.cells
  go_wp2
  go_ret
  exact ⟨by rw [HV.out];rfl,hS3.1⟩
set_option maxRecDepth 100000 in
set_option maxHeartbeats 3200000 in
theorem Compare_pp (P:Nat→Prop) (s1 s2:Int) (p1 p2:Option Addr) (a b:Int) (w:World) (hP:∀ k,w.heap.size≤k→P k) (ha:IsInt P w (.agg #[.int .i64 s1,.pointer p1]) a) (hb:IsInt P w (.agg #[.int .i64 s2,.pointer p2]) b)
 (hp:(p1.isNone&&p2.isNone)=false) (hna:isNeg a=false) (hnb:isNeg b=false) :
 Calls Tryz.prog 123 #[.agg #[.int .i64 s1,.pointer p1],.agg #[.int .i64 s2,.pointer p2]] w fun e w'=>e = .returned (.int .i64 (sgn2 a b))∧Below w.heap.size w w':=by
 have HA:=Lib.hid ha
 have HB:=Lib.hid hb
 have HP:=Lib.hid hP
 have HNA:=Lib.hid hna
 have HNB:=Lib.hid hnb
 have HV:=Lib.hid (sgn2_pp a b hna hnb)
 obtain ⟨r,hr⟩:∃ r,sgn2 a b=r:=⟨_,rfl⟩
 have HRR:=Lib.hid hr
 clear hr
 clear ha hb hP hna hnb
 have hS0:=St2.start w (.int .i64 s1) (.pointer p1) (.int .i64 s2) (.pointer p2) 107 107
 cases h1:p1.isNone <;> cases h2:p2.isNone
 case true.true=>rw [h1,h2] at hp;cases hp
 all_goals
  clear hp
  go_enter Tryz.func123,Tryz.ntmps123
  go_wp2_with fail
  refine (isNegative_any P _ a _ (HA.out.kept (.all hS0.1))).mono ?_
  rintro e w1 ⟨rfl,hb⟩
  rw [HNA.out]
  have hS1:=hS0.next hb (Nat.le_refl _)
  clear hb
  obtain ⟨c0,c1,c2,c3,c4,c5,c6,c7⟩:=hS1.cells
  go_wp2_with fail
  refine (isNegative_any P _ a _ (HA.out.kept (.all hS1.1))).mono ?_
  rintro e w2 ⟨rfl,hb⟩
  rw [HNA.out]
  have hS2:=hS1.next hb (Nat.le_refl _)
  clear hb c0 c1 c2 c3 c4 c5 c6 c7
  obtain ⟨c0,c1,c2,c3,c4,c5,c6,c7⟩:=hS2.cells
  go_wp2_with fail
  refine (isNegative_any P _ b _ (HB.out.kept (.all hS2.1))).mono ?_
  rintro e w3 ⟨rfl,hb⟩
  rw [HNB.out]
  have hS3:=hS2.next hb (Nat.le_refl _)
  clear hb c0 c1 c2 c3 c4 c5 c6 c7
  obtain ⟨c0,c1,c2,c3,c4,c5,c6,c7⟩:=hS3.cells
  go_wp2_with fail
  clear c0 c1 c2 c3 c4 c5 c6 c7
  obtain ⟨c0,c1,c2,c3,c4,c5,c6,c7⟩:=hS3.drew.cells
  go_region_held3 (fun w'=>w'.cell? ⟨w.heap.size,0,none⟩=some (.int .i64 s1)∧w'.cell? ⟨w.heap.size,1,none⟩=some (.pointer p1)∧w'.cell? ⟨w.heap.size+1,0,none⟩=some (.int .i64 s2)∧w'.cell? ⟨w.heap.size+1,1,none⟩=some (.pointer p2)) (first | ((try dsimp only);(repeat' apply And.intro);all_goals with_reducible assumption) | go_keep) (first | (go_at_call 133;have hgd:=hT1;clear hgd;refine (limbs_any P _ b _ (by intro k hk;exact HP.out k (Nat.le_trans hT1.1.size hk)) (by exact HB.out.kept (.all hT1.1))).mono ?_;rintro e w9 ⟨v2,rfl,hv2,hi2,hb9⟩;have hT2:=hT1.next hb9 (Nat.le_refl _);clear d0 d1 d2 d3 d4 d5 d6 d7;obtain ⟨e0,e1,e2,e3,e4,e5,e6,e7⟩:=hT2.cells;obtain ⟨a2,m2,k2,rfl⟩:=hv2.slice) | (go_at_call 133;refine (limbs_any P _ a _ (by intro k hk;exact HP.out k (Nat.le_trans hS3.drew.1.size hk)) (by exact HA.out.kept (.all hS3.drew.1))).mono ?_;rintro e w8 ⟨v1,rfl,hv1,hi1,hb8⟩;have hT1:=hS3.drew.next hb8 (Nat.le_refl _);clear c0 c1 c2 c3 c4 c5 c6 c7;obtain ⟨d0,d1,d2,d3,d4,d5,d6,d7⟩:=hT1.cells;obtain ⟨a1,m1,k1,rfl⟩:=hv1.slice) | (go_at_call 145;refine (compare_any _ _ a.natAbs b.natAbs _ (by exact hv1.kept hi1 (.all hb9)) hv2).mono ?_;rintro e w10 ⟨rfl,nn,hw10⟩;rw [HV.out,HRR.out];have hT3:=hT2.eqN hw10;clear hw10 e0 e1 e2 e3 e4 e5 e6 e7;obtain ⟨f0,f1,f2,f3,f4,f5,f6,f7⟩:=hT3.cells))
  go_wp2
  go_ret
  exact ⟨by rw [HRR.out];rfl,hT3.1⟩
set_option maxRecDepth 100000 in
set_option maxHeartbeats 1600000 in
theorem Compare_short (a b:Int) (w:World) :
 Calls Tryz.prog 123 #[.agg #[.int .i64 a,.pointer none],.agg #[.int .i64 b,.pointer none]] w fun e w'=>e = .returned (.int .i64 (sgn2 a b))∧Below w.heap.size w w':=by
 go_enter Tryz.func123,Tryz.ntmps123
 go_wp2_with fail
 refine (compare64 a b _).mono ?_
 rintro e w1 ⟨rfl,rfl⟩
 obtain ⟨r,hr⟩:∃ r,sgn2 a b=r:=⟨_,rfl⟩
 rw [hr]
 have HR:=Lib.hid hr
 clear hr
 go_wp2
 go_ret
 exact ⟨by rw [HR.out];rfl,boxes2 _ _ _⟩
theorem Compare_any (P:Nat→Prop) (x y:Value) (a b:Int) (w:World) (hP:∀ k,w.heap.size≤k→P k) (hx:IsInt P w x a) (hy:IsInt P w y b) :
 Calls Tryz.prog 123 #[x,y] w fun e w'=>e = .returned (.int .i64 (sgn2 a b))∧Below w.heap.size w w':=by
 obtain ⟨s1,p1,rfl⟩:=hx.form
 obtain ⟨s2,p2,rfl⟩:=hy.form
 cases hp:(p1.isNone&&p2.isNone)
 · cases hna:isNeg a <;> cases hnb:isNeg b
   · exact Compare_pp P s1 s2 p1 p2 a b w hP hx hy hp hna hnb
   · exact Compare_pn P s1 s2 p1 p2 a b w hP hx hy hp hna hnb
   · exact Compare_np P s1 s2 p1 p2 a b w hP hx hy hp hna hnb
   · exact Compare_nn P s1 s2 p1 p2 a b w hP hx hy hp hna hnb
 · obtain ⟨h1,h2⟩:=Bool.and_eq_true_iff.1 hp
   rcases hx.ptr with ⟨k1,k2,k3⟩ | ⟨k1,g,k2⟩
   · rcases hy.ptr with ⟨k4,k5,k6⟩ | ⟨k4,g,k5⟩
     · subst k2 k3 k5 k6
       exact Compare_short _ _ w
     · rw [k5] at h2;cases h2
   · rw [k2] at h1;cases h1
end Go.Proofs.YtkhdocdddicgpaaGreatDoor
