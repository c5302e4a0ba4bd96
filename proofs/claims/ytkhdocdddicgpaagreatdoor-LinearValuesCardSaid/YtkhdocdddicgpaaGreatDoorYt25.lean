/- Part 25: what the law's walk leans on. -/
import Derived.Test.YtkhdocdddicgpaaGreatDoorYt13
import Derived.Test.YtkhdocdddicgpaaGreatDoorYt23
import Derived.Test.YtkhdocdddicgpaaGreatDoorYt24
import Derived.Deep.DeepCutAuto
import Derived.Deep.RegionWith
import Derived.Laws.Concat
set_option linter.unusedVariables false
set_option linter.unusedSimpArgs false
namespace Go.Proofs.YtkhdocdddicgpaaGreatDoor
open Go.RowKit _root_.Go.Proofs.YtkhdocdddicgpaaGreatDoor.Nm
def RRef (W:World) (v:Value) (q:Rat):Prop:=∃ n1 a1 l1 c1 n2 a2 l2 c2,v = .agg #[.bool n1,.slice a1 l1 c1,.bool n2,.slice a2 l2 c2]∧Ref W (.agg #[.bool n1,.slice a1 l1 c1]) q.num∧Ref W (.agg #[.bool n2,.slice a2 l2 c2]) (q.den:Int)
theorem RRef.keep {w w':World} {v:Value} {q:Rat} {B:Nat} (h:RRef w v q) (hb:Below B w w') (hB:w.heap.size≤B):RRef w' v q:=by
 obtain ⟨n1,a1,l1,c1,n2,a2,l2,c2,h1,h2,h3⟩:=h
 exact ⟨n1,a1,l1,c1,n2,a2,l2,c2,h1,h2.keep hb hB,h3.keep hb hB⟩
theorem Rd.box4 {W:World} {v:Value} {xs:List Nat} {g:Nat} {n n':Bool} {a a':Option Addr} {l c l' c':Nat} (h:Rd .i64 W v xs) (hb:B4 W g (.bool n) (.slice a l c) (.bool n') (.slice a' l' c')) (x y z u:Value) :
 Rd .i64 (set4 W g x y z u) v xs:=by
 refine h.only (b:=g) (set4_only W g x y z u) ?_
 intro ad m k e hm he
 obtain ⟨a',c',e2,_,_,h3⟩:=h
 rw [e2] at e
 simp only [Value.slice.injEq] at e
 obtain ⟨rfl,rfl,rfl⟩:=e
 obtain ⟨g',off,e3,hg,hr⟩:=h3 (by rintro rfl;simp at hm)
 cases e3
 have hc:=hr 0 hm
 rw [show g'=g from he] at hc
 obtain ⟨T,hb⟩:=hb
 simp only [World.cell?,hb] at hc
 rcases Nat.lt_or_ge (off+0) 4 with h2 | h2
 · have h4:off=0∨off=1∨off=2∨off=3:=by omega
   rcases h4 with rfl | rfl | rfl | rfl <;> simp at hc
 · rw [Array.getElem?_eq_none (by simpa using h2)] at hc
   cases hc
theorem Ref.box4 {W:World} {v:Value} {z:Int} {g:Nat} {n n':Bool} {a a':Option Addr} {l c l' c':Nat} (h:Ref W v z) (hb:B4 W g (.bool n) (.slice a l c) (.bool n') (.slice a' l' c')) (x y p u:Value):Ref (set4 W g x y p u) v z:=by
 obtain ⟨sv,h1,h2⟩:=h
 exact ⟨sv,h1,h2.box4 hb _ _ _ _⟩
theorem RRef.box4 {W:World} {v:Value} {q:Rat} {g:Nat} {n n':Bool} {a a':Option Addr} {l c l' c':Nat} (h:RRef W v q) (hb:B4 W g (.bool n) (.slice a l c) (.bool n') (.slice a' l' c')) (x y p u:Value):RRef (set4 W g x y p u) v q:=by
 obtain ⟨n1,a1,l1,c1,n2,a2,l2,c2,h1,h2,h3⟩:=h
 exact ⟨n1,a1,l1,c1,n2,a2,l2,c2,h1,h2.box4 hb _ _ _ _,h3.box4 hb _ _ _ _⟩
theorem Ref.box2 {W:World} {v:Value} {z:Int} {g:Nat} {n:Bool} {a:Option Addr} {l c:Nat} (h:Ref W v z) (hb:Bx W g (.bool n) (.slice a l c)) (x y:Value):Ref ((W.setCell ⟨g,0,none⟩ x).setCell ⟨g,1,none⟩ y) v z:=by
 obtain ⟨sv,h1,h2⟩:=h
 exact ⟨sv,h1,h2.box hb _ _⟩
theorem RRef.box2 {W:World} {v:Value} {q:Rat} {g:Nat} {n:Bool} {a:Option Addr} {l c:Nat} (h:RRef W v q) (hb:Bx W g (.bool n) (.slice a l c)) (x y:Value):RRef ((W.setCell ⟨g,0,none⟩ x).setCell ⟨g,1,none⟩ y) v q:=by
 obtain ⟨n1,a1,l1,c1,n2,a2,l2,c2,h1,h2,h3⟩:=h
 exact ⟨n1,a1,l1,c1,n2,a2,l2,c2,h1,h2.box2 hb _ _,h3.box2 hb _ _⟩
def RRPost (q:Rat) (w:World) (e:Ending) (w':World):Prop:=∃ v,e = .returned v∧RRef w' v q∧Below w.heap.size w w'
theorem RRPost.boxed {w w2:World} {g:Nat} {v:Value} {n n':Bool} {a a':Option Addr} {l l' c c':Nat} {q:Rat} (h:RRef w2 v q) (hx:B4 w2 g (.bool n) (.slice a l c) (.bool n') (.slice a' l' c')) (hb:Below w.heap.size w w2) (hg:w.heap.size≤g) (x y z u:Value) :
 RRPost q w (.returned v) (set4 w2 g x y z u):=⟨v,rfl,h.box4 hx _ _ _ _,hb.trans ((set4_only w2 g x y z u).below hg)⟩
theorem Ref.any {W:World} {v:Value} {z:Int} (h:Ref W v z):∃ b a l c,v = .agg #[.bool b,.slice a l c]:=by
 obtain ⟨a,c,e⟩:=h.form
 exact ⟨_,a,_,c,e⟩
theorem Ref.neg_is {W:World} {z:Int} {b:Bool} {s:Value} (h:Ref W (.agg #[.bool b,s]) z):b=isNeg z:=by
 obtain ⟨a,c,e⟩:=h.form
 simp only [Value.agg.injEq,Array.mk.injEq,List.cons.injEq,and_true,Value.bool.injEq] at e
 exact e.1
theorem digs_ten {K:Nat} {z:Int} (h:Ten K z) (m:Nat) (hK:K≤m):(dg z.natAbs).length≤m:=by
 obtain ⟨k,h1,h2⟩:=h
 exact Nat.le_trans (dg_len _ k h2) (by omega)
theorem dg_one:dg (1:Int).natAbs=[1]:=by decide +kernel
set_option maxRecDepth 100000 in
set_option maxHeartbeats 1600000 in
theorem rone_any (w:World):Calls Tryz.prog 49 #[] w (RefPost 1 w):=by
 have hO:Ow ((w.alloc (.cells #[.bool false,.slice (some ⟨w.heap.size+1,0,none⟩) 1 1] 31)).alloc (.cells #[.int .i64 1] 3)) (w.heap.size+1) (.slice (some ⟨w.heap.size+1,0,none⟩) 1 1) [1]:=by
  have h:=Ow.one (w.alloc (.cells #[.bool false,.slice (some ⟨w.heap.size+1,0,none⟩) 1 1] 31)) (w.heap.size+1) (by simp) 1
  rw [World.size_alloc] at h
  exact h
 have HV:Hid (Ref ((w.alloc (.cells #[.bool false,.slice (some ⟨w.heap.size+1,0,none⟩) 1 1] 31)).alloc (.cells #[.int .i64 1] 3)) (.agg #[.bool false,.slice (some ⟨w.heap.size+1,0,none⟩) 1 1]) 1):=Lib.hid ⟨_,rfl,by rw [dg_one];exact hO.rd (by simp)⟩
 clear hO
 go_enter Tryz.func49,Tryz.ntmps49
 go_wp2
 refine bodyPost_ret (v := .agg #[.bool false,.slice (some ⟨w.heap.size+1,0,none⟩) 1 1]) (by simp [results,Tryz.results49,go_sem]) rfl ?_
 exact ⟨_,rfl,HV.out,boxes2 _ _ _⟩
set_option maxRecDepth 100000 in
set_option maxHeartbeats 1600000 in
theorem rzero_any (v:Value) (z:Int) (b:Bool) (w:World) (h:Ref w v z) (hb:Hid (True∧decide (z=0)=b)) :
 Calls Tryz.prog 42 #[v] w fun e w'=>e = .returned (.bool b)∧Below w.heap.size w w':=by
 obtain ⟨a,c,rfl⟩:=h.form
 have hl:(((dg z.natAbs).length:Int)==0)=b:=by
  rw [← hb.out.2]
  by_cases hz:z=0
  · subst hz
    rw [show (0:Int).natAbs=0 from rfl,dg_zero];rfl
  · rw [decide_eq_false hz,beq_eq_false_iff_ne]
    intro e
    have h1:dg z.natAbs=[]:=List.eq_nil_of_length_eq_zero (by omega)
    have h2:=dval_dg z.natAbs
    rw [h1,dval_nil] at h2
    omega
 generalize isNeg z=n at *
 generalize (dg z.natAbs).length=l at *
 clear h
 go_enter Tryz.func42,Tryz.ntmps42
 go_wp2
 go_ret
 exact ⟨by rw [← hl];rfl,(Below.refl _ _).alloc (Nat.le_refl _) _⟩
set_option maxRecDepth 100000 in
set_option maxHeartbeats 1600000 in
theorem rabs_any (v:Value) (z y:Int) (w:World) (h:Ref w v z) (hy:Hid (True∧((z.natAbs:Nat):Int)=y)) :
 Calls Tryz.prog 80 #[v] w (RefPost y w):=by
 obtain ⟨a,c,rfl⟩:=h.form
 obtain ⟨sv,hv,hr⟩:=id h
 simp only [Value.agg.injEq,Array.mk.injEq,List.cons.injEq,and_true] at hv
 obtain ⟨_,rfl⟩:=hv
 have hA:=boxes2 w (.cells #[.bool (isNeg z),.slice a (dg z.natAbs).length c] 31) (.cells #[.bool false,.slice a (dg z.natAbs).length c] 31)
 have hR:=hr.keep hA (Nat.le_refl _)
 have HV:Hid (Ref ((w.alloc (.cells #[.bool (isNeg z),.slice a (dg z.natAbs).length c] 31)).alloc (.cells #[.bool false,.slice a (dg z.natAbs).length c] 31)) (.agg #[.bool false,.slice a (dg z.natAbs).length c]) y):=Lib.hid ⟨.slice a (dg z.natAbs).length c,by rw [← hy.out.2];unfold isNeg;simp,by rw [← hy.out.2,Int.natAbs_natCast];exact hR⟩
 have HW:=Lib.hid hA
 clear hA hR hr h
 generalize isNeg z=n at *
 generalize (dg z.natAbs).length=l at *
 go_enter Tryz.func80,Tryz.ntmps80
 go_wp2
 refine bodyPost_ret (v := .agg #[.bool false,.slice a l c]) (by simp [results,Tryz.results80,go_sem]) rfl ?_
 exact ⟨_,rfl,HV.out,HW.out⟩
end Go.Proofs.YtkhdocdddicgpaaGreatDoor
set_option linter.unusedVariables false
set_option linter.unusedSimpArgs false
namespace Go.Proofs.YtkhdocdddicgpaaGreatDoor
open Go.RowKit _root_.Go.Proofs.YtkhdocdddicgpaaGreatDoor.Nm
structure Nw (w W:World) (n1:Bool) (a1:Option Addr) (l1 c1:Nat) (n2:Bool) (a2:Option Addr) (l2 c2:Nat) (x y:Int):Prop where
 below:Below w.heap.size w W
 far:w.heap.size+3≤W.heap.size
 box1:Bx W w.heap.size (.bool n1) (.slice a1 l1 c1)
 box2:Bx W (w.heap.size+1) (.bool n2) (.slice a2 l2 c2)
 box3:B4 W (w.heap.size+1+1) (.bool false) (.slice none 0 0) (.bool false) (.slice none 0 0)
 r1:Ref W (.agg #[.bool n1,.slice a1 l1 c1]) x
 r2:Ref W (.agg #[.bool n2,.slice a2 l2 c2]) y
theorem Nw.keep {w W W':World} {n1 n2:Bool} {a1 a2:Option Addr} {l1 c1 l2 c2 B:Nat} {x y:Int} (h:Nw w W n1 a1 l1 c1 n2 a2 l2 c2 x y) (hb:Below B W W') (hB:W.heap.size≤B):Nw w W' n1 a1 l1 c1 n2 a2 l2 c2 x y :=
 ⟨h.below.trans (hb.mono (Nat.le_trans h.below.size hB)),Nat.le_trans h.far hb.size,h.box1.below hb (Nat.lt_of_lt_of_le h.box1.lt hB),h.box2.below hb (Nat.lt_of_lt_of_le h.box2.lt hB),h.box3.below hb (Nat.lt_of_lt_of_le h.box3.lt hB),h.r1.keep hb hB,h.r2.keep hb hB⟩
theorem Nw.drew {w W:World} {n1 n2:Bool} {a1 a2:Option Addr} {l1 c1 l2 c2:Nat} {x y:Int} (h:Nw w W n1 a1 l1 c1 n2 a2 l2 c2 x y):Nw w W.drew n1 a1 l1 c1 n2 a2 l2 c2 x y:=h.keep (Below.refl _ _).drew (Nat.le_refl _)
theorem Nw.cells {w W:World} {n1 n2:Bool} {a1 a2:Option Addr} {l1 c1 l2 c2:Nat} {x y:Int} (h:Nw w W n1 a1 l1 c1 n2 a2 l2 c2 x y) :
 W.cell? ⟨w.heap.size,0,none⟩=some (.bool n1)∧W.cell? ⟨w.heap.size,1,none⟩=some (.slice a1 l1 c1)∧W.cell? ⟨w.heap.size+1,0,none⟩=some (.bool n2)∧W.cell? ⟨w.heap.size+1,1,none⟩=some (.slice a2 l2 c2) :=
 ⟨h.box1.cell.1,h.box1.cell.2.1,h.box2.cell.1,h.box2.cell.2.1⟩
theorem Nw.free {w W:World} {n1 n2:Bool} {a1 a2:Option Addr} {l1 c1 l2 c2:Nat} {x y:Int} (h:Nw w W n1 a1 l1 c1 n2 a2 l2 c2 x y) :
 W.frozen? ⟨w.heap.size,0,none⟩=false∧W.frozen? ⟨w.heap.size,1,none⟩=false∧W.frozen? ⟨w.heap.size+1,0,none⟩=false∧W.frozen? ⟨w.heap.size+1,1,none⟩=false :=
 ⟨h.box1.cell.2.2.1,h.box1.cell.2.2.2,h.box2.cell.2.2.1,h.box2.cell.2.2.2⟩
theorem Nw.set1 {w W:World} {n1 n2 m:Bool} {a1 a2 b:Option Addr} {l1 c1 l2 c2 k d:Nat} {x y x':Int} (h:Nw w W n1 a1 l1 c1 n2 a2 l2 c2 x y) (hr:Ref W (.agg #[.bool m,.slice b k d]) x') :
 Nw w ((W.setCell ⟨w.heap.size,0,none⟩ (.bool m)).setCell ⟨w.heap.size,1,none⟩ (.slice b k d)) m b k d n2 a2 l2 c2 x' y:=by
 have o:=((Only.refl w.heap.size W).set 0 (.bool m)).set 1 (.slice b k d)
 exact ⟨h.below.trans (o.below (Nat.le_refl _)),by rw [o.size];exact h.far,h.box1.put _ _,h.box2.only o (by omega),h.box3.only o (by omega),hr.box2 h.box1 _ _,h.r2.box2 h.box1 _ _⟩
theorem Nw.set2 {w W:World} {n1 n2 m:Bool} {a1 a2 b:Option Addr} {l1 c1 l2 c2 k d:Nat} {x y y':Int} (h:Nw w W n1 a1 l1 c1 n2 a2 l2 c2 x y) (hr:Ref W (.agg #[.bool m,.slice b k d]) y') :
 Nw w ((W.setCell ⟨w.heap.size+1,0,none⟩ (.bool m)).setCell ⟨w.heap.size+1,1,none⟩ (.slice b k d)) n1 a1 l1 c1 m b k d x y':=by
 have o:=((Only.refl (w.heap.size+1) W).set 0 (.bool m)).set 1 (.slice b k d)
 exact ⟨h.below.trans (o.below (by omega)),by rw [o.size];exact h.far,h.box1.only o (by omega),h.box2.put _ _,h.box3.only o (by omega),h.r1.box2 h.box2 _ _,hr.box2 h.box2 _ _⟩
theorem Nw.both {w W:World} {n1 n2 m1 m2:Bool} {a1 a2 b1 b2:Option Addr} {l1 c1 l2 c2 k1 d1 k2 d2:Nat} {x y x' y':Int} (h:Nw w W n1 a1 l1 c1 n2 a2 l2 c2 x y) (hr1:Ref W (.agg #[.bool m1,.slice b1 k1 d1]) x') (hr2:Ref W (.agg #[.bool m2,.slice b2 k2 d2]) y') :
 Nw w ((((W.setCell ⟨w.heap.size,0,none⟩ (.bool m1)).setCell ⟨w.heap.size,1,none⟩ (.slice b1 k1 d1)).setCell ⟨w.heap.size+1,0,none⟩ (.bool m2)).setCell ⟨w.heap.size+1,1,none⟩ (.slice b2 k2 d2)) m1 b1 k1 d1 m2 b2 k2 d2 x' y' :=
 (h.set1 hr1).set2 (hr2.box2 h.box1 _ _)
theorem Nw.start (w:World) (n1 n2:Bool) (a1 a2:Option Addr) (l1 c1 l2 c2:Nat) (x y:Int) (T1 T2 T3:TypeId) (h1:Ref w (.agg #[.bool n1,.slice a1 l1 c1]) x) (h2:Ref w (.agg #[.bool n2,.slice a2 l2 c2]) y) :
 Nw w (((w.alloc (.cells #[.bool n1,.slice a1 l1 c1] T1)).alloc (.cells #[.bool n2,.slice a2 l2 c2] T2)).alloc (.cells #[.bool false,.slice none 0 0,.bool false,.slice none 0 0] T3)) n1 a1 l1 c1 n2 a2 l2 c2 x y:=by
 have hb:=boxes3 w (.cells #[.bool n1,.slice a1 l1 c1] T1) (.cells #[.bool n2,.slice a2 l2 c2] T2) (.cells #[.bool false,.slice none 0 0,.bool false,.slice none 0 0] T3)
 have h3:=B4.new ((w.alloc (.cells #[.bool n1,.slice a1 l1 c1] T1)).alloc (.cells #[.bool n2,.slice a2 l2 c2] T2)) (.bool false) (.slice none 0 0) (.bool false) (.slice none 0 0) T3
 rw [World.size_alloc,World.size_alloc] at h3
 exact ⟨hb,by simp,((Bx.new w _ _ T1).alloc _).alloc _,(second_box w _ _ _ T2 ()).alloc _,h3,h1.keep hb (Nat.le_refl _),h2.keep hb (Nat.le_refl _)⟩
theorem Ref.sgn {W:World} {z:Int} {b:Bool} {s:Value} (h:Ref W (.agg #[.bool b,s]) z):b=decide (z<0):=h.neg_is
set_option maxRecDepth 100000 in
set_option maxHeartbeats 6400000 in
theorem rNew_zero (v1 v2:Value) (n d:Int) (q:Rat) (w:World) (h1:Ref w v1 n) (h2:Ref w v2 d) (hn:n=0) (hq:Hid (Rat.divInt n d=q)) :
 Calls Tryz.prog 44 #[v1,v2] w (RRPost q w):=by
 obtain ⟨n1,a1,l1,c1,rfl⟩:=h1.any
 obtain ⟨n2,a2,l2,c2,rfl⟩:=h2.any
 have HM:=Lib.hid (Nw.start w n1 n2 a1 a2 l1 c1 l2 c2 n d 31 31 33 h1 h2)
 have HZ:Hid (True∧decide (n=0)=true):=Lib.hid ⟨trivial,decide_eq_true hn⟩
 have HQ:Hid (n=q.num∧(1:Int)=q.den):=Lib.hid (by rw [← hq.out,hn,Rat.zero_divInt];exact ⟨rfl,rfl⟩)
 clear h1 h2 hn
 obtain ⟨k0,k1,k2,k3⟩:=HM.out.cells
 go_enter Tryz.func44,Tryz.ntmps44
 go_wp2_with fail
 refine (rzero_any _ n true _ HM.out.r1 HZ).mono ?_
 rintro e w1 ⟨rfl,hb1⟩
 have HM1:=Lib.hid (HM.out.keep hb1 (Nat.le_refl _)).drew
 clear HM hb1 k0 k1 k2 k3
 obtain ⟨k0,k1,k2,k3⟩:=HM1.out.cells
 go_wp2_with fail
 go_region_held3 (fun w'=>w'.cell? ⟨w.heap.size,0,none⟩=some (.bool n1)∧w'.cell? ⟨w.heap.size,1,none⟩=some (.slice a1 l1 c1)) (first | ((try dsimp only);(repeat' apply And.intro);all_goals with_reducible assumption) | go_keep) ((go_at_call 49;refine (rone_any _).mono ?_;rintro e w2 ⟨v2,rfl,hv2,hb2⟩;have hM2:=HM1.out.keep hb2 (Nat.le_refl _);obtain ⟨n3,a3,l3,c3,rfl⟩:=hv2.any;clear k0 k1 k2 k3;obtain ⟨j0,j1,j2,j3⟩:=hM2.cells;obtain ⟨e0,e1,e2,e3⟩:=hM2.box3.cell;obtain ⟨f0,f1,f2,f3⟩:=hM2.box3.froz;have t0:=((set4_only w2 (w.heap.size+1+1) (.bool n1) (.slice a1 l1 c1) (.bool n3) (.slice a3 l3 c3)).cell w.heap.size 0 (by omega)).trans j0;have t1:=((set4_only w2 (w.heap.size+1+1) (.bool n1) (.slice a1 l1 c1) (.bool n3) (.slice a3 l3 c3)).cell w.heap.size 1 (by omega)).trans j1))
 have hr1:=hM2.r1
 rw [HQ.out.1] at hr1
 rw [HQ.out.2] at hv2
 have HR:Hid (RRef w2 (.agg #[.bool n1,.slice a1 l1 c1,.bool n3,.slice a3 l3 c3]) q):=Lib.hid ⟨_,_,_,_,_,_,_,_,rfl,hr1,hv2⟩
 have HM2:=Lib.hid hM2
 clear hM2 hr1 hv2 hb2 j0 j1 j2 j3 e0 e1 e2 e3 f0 f1 f2 f3 t0 t1 HM1
 go_wp2
 obtain ⟨l0,l1',l2',l3'⟩:=(HM2.out.box3.put (.bool n1) (.slice a1 l1 c1) (.bool n3) (.slice a3 l3 c3)).cell
 refine bodyPost_ret (v := .agg #[.bool n1,.slice a1 l1 c1,.bool n3,.slice a3 l3 c3]) (by simp only [results,Tryz.results44];simp [go_sem,l0,l1',l2',l3']) rfl ?_
 exact RRPost.boxed HR.out HM2.out.box3 HM2.out.below (by omega) _ _ _ _
theorem dg_mono (m n:Nat) (h:m≤n):(dg m).length≤(dg n).length:=by
 have h1:=lt_pow_length 10 (by omega) n
 have h2:=dg_len m (ds 10 n).length (Nat.lt_of_le_of_lt h h1)
 unfold dg at *
 simp only [List.length_reverse] at *
 exact h2
theorem cell_alloc {W:World} {b o:Nat} {v:Value} {x:Obj} (h:W.cell? ⟨b,o,none⟩=some v):(W.alloc x).cell? ⟨b,o,none⟩=some v:=by
 refine Eq.trans (((Below.refl W.heap.size W).alloc (Nat.le_refl _) x).cell (p:=⟨b,o,none⟩) ?_) h
 rcases Nat.lt_or_ge b W.heap.size with h' | h'
 · exact h'
 · simp [World.cell?,Array.getElem?_eq_none h'] at h
theorem cell_off {W:World} {b o g:Nat} {v x y:Value} (h:W.cell? ⟨b,o,none⟩=some v) (hb:b≠g):((W.setCell ⟨g,0,none⟩ x).setCell ⟨g,1,none⟩ y).cell? ⟨b,o,none⟩=some v:=(cell_set2 W g x y b o hb).trans h
theorem Bx.putZ {W:World} {g:Nat} {x y:Value} (h:Bx W g (.bool false) (.slice none 0 0)):Bx ((W.setCell ⟨g,0,none⟩ x).setCell ⟨g,1,none⟩ y) g x y:=h.put _ _
theorem Bx.offZ {W:World} {g b:Nat} {x y p q:Value} (h:Bx W g p q) (hg:g≠b):Bx ((W.setCell ⟨b,0,none⟩ x).setCell ⟨b,1,none⟩ y) g p q:=h.only (((Only.refl b W).set 0 x).set 1 y) hg
theorem Ref.away {W:World} {v x y:Value} {z:Int} {g:Nat} (h:Ref W v z) (hb:Bx W g (.bool false) (.slice none 0 0)):Ref ((W.setCell ⟨g,0,none⟩ x).setCell ⟨g,1,none⟩ y) v z:=h.box2 hb _ _
theorem Ref.up {W:World} {v:Value} {z:Int} {o:Obj} (h:Ref W v z):Ref (W.alloc o) v z:=h.keep ((Below.refl _ _).alloc (Nat.le_refl _) o) (Nat.le_refl _)
theorem Nw.up {w W:World} {n1 n2:Bool} {a1 a2:Option Addr} {l1 c1 l2 c2:Nat} {x y:Int} {o:Obj} (h:Nw w W n1 a1 l1 c1 n2 a2 l2 c2 x y):Nw w (W.alloc o) n1 a1 l1 c1 n2 a2 l2 c2 x y:=h.keep ((Below.refl _ _).alloc (Nat.le_refl _) o) (Nat.le_refl _)
theorem Nw.away {w W:World} {n1 n2:Bool} {a1 a2:Option Addr} {l1 c1 l2 c2 g:Nat} {x y:Int} {p q:Value} (h:Nw w W n1 a1 l1 c1 n2 a2 l2 c2 x y) (hb:Bx W g (.bool false) (.slice none 0 0)) (hg:w.heap.size+3≤g) :
 Nw w ((W.setCell ⟨g,0,none⟩ p).setCell ⟨g,1,none⟩ q) n1 a1 l1 c1 n2 a2 l2 c2 x y:=by
 have o:=((Only.refl g W).set 0 p).set 1 q
 exact ⟨h.below.trans (o.below (by omega)),by rw [o.size];exact h.far,h.box1.only o (by omega),h.box2.only o (by omega),h.box3.only o (by omega),h.r1.box2 hb _ _,h.r2.box2 hb _ _⟩
structure Nv (w W:World) (n1:Bool) (a1:Option Addr) (l1 c1:Nat) (n2:Bool) (a2:Option Addr) (l2 c2:Nat) (x y:Int) (g:Nat) (m:Bool) (b:Option Addr) (k d:Nat) (G:Int):Prop where
 nw:Nw w W n1 a1 l1 c1 n2 a2 l2 c2 x y
 far:w.heap.size+3≤g
 box:Bx W g (.bool m) (.slice b k d)
 r:Ref W (.agg #[.bool m,.slice b k d]) G
section
variable {w W W':World} {n1 n2 m:Bool} {a1 a2 b:Option Addr} {l1 c1 l2 c2 g k d B:Nat} {x y G:Int} {o:Obj} {p q:Value}
theorem Nv.keep (h:Nv w W n1 a1 l1 c1 n2 a2 l2 c2 x y g m b k d G) (hb:Below B W W') (hB:W.heap.size≤B):Nv w W' n1 a1 l1 c1 n2 a2 l2 c2 x y g m b k d G :=
 ⟨h.nw.keep hb hB,h.far,h.box.below hb (Nat.lt_of_lt_of_le h.box.lt hB),h.r.keep hb hB⟩
theorem Nv.up (h:Nv w W n1 a1 l1 c1 n2 a2 l2 c2 x y g m b k d G):Nv w (W.alloc o) n1 a1 l1 c1 n2 a2 l2 c2 x y g m b k d G:=h.keep ((Below.refl _ _).alloc (Nat.le_refl _) o) (Nat.le_refl _)
theorem Nv.drew (h:Nv w W n1 a1 l1 c1 n2 a2 l2 c2 x y g m b k d G):Nv w W.drew n1 a1 l1 c1 n2 a2 l2 c2 x y g m b k d G:=h.keep (Below.refl _ _).drew (Nat.le_refl _)
theorem Nv.away {g':Nat} (h:Nv w W n1 a1 l1 c1 n2 a2 l2 c2 x y g m b k d G) (hb:Bx W g' (.bool false) (.slice none 0 0)) (hg:w.heap.size+3≤g') (hn:g≠g') :
 Nv w ((W.setCell ⟨g',0,none⟩ p).setCell ⟨g',1,none⟩ q) n1 a1 l1 c1 n2 a2 l2 c2 x y g m b k d G:=⟨h.nw.away hb hg,h.far,h.box.offZ hn,h.r.away hb⟩
theorem Nv.cells (h:Nv w W n1 a1 l1 c1 n2 a2 l2 c2 x y g m b k d G) :
 W.cell? ⟨w.heap.size,0,none⟩=some (.bool n1)∧W.cell? ⟨w.heap.size,1,none⟩=some (.slice a1 l1 c1)∧W.cell? ⟨w.heap.size+1,0,none⟩=some (.bool n2)∧W.cell? ⟨w.heap.size+1,1,none⟩=some (.slice a2 l2 c2) ∧
 W.cell? ⟨g,0,none⟩=some (.bool m)∧W.cell? ⟨g,1,none⟩=some (.slice b k d) :=
 ⟨h.nw.box1.cell.1,h.nw.box1.cell.2.1,h.nw.box2.cell.1,h.nw.box2.cell.2.1,h.box.cell.1,h.box.cell.2.1⟩
theorem Nv.lt (h:Nv w W n1 a1 l1 c1 n2 a2 l2 c2 x y g m b k d G):g<W.heap.size:=h.box.lt
end
theorem dv_div (a b:Int) (hb:0<b) (h:b∣a):Dv a b (a/b) 0:=by
 refine ⟨?_,by simp;omega,.inl rfl⟩
 rw [Int.add_zero,Int.mul_comm,Int.ediv_mul_cancel h]
theorem divInt_parts (x y X G M E:Int) (q:Rat) (hy:0<y) (hX:((x.natAbs:Nat):Int)=X) (hG:((Int.gcd X y:Nat):Int)=G) (hM:X/G=M) (hE:y/G=E) (hq:Rat.divInt x y=q) :
 (q.den:Int)=E∧(x<0→q.num = -M)∧(¬ x<0→q.num=M):=by
 have hg:Int.gcd X y=Int.gcd x y:=by rw [← hX];simp [Int.gcd]
 obtain ⟨h1,h2⟩:=rdiv_div x y (by omega)
 have hr:rdiv x y=G:=by unfold rdiv;rw [if_neg (by omega), ← hG,hg]
 rw [hr,hq] at h1 h2
 have hG0:0<G:=by have:=Int.gcd_pos_of_ne_zero_right X (show y≠0 by omega);omega
 refine ⟨?_,fun h => ?_,fun h => ?_⟩
 · rw [h2, ← hE,Int.tdiv_eq_ediv_of_nonneg (by omega)]
 · rw [h1, ← hM, ← hX,show ((x.natAbs:Nat):Int) = -x from by omega]
   have h3:=Int.tdiv_eq_ediv_of_nonneg (a := -x) (b:=G) (by omega)
   rw [← h3,Int.neg_tdiv];omega
 · rw [h1, ← hM, ← hX,show ((x.natAbs:Nat):Int)=x from by omega,Int.tdiv_eq_ediv_of_nonneg (by omega)]
theorem drew_size (W:World):W.drew.heap.size=W.heap.size:=rfl
set_option maxRecDepth 100000 in
set_option maxHeartbeats 12800000 in
theorem rNew_pos (v1 v2:Value) (n d x y:Int) (q:Rat) (w:World) (h1:Ref w v1 n) (h2:Ref w v2 d) (hn:n≠0) (hd:0<d) (hx:Hid (True∧n=x)) (hy:Hid (True∧d=y)) (hl:Hid ((dg x.natAbs).length≤1000∧(dg y.natAbs).length≤1000)) (hq:Hid (Rat.divInt x y=q)) :
 Calls Tryz.prog 44 #[v1,v2] w (RRPost q w):=by
 obtain rfl:n=x:=hx.out.2
 obtain rfl:d=y:=hy.out.2
 obtain ⟨x,hxx⟩:∃ x,n=x:=⟨_,rfl⟩
 obtain ⟨y,hyy⟩:∃ y,d=y:=⟨_,rfl⟩
 subst hxx hyy
 obtain ⟨n1,a1,l1,c1,rfl⟩:=h1.any
 obtain ⟨n2,a2,l2,c2,rfl⟩:=h2.any
 obtain rfl:n2=false:=by rw [h2.sgn];exact decide_eq_false (by omega)
 have HM:=Lib.hid (Nw.start w n1 false a1 a2 l1 c1 l2 c2 n d 31 31 33 h1 h2)
 have HZ:Hid (True∧decide (n=0)=false):=Lib.hid ⟨trivial,decide_eq_false hn⟩
 have hy0:0<d:=by have:=hy.out.2;omega
 have HY0:=Lib.hid hy0
 have HX0:Hid (n≠0):=Lib.hid (by have:=hx.out.2;omega)
 obtain ⟨X,hX⟩:∃ X:Int,((n.natAbs:Nat):Int)=X:=⟨_,rfl⟩
 obtain ⟨G,hG⟩:∃ G:Int,((Int.gcd X d:Nat):Int)=G:=⟨_,rfl⟩
 have hG0:0<G:=by have:=Int.gcd_pos_of_ne_zero_right X (show d≠0 by omega);omega
 have HG0:=Lib.hid hG0
 have HXX:=Lib.hid (And.intro trivial hX)
 have HGG:=Lib.hid (And.intro trivial hG)
 have HLX:Hid ((dg X.natAbs).length≤1000):=Lib.hid (by rw [← hX,Int.natAbs_natCast];exact hl.out.1)
 have HLG:Hid ((dg G.natAbs).length≤1000):=Lib.hid (by
  rw [← hG,Int.natAbs_natCast]
  exact Nat.le_trans (dg_mono _ _ (Nat.le_of_dvd (by omega) (Int.gcd_dvd_natAbs_right X d))) hl.out.2)
 obtain ⟨M,hM⟩:∃ M:Int,X/G=M:=⟨_,rfl⟩
 obtain ⟨E,hE⟩:∃ M:Int,d/G=M:=⟨_,rfl⟩
 have HMV:Hid (Dv X G M 0):=Lib.hid (by rw [← hM];exact dv_div X G hG0 (by rw [← hG];exact Int.gcd_dvd_left _ _))
 have HEV:Hid (Dv d G E 0):=Lib.hid (by rw [← hE];exact dv_div d G hG0 (by rw [← hG];exact Int.gcd_dvd_right _ _))
 have HPQ:=Lib.hid (divInt_parts n d X G M E q hy0 hX hG hM hE hq.out)
 have HBN:Hid (True∧n1=decide (n<0)):=Lib.hid ⟨trivial,h1.sgn⟩
 clear h1 h2 hn hd hy0 hX hG hG0 hM hE
 obtain ⟨k0,k1,k2,k3⟩:=HM.out.cells
 go_enter Tryz.func44,Tryz.ntmps44
 go_wp2_with fail
 refine (rzero_any _ n false _ HM.out.r1 HZ).mono ?_
 rintro e w1 ⟨rfl,hb1⟩
 have HM1:=Lib.hid (HM.out.keep hb1 (Nat.le_refl _))
 clear HM hb1 k0 k1 k2 k3
 obtain ⟨k0,k1,k2,k3⟩:=HM1.out.cells
 go_upto_region 5 with fail
 go_cut [5] (fun t wx=>∃ (g5:Nat) (nG:Bool) (aG:Option Addr) (lG cG:Nat),t = .pointer (some ⟨g5,0,none⟩)∧Hid (w.heap.size+3≤g5∧Nw w wx n1 a1 l1 c1 false a2 l2 c2 n d∧Bx wx g5 (.bool nG) (.slice aG lG cG)∧Ref wx (.agg #[.bool nG,.slice aG lG cG]) G))
 case first =>
  clear k0 k1 k2 k3
  have HN:=Lib.hid HM1.out.drew
  have hs1:w.heap.size+3≤w1.heap.size:=HM1.out.far
  have HNA:Hid (Nw w (w1.alloc (.cells #[.bool false,.slice none 0 0] 31)).drew n1 a1 l1 c1 false a2 l2 c2 n d):=Lib.hid HM1.out.up.drew
  obtain ⟨k0,k1,k2,k3⟩:=HN.out.cells
  obtain ⟨i0,i1,i2,i3⟩:=HNA.out.cells
  go_region_held3 (fun w'=>w'.cell? ⟨w.heap.size,0,none⟩=some (.bool n1)∧w'.cell? ⟨w.heap.size,1,none⟩=some (.slice a1 l1 c1)∧w'.cell? ⟨w.heap.size+1,0,none⟩=some (.bool false)∧w'.cell? ⟨w.heap.size+1,1,none⟩=some (.slice a2 l2 c2)) (first | ((try dsimp only);(repeat' apply And.intro);all_goals with_reducible assumption) | ((try dsimp only);(repeat' apply And.intro);all_goals (first | with_reducible assumption | (with_reducible refine cell_alloc ?_;with_reducible assumption) | (with_reducible refine cell_alloc (cell_alloc ?_);with_reducible assumption))) | ((try dsimp only);(repeat' apply And.intro);all_goals (repeat' (first | with_reducible assumption | with_reducible refine cell_alloc ?_ | with_reducible refine cell_off ?_ ?_ | omega))) | go_keep) (first | (go_at_call 80;refine (rabs_any _ n X _ (by (first | exact HN.out.r1 | exact HNA.out.r1)) HXX).mono ?_;rintro e w2 ⟨v2,rfl,hv2,hb2⟩;have hN2:Nw w w2 n1 a1 l1 c1 false a2 l2 c2 n d:=(by first | exact HN.out.keep hb2 (Nat.le_refl _) | exact HNA.out.keep hb2 (Nat.le_refl _));have hs2:=hb2.size;(try simp only [World.size_alloc,drew_size] at hs2);obtain ⟨n3,a3,l3,c3,rfl⟩:=hv2.any;clear k0 k1 k2 k3 i0 i1 i2 i3;obtain ⟨j0,j1,j2,j3⟩:=hN2.cells) | (go_at_call 79;refine (rGcd_any _ _ X d _ (by first | exact hv2 | exact hv2.up) (by first | exact hN2.r2 | exact hN2.r2.up) HLX.out hl.out.2).mono ?_;rintro e w3 ⟨v3,rfl,hv3,hb3⟩;rw [HGG.out.2] at hv3;have hN3:Nw w w3 n1 a1 l1 c1 false a2 l2 c2 n d:=(by first | exact hN2.keep hb3 (Nat.le_refl _) | exact hN2.up.keep hb3 (Nat.le_refl _));have hs3:=hb3.size;(try simp only [World.size_alloc,drew_size] at hs3);obtain ⟨n4,a4,l4,c4,rfl⟩:=hv3.any;clear j0 j1 j2 j3;obtain ⟨m0,m1,m2,m3⟩:=hN3.cells;(first | (have hX:Bx w3 w2.heap.size (.bool false) (.slice none 0 0):=(Bx.new w2 _ _ 31).below hb3 (by simp);obtain ⟨y0,y1,y2,y3⟩:=hX.cell) | (have hX:Bx w3 w1.heap.size (.bool false) (.slice none 0 0):=((Bx.new w1 _ _ 31).drew.below hb2 (by simp)).below hb3 (by omega);obtain ⟨y0,y1,y2,y3⟩:=hX.cell) | skip)))
  all_goals (go_wp2_with fail;go_meet;case rel=>(refine ⟨_,n4,a4,l4,c4,rfl,?_⟩;refine Lib.hid ⟨?_,?_,?_,?_⟩;all_goals (repeat' (first | with_reducible assumption | with_reducible exact Bx.new _ _ _ _ | with_reducible exact second_box _ _ _ _ _ () | with_reducible refine Nw.away ?_ ?_ ?_ | with_reducible refine Nv.away ?_ ?_ ?_ ?_ | with_reducible refine Nv.up ?_ | with_reducible refine Ref.away ?_ ?_ | with_reducible refine Bx.putZ ?_ | with_reducible refine Bx.offZ ?_ ?_ | with_reducible refine Nw.up ?_ | with_reducible refine Ref.up ?_ | with_reducible refine Bx.alloc ?_ _ | with_reducible refine Bx.below ?_ hb3 ?_ | with_reducible refine Bx.below ?_ hb2 ?_ | with_reducible refine Bx.drew ?_ | omega | (simp only [World.size_alloc,drew_size];omega)))))
 case rest =>
 obtain ⟨g5,nG,aG,lG,cG,rfl,HR5⟩:=hcut
 obtain ⟨w4,rfl⟩:∃ w4:World,w4=wc:=⟨_,rfl⟩
 have HV4:Hid (Nv w w4 n1 a1 l1 c1 false a2 l2 c2 n d g5 nG aG lG cG G):=Lib.hid ⟨HR5.out.2.1,HR5.out.1,HR5.out.2.2.1,HR5.out.2.2.2⟩
 clear HR5 HM1 k0 k1 k2 k3
 obtain ⟨k0,k1,k2,k3,k4,k5⟩:=HV4.out.cells
 go_upto_region 6 with fail
 go_cut [6] (fun t wx=>∃ (g6:Nat) (n6:Bool) (a6:Option Addr) (l6 c6:Nat),t = .pointer (some ⟨g6,0,none⟩)∧Hid (w.heap.size+3≤g6∧g5≠g6∧Nv w wx n1 a1 l1 c1 false a2 l2 c2 n d g5 nG aG lG cG G∧Bx wx g6 (.bool n6) (.slice a6 l6 c6)∧Ref wx (.agg #[.bool n6,.slice a6 l6 c6]) M))
 case first =>
  clear k0 k1 k2 k3 k4 k5
  have hs4:w.heap.size+3≤w4.heap.size:=HV4.out.nw.far
  have hg5:g5<w4.heap.size:=HV4.out.lt
  have HN:=Lib.hid HV4.out.drew
  have HNA:Hid (Nv w (w4.alloc (.cells #[.bool false,.slice none 0 0] 31)).drew n1 a1 l1 c1 false a2 l2 c2 n d g5 nG aG lG cG G):=Lib.hid HV4.out.up.drew
  have HNB:Hid (Nv w ((w4.alloc (.cells #[.bool false,.slice none 0 0] 31)).alloc (.cells #[.bool false,.slice none 0 0] 31)).drew n1 a1 l1 c1 false a2 l2 c2 n d g5 nG aG lG cG G):=Lib.hid HV4.out.up.up.drew
  obtain ⟨k0,k1,k2,k3,k4,k5⟩:=HN.out.cells
  obtain ⟨i0,i1,i2,i3,i4,i5⟩:=HNA.out.cells
  obtain ⟨u0,u1,u2,u3,u4,u5⟩:=HNB.out.cells
  go_region_held3 (fun w'=>w'.cell? ⟨w.heap.size,0,none⟩=some (.bool n1)∧w'.cell? ⟨w.heap.size,1,none⟩=some (.slice a1 l1 c1)∧w'.cell? ⟨g5,0,none⟩=some (.bool nG)∧w'.cell? ⟨g5,1,none⟩=some (.slice aG lG cG)) (first | ((try dsimp only);(repeat' apply And.intro);all_goals with_reducible assumption) | ((try dsimp only);(repeat' apply And.intro);all_goals (first | with_reducible assumption | (with_reducible refine cell_alloc ?_;with_reducible assumption) | (with_reducible refine cell_alloc (cell_alloc ?_);with_reducible assumption))) | ((try dsimp only);(repeat' apply And.intro);all_goals (repeat' (first | with_reducible assumption | with_reducible refine cell_alloc ?_ | with_reducible refine cell_off ?_ ?_ | omega))) | go_keep) (first | (go_at_call 80;refine (rabs_any _ n X _ (by first | exact HN.out.nw.r1 | exact HNA.out.nw.r1 | exact HNB.out.nw.r1) HXX).mono ?_;rintro e w5 ⟨v5,rfl,hv5,hb5⟩;have hN5:Nv w w5 n1 a1 l1 c1 false a2 l2 c2 n d g5 nG aG lG cG G:=(by first | exact HN.out.keep hb5 (Nat.le_refl _) | exact HNA.out.keep hb5 (Nat.le_refl _) | exact HNB.out.keep hb5 (Nat.le_refl _));have hs5:=hb5.size;(try simp only [World.size_alloc,drew_size] at hs5);obtain ⟨n7,a7,l7,c7,rfl⟩:=hv5.any;clear k0 k1 k2 k3 k4 k5 i0 i1 i2 i3 i4 i5 u0 u1 u2 u3 u4 u5;obtain ⟨j0,j1,j2,j3,j4,j5⟩:=hN5.cells) | (go_at_call 81;refine (rDivMod_any _ _ X G _ (by first | exact hv5 | exact hv5.up | exact hv5.up.up) (by first | exact hN5.r | exact hN5.r.up | exact hN5.r.up.up) HLX.out HLG.out (by have:=HG0.out;omega)).mono ?_;rintro e w6 ⟨vq,vr,qq,rr,rfl,hvq,hvr,hdv,hb6⟩;obtain ⟨eq1,_⟩:=hdv.unique HMV.out;rw [eq1] at hvq;clear eq1 hdv;have hN6:Nv w w6 n1 a1 l1 c1 false a2 l2 c2 n d g5 nG aG lG cG G:=(by first | exact hN5.keep hb6 (Nat.le_refl _) | exact hN5.up.keep hb6 (Nat.le_refl _) | exact hN5.up.up.keep hb6 (Nat.le_refl _));have hs6:=hb6.size;(try simp only [World.size_alloc,drew_size] at hs6);obtain ⟨n8,a8,l8,c8,rfl⟩:=hvq.any;obtain ⟨n9,a9,l9,c9,rfl⟩:=hvr.any;clear j0 j1 j2 j3 j4 j5;obtain ⟨m0,m1,m2,m3,m4,m5⟩:=hN6.cells;(first | (have pA:Bx w6 w4.heap.size (.bool false) (.slice none 0 0):=(by first | exact (((Bx.new w4 _ _ 31).drew.below hb5 (by simp)).alloc _).below hb6 (by first | omega | (simp only [World.size_alloc];omega)) | exact ((Bx.new w4 _ _ 31).drew.below hb5 (by simp)).below hb6 (by first | omega | (simp only [World.size_alloc];omega)) | exact (((Bx.new w4 _ _ 31).alloc _).drew.below hb5 (by simp;omega)).below hb6 (by first | omega | (simp only [World.size_alloc];omega)));obtain ⟨pA0,pA1,pA2,pA3⟩:=pA.cell;obtain ⟨pA4,pA5,pA6,pA7⟩:=(pA.alloc (.cells #[.bool false,.slice none 0 0] 31)).cell;obtain ⟨pA8,pA9,pA10,pA11⟩:=(pA.alloc (.cells #[.bool n8,.slice a8 l8 c8] 31)).cell) | skip);(first | (have pB:Bx w6 (w4.heap.size+1) (.bool false) (.slice none 0 0):=(by first | exact ((second_box w4 _ _ _ 31 ()).drew.below hb5 (by simp)).below hb6 (by first | omega | (simp only [World.size_alloc];omega)));obtain ⟨pB0,pB1,pB2,pB3⟩:=pB.cell;obtain ⟨pB4,pB5,pB6,pB7⟩:=(pB.alloc (.cells #[.bool false,.slice none 0 0] 31)).cell;obtain ⟨pB8,pB9,pB10,pB11⟩:=(pB.alloc (.cells #[.bool n8,.slice a8 l8 c8] 31)).cell) | skip);(first | (have pC:Bx w6 w5.heap.size (.bool false) (.slice none 0 0):=(by first | exact (Bx.new w5 _ _ 31).below hb6 (by simp) | exact ((Bx.new w5 _ _ 31).alloc _).below hb6 (by simp;omega));obtain ⟨pC0,pC1,pC2,pC3⟩:=pC.cell;obtain ⟨pC4,pC5,pC6,pC7⟩:=(pC.alloc (.cells #[.bool false,.slice none 0 0] 31)).cell;obtain ⟨pC8,pC9,pC10,pC11⟩:=(pC.alloc (.cells #[.bool n8,.slice a8 l8 c8] 31)).cell) | skip);(first | (have pD:Bx w6 (w5.heap.size+1) (.bool false) (.slice none 0 0):=(by first | exact (second_box w5 _ _ _ 31 ()).below hb6 (by simp));obtain ⟨pD0,pD1,pD2,pD3⟩:=pD.cell;obtain ⟨pD4,pD5,pD6,pD7⟩:=(pD.alloc (.cells #[.bool false,.slice none 0 0] 31)).cell;obtain ⟨pD8,pD9,pD10,pD11⟩:=(pD.alloc (.cells #[.bool n8,.slice a8 l8 c8] 31)).cell) | skip);(first | (have ne1:w4.heap.size≠w5.heap.size:=(by omega);have ne2:w5.heap.size≠w4.heap.size:=(by omega);have ne3:w5.heap.size≠w4.heap.size+1:=(by omega)) | skip)))
  all_goals (go_wp2_with fail;go_meet;case rel=>(refine ⟨_,n8,a8,l8,c8,rfl,?_⟩;refine Lib.hid ⟨?_,?_,?_,?_,?_⟩;all_goals (repeat' (first | with_reducible assumption | with_reducible exact Bx.new _ _ _ _ | with_reducible exact second_box _ _ _ _ _ () | with_reducible refine Nw.away ?_ ?_ ?_ | with_reducible refine Nv.away ?_ ?_ ?_ ?_ | with_reducible refine Nv.up ?_ | with_reducible refine Ref.away ?_ ?_ | with_reducible refine Bx.putZ ?_ | with_reducible refine Bx.offZ ?_ ?_ | with_reducible refine Nw.up ?_ | with_reducible refine Ref.up ?_ | with_reducible refine Bx.alloc ?_ _ | with_reducible refine Bx.drew ?_ | omega | (simp only [World.size_alloc,drew_size];omega)))))
 case rest =>
 obtain ⟨g6,n6,a6,l6,c6,rfl,HR6⟩:=hcut
 obtain ⟨w7,rfl⟩:∃ w7:World,w7=wc:=⟨_,rfl⟩
 clear HV4 k0 k1 k2 k3 k4 k5
 obtain ⟨k0,k1,k2,k3,k4,k5⟩:=HR6.out.2.2.1.cells
 go_wp2_with fail
 refine (rDivMod_any _ _ d G _ HR6.out.2.2.1.nw.r2 HR6.out.2.2.1.r hl.out.2 HLG.out (by have:=HG0.out;omega)).mono ?_
 rintro e w8 ⟨vq,vr,qq,rr,rfl,hvq,hvr,hdv,hb8⟩
 obtain ⟨eq1,_⟩:=hdv.unique HEV.out
 rw [eq1] at hvq
 obtain ⟨n8,a8,l8,c8,rfl⟩:=hvq.any
 obtain ⟨n9,a9,l9,c9,rfl⟩:=hvr.any
 have hN8:=HR6.out.2.2.1.keep hb8 (Nat.le_refl _)
 have hX8:=HR6.out.2.2.2.1.below hb8 HR6.out.2.2.2.1.lt
 have hM8:=HR6.out.2.2.2.2.keep hb8 (Nat.le_refl _)
 have HN9:Hid (Nv w ((w8.alloc (.cells #[.bool n8,.slice a8 l8 c8] 31)).alloc (.cells #[.bool n9,.slice a9 l9 c9] 31)) n1 a1 l1 c1 false a2 l2 c2 n d g5 nG aG lG cG G):=Lib.hid hN8.up.up
 have HX9:=Lib.hid ((hX8.alloc (.cells #[.bool n8,.slice a8 l8 c8] 31)).alloc (.cells #[.bool n9,.slice a9 l9 c9] 31))
 have HM9:Hid (Ref ((w8.alloc (.cells #[.bool n8,.slice a8 l8 c8] 31)).alloc (.cells #[.bool n9,.slice a9 l9 c9] 31)) (.agg #[.bool n6,.slice a6 l6 c6]) M):=Lib.hid hM8.up.up
 have HE9:Hid (Ref ((w8.alloc (.cells #[.bool n8,.slice a8 l8 c8] 31)).alloc (.cells #[.bool n9,.slice a9 l9 c9] 31)) (.agg #[.bool n8,.slice a8 l8 c8]) E):=Lib.hid hvq.up.up
 have HE8:=Lib.hid ((Bx.new w8 (.bool n8) (.slice a8 l8 c8) 31).alloc (.cells #[.bool n9,.slice a9 l9 c9] 31))
 have hfar:w.heap.size+3≤w8.heap.size:=hN8.nw.far
 have hg6:g6<w8.heap.size:=hX8.lt
 have h6:w.heap.size+3≤g6:=HR6.out.1
 have ne1:w8.heap.size≠g6:=by omega
 have ne2:g6≠w8.heap.size:=by omega
 have ne3:g6≠w8.heap.size+1:=by omega
 clear HR6 hdv eq1 hvq hvr hb8 hN8 hX8 hM8 k0 k1 k2 k3 k4 k5 HMV HEV HLX HLG HG0 HXX HGG
 have hsg:(n1=true∧q.num = -M)∨(n1=false∧q.num=M):=by
  have h1:=HBN.out.2
  by_cases hs:n<0
  · exact .inl ⟨by rw [h1];exact decide_eq_true hs,HPQ.out.2.1 hs⟩
  · exact .inr ⟨by rw [h1];exact decide_eq_false hs,HPQ.out.2.2 (by first | exact hs | omega)⟩
 obtain ⟨k0,k1,_,_,_,_⟩:=HN9.out.cells
 obtain ⟨x0,x1,x2,x3⟩:=HX9.out.cell
 obtain ⟨y0,y1,_,_⟩:=HE8.out.cell
 obtain ⟨z0,z1,z2,z3⟩:=HN9.out.nw.box3.cell
 obtain ⟨z4,z5,z6,z7⟩:=HN9.out.nw.box3.froz
 have HED:Hid ((q.den:Int)=E):=Lib.hid HPQ.out.1
 rcases hsg with ⟨rfl,hqn⟩ | ⟨rfl,hqn⟩
 · have HNG:Hid (True ∧ -M=q.num):=Lib.hid ⟨trivial,hqn.symm⟩
   clear hqn
   go_wp2_with fail
   refine (rNeg_any _ M _ HM9.out).mono ?_
   rintro e wA ⟨vA,rfl,hvA,hbA⟩
   rw [HNG.out.2] at hvA
   obtain ⟨nA,aA,lA,cA,rfl⟩:=hvA.any
   have hN10:=HN9.out.keep hbA (Nat.le_refl _)
   have hX10:=HX9.out.below hbA HX9.out.lt
   have hE10:=HE9.out.keep hbA (Nat.le_refl _)
   have hY10:=HE8.out.below hbA HE8.out.lt
   rw [← HED.out] at hE10
   clear k0 k1 x0 x1 x2 x3 y0 y1 z0 z1 z2 z3 z4 z5 z6 z7
   have HR:Hid (RRef wA (.agg #[.bool nA,.slice aA lA cA,.bool n8,.slice a8 l8 c8]) q):=Lib.hid ⟨_,_,_,_,_,_,_,_,rfl,hvA,hE10⟩
   have HR2:Hid (RRef ((wA.setCell ⟨g6,0,none⟩ (.bool nA)).setCell ⟨g6,1,none⟩ (.slice aA lA cA)) (.agg #[.bool nA,.slice aA lA cA,.bool n8,.slice a8 l8 c8]) q):=Lib.hid (HR.out.box2 hX10 _ _)
   have o:=((Only.refl g6 wA).set 0 (.bool nA)).set 1 (.slice aA lA cA)
   have HB3:=Lib.hid (hN10.nw.box3.only o (by omega))
   have HBW:=Lib.hid (hN10.nw.below.trans (o.below (by omega)))
   obtain ⟨x0,x1,x2,x3⟩:=hX10.cell
   obtain ⟨y0,y1,_,_⟩:=hY10.cell
   obtain ⟨z0,z1,z2,z3⟩:=hN10.nw.box3.cell
   obtain ⟨z4,z5,z6,z7⟩:=hN10.nw.box3.froz
   have ne4:w.heap.size+1+1≠g6:=by omega
   clear hvA hbA hN10 hX10 hE10 hY10 o HN9 HX9 HM9 HE9 HE8
   go_wp2
   obtain ⟨l0,l1',l2',l3'⟩:=(HB3.out.put (.bool nA) (.slice aA lA cA) (.bool n8) (.slice a8 l8 c8)).cell
   refine bodyPost_ret (v := .agg #[.bool nA,.slice aA lA cA,.bool n8,.slice a8 l8 c8]) (by simp only [results,Tryz.results44];simp [go_sem,l0,l1',l2',l3']) rfl ?_
   exact RRPost.boxed HR2.out HB3.out HBW.out (by omega) _ _ _ _
 · have hr1:=HM9.out
   have hr2:=HE9.out
   rw [← hqn] at hr1
   rw [← HED.out] at hr2
   have HR:Hid (RRef ((w8.alloc (.cells #[.bool n8,.slice a8 l8 c8] 31)).alloc (.cells #[.bool n9,.slice a9 l9 c9] 31)) (.agg #[.bool n6,.slice a6 l6 c6,.bool n8,.slice a8 l8 c8]) q):=Lib.hid ⟨_,_,_,_,_,_,_,_,rfl,hr1,hr2⟩
   clear hqn hr1 hr2
   go_wp2
   obtain ⟨l0,l1',l2',l3'⟩:=(HN9.out.nw.box3.put (.bool n6) (.slice a6 l6 c6) (.bool n8) (.slice a8 l8 c8)).cell
   refine bodyPost_ret (v := .agg #[.bool n6,.slice a6 l6 c6,.bool n8,.slice a8 l8 c8]) (by simp only [results,Tryz.results44];simp [go_sem,l0,l1',l2',l3']) rfl ?_
   exact RRPost.boxed HR.out HN9.out.nw.box3 HN9.out.nw.below (by omega) _ _ _ _
set_option maxRecDepth 100000 in
set_option maxHeartbeats 12800000 in
theorem rNew_neg (v1 v2:Value) (n d x y:Int) (q:Rat) (w:World) (h1:Ref w v1 n) (h2:Ref w v2 d) (hn:n≠0) (hd:d<0) (hx:Hid (True ∧ -n=x)) (hy:Hid (True ∧ -d=y)) (hl:Hid ((dg x.natAbs).length≤1000∧(dg y.natAbs).length≤1000)) (hq:Hid (Rat.divInt x y=q)) :
 Calls Tryz.prog 44 #[v1,v2] w (RRPost q w):=by
 obtain ⟨n1,a1,l1,c1,rfl⟩:=h1.any
 obtain ⟨n2,a2,l2,c2,rfl⟩:=h2.any
 obtain rfl:n2=true:=by rw [h2.sgn];exact decide_eq_true hd
 have HM:=Lib.hid (Nw.start w n1 true a1 a2 l1 c1 l2 c2 n d 31 31 33 h1 h2)
 have HZ:Hid (True∧decide (n=0)=false):=Lib.hid ⟨trivial,decide_eq_false hn⟩
 have hy0:0<y:=by have:=hy.out.2;omega
 have HY0:=Lib.hid hy0
 have HX0:Hid (x≠0):=Lib.hid (by have:=hx.out.2;omega)
 obtain ⟨X,hX⟩:∃ X:Int,((x.natAbs:Nat):Int)=X:=⟨_,rfl⟩
 obtain ⟨G,hG⟩:∃ G:Int,((Int.gcd X y:Nat):Int)=G:=⟨_,rfl⟩
 have hG0:0<G:=by have:=Int.gcd_pos_of_ne_zero_right X (show y≠0 by omega);omega
 have HG0:=Lib.hid hG0
 have HXX:=Lib.hid (And.intro trivial hX)
 have HGG:=Lib.hid (And.intro trivial hG)
 have HLX:Hid ((dg X.natAbs).length≤1000):=Lib.hid (by rw [← hX,Int.natAbs_natCast];exact hl.out.1)
 have HLG:Hid ((dg G.natAbs).length≤1000):=Lib.hid (by
  rw [← hG,Int.natAbs_natCast]
  exact Nat.le_trans (dg_mono _ _ (Nat.le_of_dvd (by omega) (Int.gcd_dvd_natAbs_right X y))) hl.out.2)
 obtain ⟨M,hM⟩:∃ M:Int,X/G=M:=⟨_,rfl⟩
 obtain ⟨E,hE⟩:∃ M:Int,y/G=M:=⟨_,rfl⟩
 have HMV:Hid (Dv X G M 0):=Lib.hid (by rw [← hM];exact dv_div X G hG0 (by rw [← hG];exact Int.gcd_dvd_left _ _))
 have HEV:Hid (Dv y G E 0):=Lib.hid (by rw [← hE];exact dv_div y G hG0 (by rw [← hG];exact Int.gcd_dvd_right _ _))
 have HPQ:=Lib.hid (divInt_parts x y X G M E q hy0 hX hG hM hE hq.out)
 have HBN:Hid (True∧n1=decide (n<0)):=Lib.hid ⟨trivial,h1.sgn⟩
 clear h1 h2 hn hd hy0 hX hG hG0 hM hE
 obtain ⟨k0,k1,k2,k3⟩:=HM.out.cells
 go_enter Tryz.func44,Tryz.ntmps44
 go_wp2_with fail
 refine (rzero_any _ n false _ HM.out.r1 HZ).mono ?_
 rintro e w1 ⟨rfl,hb1⟩
 have HM1:=Lib.hid (HM.out.keep hb1 (Nat.le_refl _))
 clear HM hb1 k0 k1 k2 k3
 obtain ⟨k0,k1,k2,k3⟩:=HM1.out.cells
 have hx' : -n=x:=by have:=hx.out.2;omega
 have hy' : -d=y:=by have:=hy.out.2;omega
 have HX':=Lib.hid (And.intro trivial hx')
 have HY':=Lib.hid (And.intro trivial hy')
 clear hx' hy'
 go_upto_region 4 with fail
 go_cut [20] (fun t wx=>∃ (m1:Bool) (b1:Option Addr) (k1 d1:Nat) (m2:Bool) (b2:Option Addr) (k2 d2:Nat),Hid (Nw w wx m1 b1 k1 d1 m2 b2 k2 d2 x y))
 case first =>
  clear k0 k1 k2 k3
  have HN:=Lib.hid HM1.out.drew
  obtain ⟨k0,k1,k2,k3⟩:=HN.out.cells
  obtain ⟨u0,u1,u2,u3⟩:=HN.out.free
  first | go_region_with (first | (go_at_call 78;have hgd:=hN2;clear hgd;refine (rNeg_any _ d _ (by exact hN2.r2)).mono ?_;rintro e w3 ⟨v3,rfl,hv3,hb3⟩;rw [HY'.out.2] at hv3;have hN3:=hN2.keep hb3 (Nat.le_refl _);have hv2':=hv2.keep hb3 (Nat.le_refl _);obtain ⟨m2,b2,k2',d2,rfl⟩:=hv3.any;obtain ⟨q0,q1,q2,q3⟩:=hN3.cells;obtain ⟨r0,r1,r2,r3⟩:=hN3.free) | (go_at_call 78;refine (rNeg_any _ n _ (by exact HN.out.r1)).mono ?_;rintro e w2 ⟨v2,rfl,hv2,hb2⟩;rw [HX'.out.2] at hv2;have hN2:=HN.out.keep hb2 (Nat.le_refl _);obtain ⟨m1,b1,k1',d1,rfl⟩:=hv2.any;obtain ⟨j0,j1,j2,j3⟩:=hN2.cells)) | fail
  all_goals (go_wp2_with fail;go_meet;case rel=>exact ⟨m1,b1,k1',d1,m2,b2,k2',d2,Lib.hid (by first | exact hN3.both hv2' hv3 | exact hN3.both' hv2' hv3)⟩)
 case rest =>
 obtain ⟨n1,a1,l1,c1,n2,a2,l2,c2,HM1⟩:=hcut
 obtain ⟨w1,rfl⟩:∃ w1:World,w1=wc:=⟨_,rfl⟩
 have HBN:Hid (True∧n1=decide (x<0)):=Lib.hid ⟨trivial,HM1.out.r1.sgn⟩
 clear k0 k1 k2 k3 HX' HY' hx hy
 obtain ⟨k0,k1,k2,k3⟩:=HM1.out.cells
 go_upto_region 5 with fail
 go_cut [5] (fun t wx=>∃ (g5:Nat) (nG:Bool) (aG:Option Addr) (lG cG:Nat),t = .pointer (some ⟨g5,0,none⟩)∧Hid (w.heap.size+3≤g5∧Nw w wx n1 a1 l1 c1 n2 a2 l2 c2 x y∧Bx wx g5 (.bool nG) (.slice aG lG cG)∧Ref wx (.agg #[.bool nG,.slice aG lG cG]) G))
 case first =>
  clear k0 k1 k2 k3
  have HN:=Lib.hid HM1.out.drew
  have hs1:w.heap.size+3≤w1.heap.size:=HM1.out.far
  have HNA:Hid (Nw w (w1.alloc (.cells #[.bool false,.slice none 0 0] 31)).drew n1 a1 l1 c1 n2 a2 l2 c2 x y):=Lib.hid HM1.out.up.drew
  obtain ⟨k0,k1,k2,k3⟩:=HN.out.cells
  obtain ⟨i0,i1,i2,i3⟩:=HNA.out.cells
  go_region_held3 (fun w'=>w'.cell? ⟨w.heap.size,0,none⟩=some (.bool n1)∧w'.cell? ⟨w.heap.size,1,none⟩=some (.slice a1 l1 c1)∧w'.cell? ⟨w.heap.size+1,0,none⟩=some (.bool n2)∧w'.cell? ⟨w.heap.size+1,1,none⟩=some (.slice a2 l2 c2)) (first | ((try dsimp only);(repeat' apply And.intro);all_goals with_reducible assumption) | ((try dsimp only);(repeat' apply And.intro);all_goals (first | with_reducible assumption | (with_reducible refine cell_alloc ?_;with_reducible assumption) | (with_reducible refine cell_alloc (cell_alloc ?_);with_reducible assumption))) | ((try dsimp only);(repeat' apply And.intro);all_goals (repeat' (first | with_reducible assumption | with_reducible refine cell_alloc ?_ | with_reducible refine cell_off ?_ ?_ | omega))) | go_keep) (first | (go_at_call 80;refine (rabs_any _ x X _ (by (first | exact HN.out.r1 | exact HNA.out.r1)) HXX).mono ?_;rintro e w2 ⟨v2,rfl,hv2,hb2⟩;have hN2:Nw w w2 n1 a1 l1 c1 n2 a2 l2 c2 x y:=(by first | exact HN.out.keep hb2 (Nat.le_refl _) | exact HNA.out.keep hb2 (Nat.le_refl _));have hs2:=hb2.size;(try simp only [World.size_alloc,drew_size] at hs2);obtain ⟨n3,a3,l3,c3,rfl⟩:=hv2.any;clear k0 k1 k2 k3 i0 i1 i2 i3;obtain ⟨j0,j1,j2,j3⟩:=hN2.cells) | (go_at_call 79;refine (rGcd_any _ _ X y _ (by first | exact hv2 | exact hv2.up) (by first | exact hN2.r2 | exact hN2.r2.up) HLX.out hl.out.2).mono ?_;rintro e w3 ⟨v3,rfl,hv3,hb3⟩;rw [HGG.out.2] at hv3;have hN3:Nw w w3 n1 a1 l1 c1 n2 a2 l2 c2 x y:=(by first | exact hN2.keep hb3 (Nat.le_refl _) | exact hN2.up.keep hb3 (Nat.le_refl _));have hs3:=hb3.size;(try simp only [World.size_alloc,drew_size] at hs3);obtain ⟨n4,a4,l4,c4,rfl⟩:=hv3.any;clear j0 j1 j2 j3;obtain ⟨m0,m1,m2,m3⟩:=hN3.cells;(first | (have hX:Bx w3 w2.heap.size (.bool false) (.slice none 0 0):=(Bx.new w2 _ _ 31).below hb3 (by simp);obtain ⟨y0,y1,y2,y3⟩:=hX.cell) | (have hX:Bx w3 w1.heap.size (.bool false) (.slice none 0 0):=((Bx.new w1 _ _ 31).drew.below hb2 (by simp)).below hb3 (by omega);obtain ⟨y0,y1,y2,y3⟩:=hX.cell) | skip)))
  all_goals (go_wp2_with fail;go_meet;case rel=>(refine ⟨_,n4,a4,l4,c4,rfl,?_⟩;refine Lib.hid ⟨?_,?_,?_,?_⟩;all_goals (repeat' (first | with_reducible assumption | with_reducible exact Bx.new _ _ _ _ | with_reducible exact second_box _ _ _ _ _ () | with_reducible refine Nw.away ?_ ?_ ?_ | with_reducible refine Nv.away ?_ ?_ ?_ ?_ | with_reducible refine Nv.up ?_ | with_reducible refine Ref.away ?_ ?_ | with_reducible refine Bx.putZ ?_ | with_reducible refine Bx.offZ ?_ ?_ | with_reducible refine Nw.up ?_ | with_reducible refine Ref.up ?_ | with_reducible refine Bx.alloc ?_ _ | with_reducible refine Bx.below ?_ hb3 ?_ | with_reducible refine Bx.below ?_ hb2 ?_ | with_reducible refine Bx.drew ?_ | omega | (simp only [World.size_alloc,drew_size];omega)))))
 case rest =>
 obtain ⟨g5,nG,aG,lG,cG,rfl,HR5⟩:=hcut
 obtain ⟨w4,rfl⟩:∃ w4:World,w4=wc:=⟨_,rfl⟩
 have HV4:Hid (Nv w w4 n1 a1 l1 c1 n2 a2 l2 c2 x y g5 nG aG lG cG G):=Lib.hid ⟨HR5.out.2.1,HR5.out.1,HR5.out.2.2.1,HR5.out.2.2.2⟩
 clear HR5 HM1 k0 k1 k2 k3
 obtain ⟨k0,k1,k2,k3,k4,k5⟩:=HV4.out.cells
 go_upto_region 6 with fail
 go_cut [6] (fun t wx=>∃ (g6:Nat) (n6:Bool) (a6:Option Addr) (l6 c6:Nat),t = .pointer (some ⟨g6,0,none⟩)∧Hid (w.heap.size+3≤g6∧g5≠g6∧Nv w wx n1 a1 l1 c1 n2 a2 l2 c2 x y g5 nG aG lG cG G∧Bx wx g6 (.bool n6) (.slice a6 l6 c6)∧Ref wx (.agg #[.bool n6,.slice a6 l6 c6]) M))
 case first =>
  clear k0 k1 k2 k3 k4 k5
  have hs4:w.heap.size+3≤w4.heap.size:=HV4.out.nw.far
  have hg5:g5<w4.heap.size:=HV4.out.lt
  have HN:=Lib.hid HV4.out.drew
  have HNA:Hid (Nv w (w4.alloc (.cells #[.bool false,.slice none 0 0] 31)).drew n1 a1 l1 c1 n2 a2 l2 c2 x y g5 nG aG lG cG G):=Lib.hid HV4.out.up.drew
  have HNB:Hid (Nv w ((w4.alloc (.cells #[.bool false,.slice none 0 0] 31)).alloc (.cells #[.bool false,.slice none 0 0] 31)).drew n1 a1 l1 c1 n2 a2 l2 c2 x y g5 nG aG lG cG G):=Lib.hid HV4.out.up.up.drew
  obtain ⟨k0,k1,k2,k3,k4,k5⟩:=HN.out.cells
  obtain ⟨i0,i1,i2,i3,i4,i5⟩:=HNA.out.cells
  obtain ⟨u0,u1,u2,u3,u4,u5⟩:=HNB.out.cells
  go_region_held3 (fun w'=>w'.cell? ⟨w.heap.size,0,none⟩=some (.bool n1)∧w'.cell? ⟨w.heap.size,1,none⟩=some (.slice a1 l1 c1)∧w'.cell? ⟨g5,0,none⟩=some (.bool nG)∧w'.cell? ⟨g5,1,none⟩=some (.slice aG lG cG)) (first | ((try dsimp only);(repeat' apply And.intro);all_goals with_reducible assumption) | ((try dsimp only);(repeat' apply And.intro);all_goals (first | with_reducible assumption | (with_reducible refine cell_alloc ?_;with_reducible assumption) | (with_reducible refine cell_alloc (cell_alloc ?_);with_reducible assumption))) | ((try dsimp only);(repeat' apply And.intro);all_goals (repeat' (first | with_reducible assumption | with_reducible refine cell_alloc ?_ | with_reducible refine cell_off ?_ ?_ | omega))) | go_keep) (first | (go_at_call 80;refine (rabs_any _ x X _ (by first | exact HN.out.nw.r1 | exact HNA.out.nw.r1 | exact HNB.out.nw.r1) HXX).mono ?_;rintro e w5 ⟨v5,rfl,hv5,hb5⟩;have hN5:Nv w w5 n1 a1 l1 c1 n2 a2 l2 c2 x y g5 nG aG lG cG G:=(by first | exact HN.out.keep hb5 (Nat.le_refl _) | exact HNA.out.keep hb5 (Nat.le_refl _) | exact HNB.out.keep hb5 (Nat.le_refl _));have hs5:=hb5.size;(try simp only [World.size_alloc,drew_size] at hs5);obtain ⟨n7,a7,l7,c7,rfl⟩:=hv5.any;clear k0 k1 k2 k3 k4 k5 i0 i1 i2 i3 i4 i5 u0 u1 u2 u3 u4 u5;obtain ⟨j0,j1,j2,j3,j4,j5⟩:=hN5.cells) | (go_at_call 81;refine (rDivMod_any _ _ X G _ (by first | exact hv5 | exact hv5.up | exact hv5.up.up) (by first | exact hN5.r | exact hN5.r.up | exact hN5.r.up.up) HLX.out HLG.out (by have:=HG0.out;omega)).mono ?_;rintro e w6 ⟨vq,vr,qq,rr,rfl,hvq,hvr,hdv,hb6⟩;obtain ⟨eq1,_⟩:=hdv.unique HMV.out;rw [eq1] at hvq;clear eq1 hdv;have hN6:Nv w w6 n1 a1 l1 c1 n2 a2 l2 c2 x y g5 nG aG lG cG G:=(by first | exact hN5.keep hb6 (Nat.le_refl _) | exact hN5.up.keep hb6 (Nat.le_refl _) | exact hN5.up.up.keep hb6 (Nat.le_refl _));have hs6:=hb6.size;(try simp only [World.size_alloc,drew_size] at hs6);obtain ⟨n8,a8,l8,c8,rfl⟩:=hvq.any;obtain ⟨n9,a9,l9,c9,rfl⟩:=hvr.any;clear j0 j1 j2 j3 j4 j5;obtain ⟨m0,m1,m2,m3,m4,m5⟩:=hN6.cells;(first | (have pA:Bx w6 w4.heap.size (.bool false) (.slice none 0 0):=(by first | exact (((Bx.new w4 _ _ 31).drew.below hb5 (by simp)).alloc _).below hb6 (by first | omega | (simp only [World.size_alloc];omega)) | exact ((Bx.new w4 _ _ 31).drew.below hb5 (by simp)).below hb6 (by first | omega | (simp only [World.size_alloc];omega)) | exact (((Bx.new w4 _ _ 31).alloc _).drew.below hb5 (by simp;omega)).below hb6 (by first | omega | (simp only [World.size_alloc];omega)));obtain ⟨pA0,pA1,pA2,pA3⟩:=pA.cell;obtain ⟨pA4,pA5,pA6,pA7⟩:=(pA.alloc (.cells #[.bool false,.slice none 0 0] 31)).cell;obtain ⟨pA8,pA9,pA10,pA11⟩:=(pA.alloc (.cells #[.bool n8,.slice a8 l8 c8] 31)).cell) | skip);(first | (have pB:Bx w6 (w4.heap.size+1) (.bool false) (.slice none 0 0):=(by first | exact ((second_box w4 _ _ _ 31 ()).drew.below hb5 (by simp)).below hb6 (by first | omega | (simp only [World.size_alloc];omega)));obtain ⟨pB0,pB1,pB2,pB3⟩:=pB.cell;obtain ⟨pB4,pB5,pB6,pB7⟩:=(pB.alloc (.cells #[.bool false,.slice none 0 0] 31)).cell;obtain ⟨pB8,pB9,pB10,pB11⟩:=(pB.alloc (.cells #[.bool n8,.slice a8 l8 c8] 31)).cell) | skip);(first | (have pC:Bx w6 w5.heap.size (.bool false) (.slice none 0 0):=(by first | exact (Bx.new w5 _ _ 31).below hb6 (by simp) | exact ((Bx.new w5 _ _ 31).alloc _).below hb6 (by simp;omega));obtain ⟨pC0,pC1,pC2,pC3⟩:=pC.cell;obtain ⟨pC4,pC5,pC6,pC7⟩:=(pC.alloc (.cells #[.bool false,.slice none 0 0] 31)).cell;obtain ⟨pC8,pC9,pC10,pC11⟩:=(pC.alloc (.cells #[.bool n8,.slice a8 l8 c8] 31)).cell) | skip);(first | (have pD:Bx w6 (w5.heap.size+1) (.bool false) (.slice none 0 0):=(by first | exact (second_box w5 _ _ _ 31 ()).below hb6 (by simp));obtain ⟨pD0,pD1,pD2,pD3⟩:=pD.cell;obtain ⟨pD4,pD5,pD6,pD7⟩:=(pD.alloc (.cells #[.bool false,.slice none 0 0] 31)).cell;obtain ⟨pD8,pD9,pD10,pD11⟩:=(pD.alloc (.cells #[.bool n8,.slice a8 l8 c8] 31)).cell) | skip);(first | (have ne1:w4.heap.size≠w5.heap.size:=(by omega);have ne2:w5.heap.size≠w4.heap.size:=(by omega);have ne3:w5.heap.size≠w4.heap.size+1:=(by omega)) | skip)))
  all_goals (go_wp2_with fail;go_meet;case rel=>(refine ⟨_,n8,a8,l8,c8,rfl,?_⟩;refine Lib.hid ⟨?_,?_,?_,?_,?_⟩;all_goals (repeat' (first | with_reducible assumption | with_reducible exact Bx.new _ _ _ _ | with_reducible exact second_box _ _ _ _ _ () | with_reducible refine Nw.away ?_ ?_ ?_ | with_reducible refine Nv.away ?_ ?_ ?_ ?_ | with_reducible refine Nv.up ?_ | with_reducible refine Ref.away ?_ ?_ | with_reducible refine Bx.putZ ?_ | with_reducible refine Bx.offZ ?_ ?_ | with_reducible refine Nw.up ?_ | with_reducible refine Ref.up ?_ | with_reducible refine Bx.alloc ?_ _ | with_reducible refine Bx.drew ?_ | omega | (simp only [World.size_alloc,drew_size];omega)))))
 case rest =>
 obtain ⟨g6,n6,a6,l6,c6,rfl,HR6⟩:=hcut
 obtain ⟨w7,rfl⟩:∃ w7:World,w7=wc:=⟨_,rfl⟩
 clear HV4 k0 k1 k2 k3 k4 k5
 obtain ⟨k0,k1,k2,k3,k4,k5⟩:=HR6.out.2.2.1.cells
 go_wp2_with fail
 refine (rDivMod_any _ _ y G _ HR6.out.2.2.1.nw.r2 HR6.out.2.2.1.r hl.out.2 HLG.out (by have:=HG0.out;omega)).mono ?_
 rintro e w8 ⟨vq,vr,qq,rr,rfl,hvq,hvr,hdv,hb8⟩
 obtain ⟨eq1,_⟩:=hdv.unique HEV.out
 rw [eq1] at hvq
 obtain ⟨n8,a8,l8,c8,rfl⟩:=hvq.any
 obtain ⟨n9,a9,l9,c9,rfl⟩:=hvr.any
 have hN8:=HR6.out.2.2.1.keep hb8 (Nat.le_refl _)
 have hX8:=HR6.out.2.2.2.1.below hb8 HR6.out.2.2.2.1.lt
 have hM8:=HR6.out.2.2.2.2.keep hb8 (Nat.le_refl _)
 have HN9:Hid (Nv w ((w8.alloc (.cells #[.bool n8,.slice a8 l8 c8] 31)).alloc (.cells #[.bool n9,.slice a9 l9 c9] 31)) n1 a1 l1 c1 n2 a2 l2 c2 x y g5 nG aG lG cG G):=Lib.hid hN8.up.up
 have HX9:=Lib.hid ((hX8.alloc (.cells #[.bool n8,.slice a8 l8 c8] 31)).alloc (.cells #[.bool n9,.slice a9 l9 c9] 31))
 have HM9:Hid (Ref ((w8.alloc (.cells #[.bool n8,.slice a8 l8 c8] 31)).alloc (.cells #[.bool n9,.slice a9 l9 c9] 31)) (.agg #[.bool n6,.slice a6 l6 c6]) M):=Lib.hid hM8.up.up
 have HE9:Hid (Ref ((w8.alloc (.cells #[.bool n8,.slice a8 l8 c8] 31)).alloc (.cells #[.bool n9,.slice a9 l9 c9] 31)) (.agg #[.bool n8,.slice a8 l8 c8]) E):=Lib.hid hvq.up.up
 have HE8:=Lib.hid ((Bx.new w8 (.bool n8) (.slice a8 l8 c8) 31).alloc (.cells #[.bool n9,.slice a9 l9 c9] 31))
 have hfar:w.heap.size+3≤w8.heap.size:=hN8.nw.far
 have hg6:g6<w8.heap.size:=hX8.lt
 have h6:w.heap.size+3≤g6:=HR6.out.1
 have ne1:w8.heap.size≠g6:=by omega
 have ne2:g6≠w8.heap.size:=by omega
 have ne3:g6≠w8.heap.size+1:=by omega
 clear HR6 hdv eq1 hvq hvr hb8 hN8 hX8 hM8 k0 k1 k2 k3 k4 k5 HMV HEV HLX HLG HG0 HXX HGG
 have hsg:(n1=true∧q.num = -M)∨(n1=false∧q.num=M):=by
  have h1:=HBN.out.2
  by_cases hs:x<0
  · exact .inl ⟨by rw [h1];exact decide_eq_true hs,HPQ.out.2.1 hs⟩
  · exact .inr ⟨by rw [h1];exact decide_eq_false hs,HPQ.out.2.2 (by first | exact hs | omega)⟩
 obtain ⟨k0,k1,_,_,_,_⟩:=HN9.out.cells
 obtain ⟨x0,x1,x2,x3⟩:=HX9.out.cell
 obtain ⟨y0,y1,_,_⟩:=HE8.out.cell
 obtain ⟨z0,z1,z2,z3⟩:=HN9.out.nw.box3.cell
 obtain ⟨z4,z5,z6,z7⟩:=HN9.out.nw.box3.froz
 have HED:Hid ((q.den:Int)=E):=Lib.hid HPQ.out.1
 rcases hsg with ⟨rfl,hqn⟩ | ⟨rfl,hqn⟩
 · have HNG:Hid (True ∧ -M=q.num):=Lib.hid ⟨trivial,hqn.symm⟩
   clear hqn
   go_wp2_with fail
   refine (rNeg_any _ M _ HM9.out).mono ?_
   rintro e wA ⟨vA,rfl,hvA,hbA⟩
   rw [HNG.out.2] at hvA
   obtain ⟨nA,aA,lA,cA,rfl⟩:=hvA.any
   have hN10:=HN9.out.keep hbA (Nat.le_refl _)
   have hX10:=HX9.out.below hbA HX9.out.lt
   have hE10:=HE9.out.keep hbA (Nat.le_refl _)
   have hY10:=HE8.out.below hbA HE8.out.lt
   rw [← HED.out] at hE10
   clear k0 k1 x0 x1 x2 x3 y0 y1 z0 z1 z2 z3 z4 z5 z6 z7
   have HR:Hid (RRef wA (.agg #[.bool nA,.slice aA lA cA,.bool n8,.slice a8 l8 c8]) q):=Lib.hid ⟨_,_,_,_,_,_,_,_,rfl,hvA,hE10⟩
   have HR2:Hid (RRef ((wA.setCell ⟨g6,0,none⟩ (.bool nA)).setCell ⟨g6,1,none⟩ (.slice aA lA cA)) (.agg #[.bool nA,.slice aA lA cA,.bool n8,.slice a8 l8 c8]) q):=Lib.hid (HR.out.box2 hX10 _ _)
   have o:=((Only.refl g6 wA).set 0 (.bool nA)).set 1 (.slice aA lA cA)
   have HB3:=Lib.hid (hN10.nw.box3.only o (by omega))
   have HBW:=Lib.hid (hN10.nw.below.trans (o.below (by omega)))
   obtain ⟨x0,x1,x2,x3⟩:=hX10.cell
   obtain ⟨y0,y1,_,_⟩:=hY10.cell
   obtain ⟨z0,z1,z2,z3⟩:=hN10.nw.box3.cell
   obtain ⟨z4,z5,z6,z7⟩:=hN10.nw.box3.froz
   have ne4:w.heap.size+1+1≠g6:=by omega
   clear hvA hbA hN10 hX10 hE10 hY10 o HN9 HX9 HM9 HE9 HE8
   go_wp2
   obtain ⟨l0,l1',l2',l3'⟩:=(HB3.out.put (.bool nA) (.slice aA lA cA) (.bool n8) (.slice a8 l8 c8)).cell
   refine bodyPost_ret (v := .agg #[.bool nA,.slice aA lA cA,.bool n8,.slice a8 l8 c8]) (by simp only [results,Tryz.results44];simp [go_sem,l0,l1',l2',l3']) rfl ?_
   exact RRPost.boxed HR2.out HB3.out HBW.out (by omega) _ _ _ _
 · have hr1:=HM9.out
   have hr2:=HE9.out
   rw [← hqn] at hr1
   rw [← HED.out] at hr2
   have HR:Hid (RRef ((w8.alloc (.cells #[.bool n8,.slice a8 l8 c8] 31)).alloc (.cells #[.bool n9,.slice a9 l9 c9] 31)) (.agg #[.bool n6,.slice a6 l6 c6,.bool n8,.slice a8 l8 c8]) q):=Lib.hid ⟨_,_,_,_,_,_,_,_,rfl,hr1,hr2⟩
   clear hqn hr1 hr2
   go_wp2
   obtain ⟨l0,l1',l2',l3'⟩:=(HN9.out.nw.box3.put (.bool n6) (.slice a6 l6 c6) (.bool n8) (.slice a8 l8 c8)).cell
   refine bodyPost_ret (v := .agg #[.bool n6,.slice a6 l6 c6,.bool n8,.slice a8 l8 c8]) (by simp only [results,Tryz.results44];simp [go_sem,l0,l1',l2',l3']) rfl ?_
   exact RRPost.boxed HR.out HN9.out.nw.box3 HN9.out.nw.below (by omega) _ _ _ _
theorem rNew_any (v1 v2:Value) (n d:Int) (q:Rat) (w:World) (h1:Ref w v1 n) (h2:Ref w v2 d) (hd:d≠0) (ln:(dg n.natAbs).length≤1000) (ld:(dg d.natAbs).length≤1000) (hq:Hid (Rat.divInt n d=q)) :
 Calls Tryz.prog 44 #[v1,v2] w (RRPost q w):=by
 by_cases hn:n=0
 · exact rNew_zero v1 v2 n d q w h1 h2 hn hq
 · by_cases hneg:d<0
   · exact rNew_neg v1 v2 n d (-n) (-d) q w h1 h2 hn hneg (Lib.hid ⟨trivial,rfl⟩) (Lib.hid ⟨trivial,rfl⟩) (Lib.hid (by rw [Int.natAbs_neg,Int.natAbs_neg];exact ⟨ln,ld⟩)) (Lib.hid (by rw [Rat.neg_divInt_neg];exact hq.out))
   · exact rNew_pos v1 v2 n d n d q w h1 h2 hn (by omega) (Lib.hid ⟨trivial,rfl⟩) (Lib.hid ⟨trivial,rfl⟩) (Lib.hid ⟨ln,ld⟩) hq
end Go.Proofs.YtkhdocdddicgpaaGreatDoor
set_option linter.unusedVariables false
set_option linter.unusedSimpArgs false
namespace Go.Proofs.YtkhdocdddicgpaaGreatDoor
open Go.RowKit _root_.Go.Proofs.YtkhdocdddicgpaaGreatDoor.Nm
structure M2 (w W:World) (x0 x1 x2 x3 y0 y1 y2 y3:Value) (p q:Rat):Prop where
 below:Below w.heap.size w W
 far:w.heap.size+2≤W.heap.size
 b1:B4 W w.heap.size x0 x1 x2 x3
 b2:B4 W (w.heap.size+1) y0 y1 y2 y3
 xn:Ref W (.agg #[x0,x1]) p.num
 xd:Ref W (.agg #[x2,x3]) p.den
 yn:Ref W (.agg #[y0,y1]) q.num
 yd:Ref W (.agg #[y2,y3]) q.den
section
variable {w W W':World} {x0 x1 x2 x3 y0 y1 y2 y3:Value} {p q:Rat} {B:Nat}
theorem M2.keep (h:M2 w W x0 x1 x2 x3 y0 y1 y2 y3 p q) (hb:Below B W W') (hB:W.heap.size≤B):M2 w W' x0 x1 x2 x3 y0 y1 y2 y3 p q :=
 ⟨h.below.trans (hb.mono (Nat.le_trans h.below.size hB)),Nat.le_trans h.far hb.size,h.b1.below hb (Nat.lt_of_lt_of_le h.b1.lt hB),h.b2.below hb (Nat.lt_of_lt_of_le h.b2.lt hB),h.xn.keep hb hB,h.xd.keep hb hB,h.yn.keep hb hB,h.yd.keep hb hB⟩
theorem M2.cells (h:M2 w W x0 x1 x2 x3 y0 y1 y2 y3 p q) :
 W.cell? ⟨w.heap.size,0,none⟩=some x0∧W.cell? ⟨w.heap.size,1,none⟩=some x1∧W.cell? ⟨w.heap.size,2,none⟩=some x2∧W.cell? ⟨w.heap.size,3,none⟩=some x3 ∧
 W.cell? ⟨w.heap.size+1,0,none⟩=some y0∧W.cell? ⟨w.heap.size+1,1,none⟩=some y1∧W.cell? ⟨w.heap.size+1,2,none⟩=some y2∧W.cell? ⟨w.heap.size+1,3,none⟩=some y3 :=
 ⟨h.b1.cell.1,h.b1.cell.2.1,h.b1.cell.2.2.1,h.b1.cell.2.2.2,h.b2.cell.1,h.b2.cell.2.1,h.b2.cell.2.2.1,h.b2.cell.2.2.2⟩
theorem M2.start (w:World) (x0 x1 x2 x3 y0 y1 y2 y3:Value) (p q:Rat) (T1 T2:TypeId) (h1:Ref w (.agg #[x0,x1]) p.num) (h2:Ref w (.agg #[x2,x3]) p.den) (h3:Ref w (.agg #[y0,y1]) q.num) (h4:Ref w (.agg #[y2,y3]) q.den) :
 M2 w ((w.alloc (.cells #[x0,x1,x2,x3] T1)).alloc (.cells #[y0,y1,y2,y3] T2)) x0 x1 x2 x3 y0 y1 y2 y3 p q:=by
 have hb:=boxes2 w (.cells #[x0,x1,x2,x3] T1) (.cells #[y0,y1,y2,y3] T2)
 have e1:=B4.new w x0 x1 x2 x3 T1
 have e2:=B4.new (w.alloc (.cells #[x0,x1,x2,x3] T1)) y0 y1 y2 y3 T2
 rw [World.size_alloc] at e2
 exact ⟨hb,by simp,e1.below ((Below.refl _ _).alloc (Nat.le_refl _) _) (by simp),e2,h1.keep hb (Nat.le_refl _),h2.keep hb (Nat.le_refl _),h3.keep hb (Nat.le_refl _),h4.keep hb (Nat.le_refl _)⟩
end
def Rb (w W:World):Prop:=B4 W (w.heap.size+1+1) (.bool false) (.slice none 0 0) (.bool false) (.slice none 0 0)
theorem Rb.start (w:World) (o1 o2:Obj) (T:TypeId):Rb w (((w.alloc o1).alloc o2).alloc (.cells #[.bool false,.slice none 0 0,.bool false,.slice none 0 0] T)):=by
 have h:=B4.new ((w.alloc o1).alloc o2) (.bool false) (.slice none 0 0) (.bool false) (.slice none 0 0) T
 rw [World.size_alloc,World.size_alloc] at h
 exact h
theorem Rb.keep {w W W':World} {B:Nat} (h:Rb w W) (hb:Below B W W') (hB:W.heap.size≤B):Rb w W':=B4.below h hb (Nat.lt_of_lt_of_le (B4.lt h) hB)
theorem cell_off4 {W:World} {b o g:Nat} {v x y z u:Value} (h:W.cell? ⟨b,o,none⟩=some v) (hb:b≠g):(set4 W g x y z u).cell? ⟨b,o,none⟩=some v:=((set4_only W g x y z u).cell b o hb).trans h
set_option maxRecDepth 100000 in
set_option maxHeartbeats 6400000 in
theorem rrMul_any (v1 v2:Value) (p q:Rat) (K:Nat) (r:Rat) (w:World) (h1:RRef w v1 p) (h2:RRef w v2 q) (hp:RT K p) (hq:RT K q) (hK:K≤400) (hr:Hid (p*q=r)) :
 Calls Tryz.prog 47 #[v1,v2] w (RRPost r w):=by
 obtain ⟨n1,a1,l1,c1,n2,a2,l2,c2,rfl,x1,x2⟩:=h1
 obtain ⟨n3,a3,l3,c3,n4,a4,l4,c4,rfl,y1,y2⟩:=h2
 have hM:M2 w ((w.alloc (.cells #[.bool n1,.slice a1 l1 c1,.bool n2,.slice a2 l2 c2] 33)).alloc (.cells #[.bool n3,.slice a3 l3 c3,.bool n4,.slice a4 l4 c4] 33)) (.bool n1) (.slice a1 l1 c1) (.bool n2) (.slice a2 l2 c2) (.bool n3) (.slice a3 l3 c3) (.bool n4) (.slice a4 l4 c4) p q:=M2.start w _ _ _ _ _ _ _ _ p q _ _ x1 x2 y1 y2
 have hA:=(Below.refl ((w.alloc (.cells #[.bool n1,.slice a1 l1 c1,.bool n2,.slice a2 l2 c2] 33)).alloc (.cells #[.bool n3,.slice a3 l3 c3,.bool n4,.slice a4 l4 c4] 33)).heap.size ((w.alloc (.cells #[.bool n1,.slice a1 l1 c1,.bool n2,.slice a2 l2 c2] 33)).alloc (.cells #[.bool n3,.slice a3 l3 c3,.bool n4,.slice a4 l4 c4] 33))).alloc (Nat.le_refl _) (.cells #[.bool false,.slice none 0 0,.bool false,.slice none 0 0] 33)
 have HM0:=Lib.hid (hM.keep hA.drew (Nat.le_refl _))
 have HR0:Hid (Rb w (((w.alloc (.cells #[.bool n1,.slice a1 l1 c1,.bool n2,.slice a2 l2 c2] 33)).alloc (.cells #[.bool n3,.slice a3 l3 c3,.bool n4,.slice a4 l4 c4] 33)).alloc (.cells #[.bool false,.slice none 0 0,.bool false,.slice none 0 0] 33)).drew):=Lib.hid (B4.drew (Rb.start w (.cells #[.bool n1,.slice a1 l1 c1,.bool n2,.slice a2 l2 c2] 33) (.cells #[.bool n3,.slice a3 l3 c3,.bool n4,.slice a4 l4 c4] 33) 33))
 have t1:=fun (z:Int) (h:Ten 801 z)=>digs_ten h 1000 (by omega)
 have lp1:=digs_ten hp.1 1000 (by omega)
 have lp2:=digs_ten hp.2 1000 (by omega)
 have lq1:=digs_ten hq.1 1000 (by omega)
 have lq2:=digs_ten hq.2 1000 (by omega)
 have HL:=Lib.hid (And.intro lp1 (And.intro lp2 (And.intro lq1 lq2)))
 have HNE:Hid ((p.den:Int)*q.den≠0):=Lib.hid (den_ne p q)
 have HQ:Hid (Rat.divInt (p.num*q.num) (p.den*q.den)=r):=Lib.hid ((mul_div p q).trans hr.out)
 have HLN:Hid ((dg (p.num*q.num).natAbs).length≤1000∧(dg ((p.den:Int)*q.den).natAbs).length≤1000):=Lib.hid ⟨(t1 _ (by have h:=hp.1.mul hq.1;exact h.mono (by omega))),(t1 _ (by have h:=hp.2.mul hq.2;exact h.mono (by omega)))⟩
 clear t1 lp1 lp2 lq1 lq2 hp hq hr
 clear hM x1 x2 y1 y2 hA
 obtain ⟨k0_0,k0_1,k0_2,k0_3,k0_4,k0_5,k0_6,k0_7⟩:=HM0.out.cells
 go_enter Tryz.func47,Tryz.ntmps47
 go_wp2_with fail
 go_region_held3 (fun w'=>w'.cell? ⟨w.heap.size,0,none⟩=some (.bool n1)∧w'.cell? ⟨w.heap.size,1,none⟩=some (.slice a1 l1 c1)∧w'.cell? ⟨w.heap.size,2,none⟩=some (.bool n2)∧w'.cell? ⟨w.heap.size,3,none⟩=some (.slice a2 l2 c2)∧w'.cell? ⟨w.heap.size+1,0,none⟩=some (.bool n3)∧w'.cell? ⟨w.heap.size+1,1,none⟩=some (.slice a3 l3 c3)∧w'.cell? ⟨w.heap.size+1,2,none⟩=some (.bool n4)∧w'.cell? ⟨w.heap.size+1,3,none⟩=some (.slice a4 l4 c4)) (first | ((try dsimp only);(repeat' apply And.intro);all_goals with_reducible assumption) | ((try dsimp only);(repeat' apply And.intro);all_goals (repeat' (first | with_reducible assumption | refine cell_off4 ?_ ?_ | omega))) | go_keep) (first | (go_at_call 44;have hgd:=hM2;clear hgd;refine (rNew_any _ _ (p.num*q.num) ((p.den:Int)*q.den) r _ (by exact (hv1.keep hb2 (Nat.le_refl _))) (by exact hv2) HNE.out HLN.out.1 HLN.out.2 HQ).mono ?_;rintro e w3 ⟨v3,rfl,hv3,hb3⟩;obtain ⟨m1,b1,j1,d1,m2,b2,j2,d2,rfl,hz1,hz2⟩:=hv3;have hM3:=hM2.keep hb3 (Nat.le_refl _);have hR3:=hR2.keep hb3 (Nat.le_refl _);clear k2_0 k2_1 k2_2 k2_3 k2_4 k2_5 k2_6 k2_7;obtain ⟨k3_0,k3_1,k3_2,k3_3,k3_4,k3_5,k3_6,k3_7⟩:=hM3.cells;obtain ⟨e0,e1,e2,e3⟩:=B4.cell hR3;obtain ⟨f0,f1,f2,f3⟩:=B4.froz hR3) | (go_at_call 76;have hgd:=hM1;clear hgd;refine (rMul_any _ _ p.den q.den _ (by exact hM1.xd) (by exact hM1.yd) HL.out.2.1 HL.out.2.2.2).mono ?_;rintro e w2 ⟨v2,rfl,hv2,hb2⟩;obtain ⟨m2,b2,j2,d2,rfl⟩:=hv2.any;have hM2:=hM1.keep hb2 (Nat.le_refl _);have hR2:=hR1.keep hb2 (Nat.le_refl _);clear k1_0 k1_1 k1_2 k1_3 k1_4 k1_5 k1_6 k1_7;obtain ⟨k2_0,k2_1,k2_2,k2_3,k2_4,k2_5,k2_6,k2_7⟩:=hM2.cells) | (go_at_call 76;refine (rMul_any _ _ p.num q.num _ (by exact HM0.out.xn) (by exact HM0.out.yn) HL.out.1 HL.out.2.2.1).mono ?_;rintro e w1 ⟨v1,rfl,hv1,hb1⟩;obtain ⟨m1,b1,j1,d1,rfl⟩:=hv1.any;have hM1:=HM0.out.keep hb1 (Nat.le_refl _);have hR1:=HR0.out.keep hb1 (Nat.le_refl _);clear k0_0 k0_1 k0_2 k0_3 k0_4 k0_5 k0_6 k0_7;obtain ⟨k1_0,k1_1,k1_2,k1_3,k1_4,k1_5,k1_6,k1_7⟩:=hM1.cells))
 have HV:Hid (RRef w3 (.agg #[.bool m1,.slice b1 j1 d1,.bool m2,.slice b2 j2 d2]) r):=Lib.hid ⟨_,_,_,_,_,_,_,_,rfl,hz1,hz2⟩
 have HR:=Lib.hid hR3
 have HW:=Lib.hid hM3.below
 clear hz1 hz2 hR3 hM3 k3_0 k3_1 k3_2 k3_3 k3_4 k3_5 k3_6 k3_7 e0 e1 e2 e3 f0 f1 f2 f3 HM0 HR0
 go_wp2
 obtain ⟨l0,l1',l2',l3'⟩:=(B4.put HR.out (.bool m1) (.slice b1 j1 d1) (.bool m2) (.slice b2 j2 d2)).cell
 refine bodyPost_ret (v := .agg #[.bool m1,.slice b1 j1 d1,.bool m2,.slice b2 j2 d2]) (by simp only [results,Tryz.results47];simp [go_sem,l0,l1',l2',l3']) rfl ?_
 exact RRPost.boxed HV.out HR.out HW.out (by omega) _ _ _ _
set_option maxRecDepth 100000 in
set_option maxHeartbeats 6400000 in
theorem rrAdd_any (v1 v2:Value) (p q:Rat) (K:Nat) (r:Rat) (w:World) (h1:RRef w v1 p) (h2:RRef w v2 q) (hp:RT K p) (hq:RT K q) (hK:K≤400) (hr:Hid (p+q=r)) :
 Calls Tryz.prog 40 #[v1,v2] w (RRPost r w):=by
 obtain ⟨n1,a1,l1,c1,n2,a2,l2,c2,rfl,x1,x2⟩:=h1
 obtain ⟨n3,a3,l3,c3,n4,a4,l4,c4,rfl,y1,y2⟩:=h2
 have hM:M2 w ((w.alloc (.cells #[.bool n1,.slice a1 l1 c1,.bool n2,.slice a2 l2 c2] 33)).alloc (.cells #[.bool n3,.slice a3 l3 c3,.bool n4,.slice a4 l4 c4] 33)) (.bool n1) (.slice a1 l1 c1) (.bool n2) (.slice a2 l2 c2) (.bool n3) (.slice a3 l3 c3) (.bool n4) (.slice a4 l4 c4) p q:=M2.start w _ _ _ _ _ _ _ _ p q _ _ x1 x2 y1 y2
 have hA:=(Below.refl ((w.alloc (.cells #[.bool n1,.slice a1 l1 c1,.bool n2,.slice a2 l2 c2] 33)).alloc (.cells #[.bool n3,.slice a3 l3 c3,.bool n4,.slice a4 l4 c4] 33)).heap.size ((w.alloc (.cells #[.bool n1,.slice a1 l1 c1,.bool n2,.slice a2 l2 c2] 33)).alloc (.cells #[.bool n3,.slice a3 l3 c3,.bool n4,.slice a4 l4 c4] 33))).alloc (Nat.le_refl _) (.cells #[.bool false,.slice none 0 0,.bool false,.slice none 0 0] 33)
 have HM0:=Lib.hid (hM.keep hA.drew (Nat.le_refl _))
 have HR0:Hid (Rb w (((w.alloc (.cells #[.bool n1,.slice a1 l1 c1,.bool n2,.slice a2 l2 c2] 33)).alloc (.cells #[.bool n3,.slice a3 l3 c3,.bool n4,.slice a4 l4 c4] 33)).alloc (.cells #[.bool false,.slice none 0 0,.bool false,.slice none 0 0] 33)).drew):=Lib.hid (B4.drew (Rb.start w (.cells #[.bool n1,.slice a1 l1 c1,.bool n2,.slice a2 l2 c2] 33) (.cells #[.bool n3,.slice a3 l3 c3,.bool n4,.slice a4 l4 c4] 33) 33))
 have t1:=fun (z:Int) (h:Ten 801 z)=>digs_ten h 1000 (by omega)
 have lp1:=digs_ten hp.1 1000 (by omega)
 have lp2:=digs_ten hp.2 1000 (by omega)
 have lq1:=digs_ten hq.1 1000 (by omega)
 have lq2:=digs_ten hq.2 1000 (by omega)
 have HL:=Lib.hid (And.intro lp1 (And.intro lp2 (And.intro lq1 lq2)))
 have HNE:Hid ((p.den:Int)*q.den≠0):=Lib.hid (den_ne p q)
 have HQ:Hid (Rat.divInt (p.num*q.den+q.num*p.den) (p.den*q.den)=r):=Lib.hid ((sum_div p q).trans hr.out)
 have HLN:Hid ((dg (p.num*(q.den:Int)+q.num*(p.den:Int)).natAbs).length≤1000∧(dg ((p.den:Int)*q.den).natAbs).length≤1000):=Lib.hid ⟨(t1 _ (by have h:=(hp.1.mul hq.2).add (hq.1.mul hp.2);exact h.mono (by omega))),(t1 _ (by have h:=hp.2.mul hq.2;exact h.mono (by omega)))⟩
 have HLS:Hid ((dg (p.num*(q.den:Int)).natAbs).length≤2000∧(dg (q.num*(p.den:Int)).natAbs).length≤2000):=Lib.hid ⟨Nat.le_trans (t1 _ (by have h:=hp.1.mul hq.2;exact h.mono (by omega))) (by omega),Nat.le_trans (t1 _ (by have h:=hq.1.mul hp.2;exact h.mono (by omega))) (by omega)⟩
 clear t1 lp1 lp2 lq1 lq2 hp hq hr
 clear hM x1 x2 y1 y2 hA
 obtain ⟨k0_0,k0_1,k0_2,k0_3,k0_4,k0_5,k0_6,k0_7⟩:=HM0.out.cells
 go_enter Tryz.func40,Tryz.ntmps40
 go_wp2_with fail
 go_region_held3 (fun w'=>w'.cell? ⟨w.heap.size,0,none⟩=some (.bool n1)∧w'.cell? ⟨w.heap.size,1,none⟩=some (.slice a1 l1 c1)∧w'.cell? ⟨w.heap.size,2,none⟩=some (.bool n2)∧w'.cell? ⟨w.heap.size,3,none⟩=some (.slice a2 l2 c2)∧w'.cell? ⟨w.heap.size+1,0,none⟩=some (.bool n3)∧w'.cell? ⟨w.heap.size+1,1,none⟩=some (.slice a3 l3 c3)∧w'.cell? ⟨w.heap.size+1,2,none⟩=some (.bool n4)∧w'.cell? ⟨w.heap.size+1,3,none⟩=some (.slice a4 l4 c4)) (first | ((try dsimp only);(repeat' apply And.intro);all_goals with_reducible assumption) | ((try dsimp only);(repeat' apply And.intro);all_goals (repeat' (first | with_reducible assumption | refine cell_off4 ?_ ?_ | omega))) | go_keep) (first | (go_at_call 44;have hgd:=hM4;clear hgd;refine (rNew_any _ _ (p.num*(q.den:Int)+q.num*(p.den:Int)) ((p.den:Int)*q.den) r _ (by exact (hv3.keep hb4 (Nat.le_refl _))) (by exact hv4) HNE.out HLN.out.1 HLN.out.2 HQ).mono ?_;rintro e w5 ⟨v5,rfl,hv5,hb5⟩;obtain ⟨m1,b1,j1,d1,m2,b2,j2,d2,rfl,hz1,hz2⟩:=hv5;have hM5:=hM4.keep hb5 (Nat.le_refl _);have hR5:=hR4.keep hb5 (Nat.le_refl _);clear k4_0 k4_1 k4_2 k4_3 k4_4 k4_5 k4_6 k4_7;obtain ⟨k5_0,k5_1,k5_2,k5_3,k5_4,k5_5,k5_6,k5_7⟩:=hM5.cells;obtain ⟨e0,e1,e2,e3⟩:=B4.cell hR5;obtain ⟨f0,f1,f2,f3⟩:=B4.froz hR5) | (go_at_call 76;have hgd:=hM3;clear hgd;refine (rMul_any _ _ p.den q.den _ (by exact hM3.xd) (by exact hM3.yd) HL.out.2.1 HL.out.2.2.2).mono ?_;rintro e w4 ⟨v4,rfl,hv4,hb4⟩;obtain ⟨m4,b4,j4,d4,rfl⟩:=hv4.any;have hM4:=hM3.keep hb4 (Nat.le_refl _);have hR4:=hR3.keep hb4 (Nat.le_refl _);clear k3_0 k3_1 k3_2 k3_3 k3_4 k3_5 k3_6 k3_7;obtain ⟨k4_0,k4_1,k4_2,k4_3,k4_4,k4_5,k4_6,k4_7⟩:=hM4.cells) | (go_at_call 75;have hgd:=hM2;clear hgd;refine (rAdd_any _ _ (p.num*(q.den:Int)) (q.num*(p.den:Int)) _ (by exact (hv1.keep hb2 (Nat.le_refl _))) (by exact hv2) HLS.out.1 HLS.out.2).mono ?_;rintro e w3 ⟨v3,rfl,hv3,hb3⟩;obtain ⟨m3,b3,j3,d3,rfl⟩:=hv3.any;have hM3:=hM2.keep hb3 (Nat.le_refl _);have hR3:=hR2.keep hb3 (Nat.le_refl _);clear k2_0 k2_1 k2_2 k2_3 k2_4 k2_5 k2_6 k2_7;obtain ⟨k3_0,k3_1,k3_2,k3_3,k3_4,k3_5,k3_6,k3_7⟩:=hM3.cells) | (go_at_call 76;have hgd:=hM1;clear hgd;refine (rMul_any _ _ q.num p.den _ (by exact hM1.yn) (by exact hM1.xd) HL.out.2.2.1 HL.out.2.1).mono ?_;rintro e w2 ⟨v2,rfl,hv2,hb2⟩;obtain ⟨m2,b2,j2,d2,rfl⟩:=hv2.any;have hM2:=hM1.keep hb2 (Nat.le_refl _);have hR2:=hR1.keep hb2 (Nat.le_refl _);clear k1_0 k1_1 k1_2 k1_3 k1_4 k1_5 k1_6 k1_7;obtain ⟨k2_0,k2_1,k2_2,k2_3,k2_4,k2_5,k2_6,k2_7⟩:=hM2.cells) | (go_at_call 76;refine (rMul_any _ _ p.num q.den _ (by exact HM0.out.xn) (by exact HM0.out.yd) HL.out.1 HL.out.2.2.2).mono ?_;rintro e w1 ⟨v1,rfl,hv1,hb1⟩;obtain ⟨m1,b1,j1,d1,rfl⟩:=hv1.any;have hM1:=HM0.out.keep hb1 (Nat.le_refl _);have hR1:=HR0.out.keep hb1 (Nat.le_refl _);clear k0_0 k0_1 k0_2 k0_3 k0_4 k0_5 k0_6 k0_7;obtain ⟨k1_0,k1_1,k1_2,k1_3,k1_4,k1_5,k1_6,k1_7⟩:=hM1.cells))
 have HV:Hid (RRef w5 (.agg #[.bool m1,.slice b1 j1 d1,.bool m2,.slice b2 j2 d2]) r):=Lib.hid ⟨_,_,_,_,_,_,_,_,rfl,hz1,hz2⟩
 have HR:=Lib.hid hR5
 have HW:=Lib.hid hM5.below
 clear hz1 hz2 hR5 hM5 k5_0 k5_1 k5_2 k5_3 k5_4 k5_5 k5_6 k5_7 e0 e1 e2 e3 f0 f1 f2 f3 HM0 HR0
 go_wp2
 obtain ⟨l0,l1',l2',l3'⟩:=(B4.put HR.out (.bool m1) (.slice b1 j1 d1) (.bool m2) (.slice b2 j2 d2)).cell
 refine bodyPost_ret (v := .agg #[.bool m1,.slice b1 j1 d1,.bool m2,.slice b2 j2 d2]) (by simp only [results,Tryz.results40];simp [go_sem,l0,l1',l2',l3']) rfl ?_
 exact RRPost.boxed HV.out HR.out HW.out (by omega) _ _ _ _
set_option maxRecDepth 100000 in
set_option maxHeartbeats 6400000 in
theorem rrNeg_any (v1:Value) (p r:Rat) (w:World) (h1:RRef w v1 p) (hr:Hid (-p=r)) :
 Calls Tryz.prog 101 #[v1] w (RRPost r w):=by
 obtain ⟨n1,a1,l1,c1,n2,a2,l2,c2,rfl,x1,x2⟩:=h1
 have hA:=(boxes2 w (.cells #[.bool n1,.slice a1 l1 c1,.bool n2,.slice a2 l2 c2] 33) (.cells #[.bool false,.slice none 0 0,.bool false,.slice none 0 0] 33)).drew
 have HX1:=Lib.hid (x1.keep hA (Nat.le_refl _))
 have HX2:=Lib.hid (x2.keep hA (Nat.le_refl _))
 have HW0:=Lib.hid hA
 have HB1:=Lib.hid ((B4.new w (.bool n1) (.slice a1 l1 c1) (.bool n2) (.slice a2 l2 c2) 33).below ((Below.refl _ _).alloc (Nat.le_refl _) (.cells #[.bool false,.slice none 0 0,.bool false,.slice none 0 0] 33)) (by simp)).drew
 have hb2:=(B4.new (w.alloc (.cells #[.bool n1,.slice a1 l1 c1,.bool n2,.slice a2 l2 c2] 33)) (.bool false) (.slice none 0 0) (.bool false) (.slice none 0 0) 33).drew
 rw [World.size_alloc] at hb2
 have HB2:=Lib.hid hb2
 have HQ:Hid (-p.num=r.num∧((p.den:Nat):Int)=r.den):=Lib.hid (by rw [← hr.out];exact ⟨rfl,rfl⟩)
 clear x1 x2 hA hb2
 obtain ⟨k0,k1,k2,k3⟩:=HB1.out.cell
 go_enter Tryz.func101,Tryz.ntmps101
 go_wp2_with fail
 go_region_held3 (fun w'=>w'.cell? ⟨w.heap.size,0,none⟩=some (.bool n1)∧w'.cell? ⟨w.heap.size,1,none⟩=some (.slice a1 l1 c1)∧w'.cell? ⟨w.heap.size,2,none⟩=some (.bool n2)∧w'.cell? ⟨w.heap.size,3,none⟩=some (.slice a2 l2 c2)) (first | ((try dsimp only);(repeat' apply And.intro);all_goals with_reducible assumption) | ((try dsimp only);(repeat' apply And.intro);all_goals (repeat' (first | with_reducible assumption | refine cell_off4 ?_ ?_ | omega))) | go_keep) ((go_at_call 78;refine (rNeg_any _ p.num _ (by exact HX1.out)).mono ?_;rintro e w2 ⟨v2,rfl,hv2,hb2⟩;rw [HQ.out.1] at hv2;have hB1:=HB1.out.below hb2 HB1.out.lt;have hB2:=HB2.out.below hb2 HB2.out.lt;have hD2:=HX2.out.keep hb2 (Nat.le_refl _);rw [HQ.out.2] at hD2;have hW2:=HW0.out.trans (hb2.mono HW0.out.size);obtain ⟨m1,b1,j1,d1,rfl⟩:=hv2.any;clear k0 k1 k2 k3;obtain ⟨k0,k1,k2,k3⟩:=hB1.cell;obtain ⟨e0,e1,e2,e3⟩:=hB2.cell;obtain ⟨f0,f1,f2,f3⟩:=hB2.froz))
 have HV:Hid (RRef w2 (.agg #[.bool m1,.slice b1 j1 d1,.bool n2,.slice a2 l2 c2]) r):=Lib.hid ⟨_,_,_,_,_,_,_,_,rfl,hv2,hD2⟩
 have HR:=Lib.hid hB2
 have HW:=Lib.hid hW2
 clear hv2 hD2 hB1 hB2 hW2 hb2 k0 k1 k2 k3 e0 e1 e2 e3 f0 f1 f2 f3 HX1 HX2 HB1 HB2 HW0
 go_wp2
 obtain ⟨l0,l1',l2',l3'⟩:=(HR.out.put (.bool m1) (.slice b1 j1 d1) (.bool n2) (.slice a2 l2 c2)).cell
 refine bodyPost_ret (v := .agg #[.bool m1,.slice b1 j1 d1,.bool n2,.slice a2 l2 c2]) (by simp only [results,Tryz.results101];simp [go_sem,l0,l1',l2',l3']) rfl ?_
 exact RRPost.boxed HV.out HR.out HW.out (by omega) _ _ _ _
end Go.Proofs.YtkhdocdddicgpaaGreatDoor
set_option linter.unusedVariables false
set_option linter.unusedSimpArgs false
namespace Go.Proofs.YtkhdocdddicgpaaGreatDoor
open Go.RowKit _root_.Go.Proofs.YtkhdocdddicgpaaGreatDoor.Nm
theorem long_canon (z:Int):decide ((400:Int)<((dg z.natAbs).length:Nat)) = !canon (Lib.itoa z):=by
 rw [canon_itoa, ← Lib.decDigits_length]
 by_cases h0:z.natAbs=0
 · rw [h0,dg_zero];decide +kernel
 · rw [dec_ds _ (by omega),List.length_map]
   unfold dg
   rw [List.length_reverse]
   by_cases h:(ds 10 z.natAbs).length≤400
   · rw [decide_eq_true h,decide_eq_false (by omega)];rfl
   · rw [decide_eq_false h,decide_eq_true (by omega)];rfl
theorem Long_to (v:Value) (z:Int) (b:Bool) (w:World) (h:Ref w v z) (hb:Hid (True∧(!canon (Lib.itoa z))=b)) :
 Calls Tryz.prog 91 #[v] w fun e w'=>e = .returned (.bool b)∧Below w.heap.size w w':=by
 have:=Long_any v z _ w h (Lib.hid ⟨trivial,rfl⟩)
 rwa [long_canon,hb.out.2] at this
set_option maxRecDepth 100000 in
set_option maxHeartbeats 1600000 in
theorem rrLong_any (v:Value) (q:Rat) (b:Bool) (w:World) (h:RRef w v q) (hb:Hid (True∧(!rshort q)=b)) :
 Calls Tryz.prog 57 #[v] w fun e w'=>e = .returned (.bool b)∧Below w.heap.size w w':=by
 obtain ⟨n1,a1,l1,c1,n2,a2,l2,c2,rfl,x1,x2⟩:=h
 have hA:=(Below.refl w.heap.size w).alloc (Nat.le_refl _) (.cells #[.bool n1,.slice a1 l1 c1,.bool n2,.slice a2 l2 c2] 33)
 have HX:=Lib.hid (x1.keep hA (Nat.le_refl _))
 have HY:=Lib.hid (x2.keep hA (Nat.le_refl _))
 have HW:=Lib.hid hA
 have HB1:=Lib.hid (B4.new w (.bool n1) (.slice a1 l1 c1) (.bool n2) (.slice a2 l2 c2) 33)
 have hbb:=hb.out.2
 unfold rshort at hbb
 clear x1 x2 hA hb
 obtain ⟨k0,k1,k2,k3⟩:=HB1.out.cell
 cases kn:canon (Lib.itoa q.num)
 · obtain rfl:b=true:=by rw [← hbb,kn];rfl
   have HC:Hid (True∧(!canon (Lib.itoa q.num))=true):=Lib.hid ⟨trivial,by rw [kn];rfl⟩
   clear kn hbb
   go_enter Tryz.func57,Tryz.ntmps57
   go_wp2_with fail
   refine (Long_to _ q.num true _ HX.out HC).mono ?_
   rintro e w1 ⟨rfl,hb1⟩
   have HW1:=Lib.hid (HW.out.trans (hb1.mono HW.out.size))
   clear hb1 k0 k1 k2 k3
   go_wp2
   go_ret
   exact ⟨rfl,HW1.out⟩
 · have HC:Hid (True∧(!canon (Lib.itoa q.num))=false):=Lib.hid ⟨trivial,by rw [kn];rfl⟩
   have HD:Hid (True∧(!canon (Lib.itoa (q.den:Int)))=b):=Lib.hid ⟨trivial,by rw [← hbb,kn];rfl⟩
   clear kn hbb
   go_enter Tryz.func57,Tryz.ntmps57
   go_wp2_with fail
   refine (Long_to _ q.num false _ HX.out HC).mono ?_
   rintro e w1 ⟨rfl,hb1⟩
   have HW1:=Lib.hid (HW.out.trans (hb1.mono HW.out.size))
   have HY1:=Lib.hid (HY.out.keep hb1 (Nat.le_refl _))
   have HB2:=Lib.hid (HB1.out.below hb1 HB1.out.lt)
   clear hb1 k0 k1 k2 k3
   obtain ⟨k0,k1,k2,k3⟩:=HB2.out.cell
   go_wp2_with fail
   refine (Long_to _ (q.den:Int) b _ HY1.out HD).mono ?_
   rintro e w2 ⟨rfl,hb2⟩
   have HW2:=Lib.hid (HW1.out.trans (hb2.mono HW1.out.size))
   clear hb2 k0 k1 k2 k3
   go_wp2
   go_ret
   exact ⟨rfl,HW2.out⟩
theorem itoa_size {K:Nat} {z:Int} (h:Ten K z) (hK:K≤1000):(⟨(Lib.itoa z).toArray⟩:ByteArray).size≤1001:=by
 obtain ⟨k,h1,h2⟩:=h
 have hl:∀ n:Nat,n<10 ^ k→(Lib.decDigits n).length≤1000:=by
  intro n hn
  by_cases h0:n=0
  · rw [h0];decide +kernel
  · rw [dec_ds _ (by omega),List.length_map,List.length_reverse]
    exact Nat.le_trans (ds_length_le 10 (by omega) _ k hn) (by omega)
 rw [← len_size]
 simp only [List.toList_toArray]
 unfold Lib.itoa
 split
 · next hneg =>
   rw [List.length_cons]
   have:=hl (-z).toNat (by omega)
   first | omega | (have:=hl z.natAbs h2;omega)
 · have:=hl z.toNat (by omega)
   omega
theorem sgn2_one (d:Nat) (hd:0<d):sgn2 (d:Int) 1=if d=1 then 0 else 1:=by
 unfold sgn2
 by_cases h:d=1
 · subst h;rfl
 · rw [if_neg (by omega),if_pos (by omega),if_neg h]
set_option maxRecDepth 100000 in
set_option maxHeartbeats 3200000 in
theorem rrText_any (v:Value) (q:Rat) (s:ByteArray) (K:Nat) (w:World) (h:RRef w v q) (hq:RT K q) (hK:K≤1000) (hs:Hid (True∧s=⟨(rt q).toArray⟩)) :
 Calls Tryz.prog 19 #[v] w fun e w'=>e = .returned (.string s)∧Below w.heap.size w w':=by
 obtain ⟨n1,a1,l1,c1,n2,a2,l2,c2,rfl,x1,x2⟩:=h
 have hA:=((Below.refl w.heap.size w).alloc (Nat.le_refl _) (.cells #[.bool n1,.slice a1 l1 c1,.bool n2,.slice a2 l2 c2] 33)).drew
 have HX:=Lib.hid (x1.keep hA (Nat.le_refl _))
 have HY:=Lib.hid (x2.keep hA (Nat.le_refl _))
 have HW:=Lib.hid hA
 have HB1:=Lib.hid (B4.new w (.bool n1) (.slice a1 l1 c1) (.bool n2) (.slice a2 l2 c2) 33).drew
 have HLN:=Lib.hid (digs_ten hq.1 2000 (by omega))
 have HLD:=Lib.hid (digs_ten hq.2 2000 (by omega))
 have HL1:Hid ((dg (1:Int).natAbs).length≤2000):=Lib.hid (by rw [dg_one];decide)
 obtain ⟨SN,hSN⟩:∃ u:ByteArray,u=⟨(Lib.itoa q.num).toArray⟩:=⟨_,rfl⟩
 obtain ⟨SD,hSD⟩:∃ u:ByteArray,u=⟨(Lib.itoa (q.den:Int)).toArray⟩:=⟨_,rfl⟩
 have HSN:=Lib.hid (And.intro trivial hSN)
 have HSD:=Lib.hid (And.intro trivial hSD)
 have hz1:SN.size≤1001:=by rw [hSN];exact itoa_size hq.1 hK
 have hz2:SD.size≤1001:=by rw [hSD];exact itoa_size hq.2 hK
 have hcat1:∀ W:World,(Op.stringOp .add SN ⟨#[47]⟩).run Tryz.prog W = .ok (.string (SN++(⟨#[47]⟩:ByteArray))) W:=fun W=>run_string_add W _ _ (by omega) (by decide)
 have hcat2:∀ W:World,(Op.stringOp .add (SN++(⟨#[47]⟩:ByteArray)) SD).run Tryz.prog W = .ok (.string (SN++(⟨#[47]⟩:ByteArray)++SD)) W:=fun W=>run_string_add W _ _ (by rw [ByteArray.size_append];have:(⟨#[47]⟩:ByteArray).size=1:=rfl;omega) (by omega)
 obtain ⟨c,hc⟩:∃ c,sgn2 (q.den:Int) 1=c:=⟨_,rfl⟩
 have HC:Hid (True∧c=sgn2 (q.den:Int) 1):=Lib.hid ⟨trivial,hc.symm⟩
 obtain ⟨b0,hb0⟩:∃ b:Bool,(c==0)=b:=⟨_,rfl⟩
 have hway:(b0=true∧SN=s)∨(b0=false∧(SN++(⟨#[47]⟩:ByteArray))++SD=s):=by
  rw [sgn2_one _ q.den_pos] at hc
  by_cases h1:q.den=1
  · rw [if_pos h1] at hc
    exact .inl ⟨by rw [← hb0, ← hc];rfl,by rw [hs.out.2,rt_one q (by omega),hSN]⟩
  · rw [if_neg h1] at hc
    exact .inr ⟨by rw [← hb0, ← hc];rfl,by rw [hs.out.2];exact rt_more q (by omega) SN SD hSN hSD⟩
 have HWAY:=Lib.hid hway
 clear x1 x2 hA hSN hSD hq hc hway hz1 hz2
 obtain ⟨k0,k1,k2,k3⟩:=HB1.out.cell
 go_enter Tryz.func19,Tryz.ntmps19
 go_wp2_with fail
 go_region_held3 (fun w'=>w'.cell? ⟨w.heap.size,0,none⟩=some (.bool n1)∧w'.cell? ⟨w.heap.size,1,none⟩=some (.slice a1 l1 c1)∧w'.cell? ⟨w.heap.size,2,none⟩=some (.bool n2)∧w'.cell? ⟨w.heap.size,3,none⟩=some (.slice a2 l2 c2)) (first | ((try dsimp only);(repeat' apply And.intro);all_goals with_reducible assumption) | go_keep) (first | (go_at_call 48;refine (rCmp_any _ _ (q.den:Int) 1 c _ (by exact hY2) (by exact hv2) HLD.out HL1.out HC).mono ?_;rintro e w3 ⟨rfl,hb3⟩;have hB3:=hB2.below hb3 hB2.lt;have hX3:=hX2.keep hb3 (Nat.le_refl _);have hY3:=hY2.keep hb3 (Nat.le_refl _);have hw3:=hw2.trans (hb3.mono hw2.size);clear j0 j1 j2 j3;obtain ⟨m0,m1,m2,m3⟩:=hB3.cell) | (go_at_call 49;refine (rone_any _).mono ?_;rintro e w2 ⟨v2,rfl,hv2,hb2⟩;have hB2:=HB1.out.below hb2 HB1.out.lt;have hX2:=HX.out.keep hb2 (Nat.le_refl _);have hY2:=HY.out.keep hb2 (Nat.le_refl _);have hw2:=HW.out.trans (hb2.mono HW.out.size);obtain ⟨n3,a3,l3,c3,rfl⟩:=hv2.any;clear k0 k1 k2 k3;obtain ⟨j0,j1,j2,j3⟩:=hB2.cell))
 have HB3:=Lib.hid hB3
 have HX3:=Lib.hid hX3
 have HY3:=Lib.hid hY3
 have HW3:=Lib.hid hw3
 clear hB3 hX3 hY3 hw3 hB2 hX2 hY2 hw2 hv2 hb2 hb3 m0 m1 m2 m3 HB1 HX HY HW
 have hway2:=HWAY.out
 clear HWAY HL1 HC hs hb0
 rcases hway2 with ⟨rfl,rfl⟩ | ⟨rfl,hss⟩
 · obtain ⟨k0,k1,k2,k3⟩:=HB3.out.cell
   go_wp2_with fail
   refine (rText_to _ q.num SN _ HX3.out HLN.out HSN).mono ?_
   rintro e w4 ⟨rfl,hb4⟩
   have HW4:=Lib.hid (HW3.out.trans (hb4.mono HW3.out.size))
   clear hb4 k0 k1 k2 k3
   go_wp2
   go_ret
   exact ⟨rfl,HW4.out⟩
 · have HSS:=Lib.hid (And.intro trivial hss)
   clear hss
   have HB4:=Lib.hid HB3.out.drew
   obtain ⟨k0,k1,k2,k3⟩:=HB4.out.cell
   go_wp2_with fail
   go_region_held3 (fun w'=>w'.cell? ⟨w.heap.size,0,none⟩=some (.bool n1)∧w'.cell? ⟨w.heap.size,1,none⟩=some (.slice a1 l1 c1)∧w'.cell? ⟨w.heap.size,2,none⟩=some (.bool n2)∧w'.cell? ⟨w.heap.size,3,none⟩=some (.slice a2 l2 c2)) (first | ((try dsimp only);(repeat' apply And.intro);all_goals with_reducible assumption) | go_keep) (first | (go_at_call 50;have hgd:=hw4;clear hgd;refine (rText_to _ (q.den:Int) SD _ (by exact hY4) HLD.out HSD).mono ?_;rintro e w5 ⟨rfl,hb5⟩;have hB5:=hB4.below hb5 hB4.lt;have hw5:=hw4.trans (hb5.mono hw4.size);clear j0 j1 j2 j3;obtain ⟨m0,m1,m2,m3⟩:=hB5.cell) | (go_at_call 50;refine (rText_to _ q.num SN _ (by exact HX3.out.keep (Below.refl _ _).drew (Nat.le_refl _)) HLN.out HSN).mono ?_;rintro e w4 ⟨rfl,hb4⟩;have hB4:=HB4.out.below hb4 HB4.out.lt;have hY4:=(HY3.out.keep (Below.refl _ _).drew (Nat.le_refl _)).keep hb4 (Nat.le_refl _);have hw4:=HW3.out.drew.trans (hb4.mono HW3.out.size);clear k0 k1 k2 k3;obtain ⟨j0,j1,j2,j3⟩:=hB4.cell))
   have HW5:=Lib.hid hw5
   clear hw5 hw4 hB5 hB4 hY4 hb4 hb5 m0 m1 m2 m3
   go_wp2
   go_ret
   exact ⟨by rw [← HSS.out.2];rfl,HW5.out⟩
end Go.Proofs.YtkhdocdddicgpaaGreatDoor
set_option linter.unusedVariables false
set_option linter.unusedSimpArgs false
namespace Go.Proofs.YtkhdocdddicgpaaGreatDoor
open Go.RowKit _root_.Go.Proofs.YtkhdocdddicgpaaGreatDoor.Nm
theorem rV_to (s:ByteArray) (b:Bool) (h:Hid (canon s.data.toList=b)) (w:World) :
 Calls Tryz.prog 41 #[.string s] w fun e w'=>e = .returned (.bool b)∧w=w':=by
 have:=rValid_any s w
 rwa [h.out] at this
theorem rO_to (s:ByteArray) (z:Int) (h:canon s.data.toList=true) (hz:Hid (True∧zv s.data.toList=z)) (w:World) :
 Calls Tryz.prog 43 #[.string s] w (RefPost z w):=by
 have:=rOf_any s h w
 rwa [hz.out.2] at this
theorem rV_one (w:World):Calls Tryz.prog 41 #[.string ⟨#[49]⟩] w fun e w'=>e = .returned (.bool true)∧w=w':=rV_to ⟨#[49]⟩ true (Lib.hid (by decide +kernel)) w
theorem rO_one (w:World):Calls Tryz.prog 43 #[.string ⟨#[49]⟩] w (RefPost 1 w):=rO_to ⟨#[49]⟩ 1 (by decide +kernel) (Lib.hid ⟨trivial,by decide +kernel⟩) w
def RRd (o:Option Rat) (w:World) (e:Ending) (w':World):Prop :=
 ∃ n1 a1 l1 c1 n2 a2 l2 c2,e = .returned (.tuple #[.agg #[.bool n1,.slice a1 l1 c1,.bool n2,.slice a2 l2 c2],.bool o.isSome])∧(∀ q,o=some q→RRef w' (.agg #[.bool n1,.slice a1 l1 c1,.bool n2,.slice a2 l2 c2]) q)∧Below w.heap.size w w'
theorem RRd.zero {o:Option Rat} {w w1:World} {g:Nat} {x y z u:Value} (ho:o=none) (hb:Below w.heap.size w w1) (hg:w.heap.size≤g) :
 RRd o w (.returned (.tuple #[.agg #[.bool false,.slice none 0 0,.bool false,.slice none 0 0],.bool false])) (set4 w1 g x y z u):=by
 subst ho
 exact ⟨_,_,_,_,_,_,_,_,rfl,fun q h=>(by cases h),hb.trans ((set4_only w1 g x y z u).below hg)⟩
theorem RRd.none {o:Option Rat} {w w1:World} (ho:o=Option.none) (hb:Below w.heap.size w w1):RRd o w (.returned (.tuple #[.agg #[.bool false,.slice none 0 0,.bool false,.slice none 0 0],.bool false])) w1:=by
 subst ho
 exact ⟨_,_,_,_,_,_,_,_,rfl,fun q h=>(by cases h),hb⟩
theorem RRd.full {o:Option Rat} {q:Rat} {r n1 n2 m1 m2:Bool} {a1 a2 b1 b2:Option Addr} {l1 c1 l2 c2 k1 d1 k2 d2:Nat} {w w1:World} {g:Nat} {x y z u:Value} (ho:o.isSome=r) (hq:∀ p,o=some p→p=q) (h:RRef w1 (.agg #[.bool n1,.slice a1 l1 c1,.bool n2,.slice a2 l2 c2]) q) (hx:B4 w1 g (.bool m1) (.slice b1 k1 d1) (.bool m2) (.slice b2 k2 d2)) (hb:Below w.heap.size w w1) (hg:w.heap.size≤g) :
 RRd o w (.returned (.tuple #[.agg #[.bool n1,.slice a1 l1 c1,.bool n2,.slice a2 l2 c2],.bool r])) (set4 w1 g x y z u):=by
 subst ho
 exact ⟨_,_,_,_,_,_,_,_,rfl,fun p hp=>by rw [hq p hp];exact h.box4 hx _ _ _ _,hb.trans ((set4_only w1 g x y z u).below hg)⟩
theorem byte_in (s:ByteArray) (k:Nat) (h:k<s.size):s[k]∈s.data.toList:=List.mem_iff_getElem?.2 ⟨k,byte_at s k h⟩
theorem miss_byte (s:ByteArray) (h:(47:UInt8)∉s.data.toList) (k:Nat) (hk:k<s.size):((s[k].toNat:Int)==47)=false:=by
 rw [beq_eq_false_iff_ne]
 intro e
 have e2:s[k]=47:=UInt8.toNat_inj.1 (by show s[k].toNat=47;omega)
 exact h (by rw [← e2];exact byte_in s k hk)
theorem Split.size {s A B:ByteArray} (h:Split s A B):s.size=A.size+1+B.size:=by
 have e:=congrArg List.length h.1
 rw [List.length_append,List.length_cons,len_size,len_size,len_size] at e
 omega
theorem Split.left {s A B:ByteArray} (h:Split s A B):s.extract 0 A.size=A:=by
 apply ByteArray.ext
 rw [ByteArray.data_extract]
 apply Array.toList_inj.1
 rw [Array.toList_extract,h.1,List.extract_eq_take_drop,List.drop_zero,Nat.sub_zero, ← len_size,List.take_left]
theorem Split.right {s A B:ByteArray} (h:Split s A B):s.extract (A.size+1) s.size=B:=by
 apply ByteArray.ext
 rw [ByteArray.data_extract]
 apply Array.toList_inj.1
 rw [Array.toList_extract,h.1,List.extract_eq_take_drop,show A.data.toList++47::B.data.toList=(A.data.toList++[47])++B.data.toList from by rw [List.append_assoc];rfl,show A.size+1=(A.data.toList++[47]).length from by rw [List.length_append,len_size];rfl,List.drop_left,List.take_of_length_le]
 rw [List.length_append,len_size,len_size,h.size]
 show B.size≤A.size+1+B.size-(A.size+1)
 omega
theorem Split.before {s A B:ByteArray} (h:Split s A B) (k:Nat) (hk:k<s.size) (hn:k<A.size):((s[k].toNat:Int)==47)=false:=by
 rw [beq_eq_false_iff_ne]
 intro e
 have e2:s[k]=47:=UInt8.toNat_inj.1 (by show s[k].toNat=47;omega)
 have h1:=byte_at s k hk
 rw [e2,h.1,List.getElem?_append_left (by rw [len_size];exact hn)] at h1
 exact h.2 (List.mem_iff_getElem?.2 ⟨k,h1⟩)
theorem Split.at {s A B:ByteArray} (h:Split s A B) (hk:A.size<s.size):((s[A.size].toNat:Int)==47)=true:=by
 have h1:=byte_at s A.size hk
 rw [h.1,List.getElem?_append_right (by rw [len_size];exact Nat.le_refl _),len_size,Nat.sub_self] at h1
 have h2:s[A.size]=47:=(Option.some.inj h1).symm
 rw [h2];rfl
theorem text_back {l:List UInt8} {q:Rat} (h:RT 400 q):(rt q==l)=(rval l==some q):=by
 rw [Bool.eq_iff_iff,beq_iff_eq,beq_iff_eq]
 constructor
 · intro e;rw [← e];exact rval_rt q (h.short (by omega))
 · intro e;exact (rval_some l q e).1.symm
theorem rval_den {A B:List UInt8} (h:(47:UInt8)∉A) (q:Rat) (hv:rval (A++47::B)=some q):q=Rat.divInt (zv A) (zv B):=by
 rw [rval_frac A B h] at hv
 split at hv
 · exact (Option.some.inj hv).symm
 · cases hv
set_option maxRecDepth 100000 in
set_option maxHeartbeats 12800000 in
theorem rrRead_miss (s:ByteArray) (o:Option Rat) (w:World) (h:(47:UInt8)∉s.data.toList) (ho:Hid (rval s.data.toList=o)) (hs:s.size≤100000) :
 Calls Tryz.prog 16 #[.string s] w (RRd o w):=by
 have HW0:=Lib.hid ((Below.refl w.heap.size w).alloc (Nat.le_refl _) (.cells #[.bool false,.slice none 0 0,.bool false,.slice none 0 0] 33))
 have HX0:=Lib.hid (B4.new w (.bool false) (.slice none 0 0) (.bool false) (.slice none 0 0) 33)
 have hv:=rval_int _ h
 rw [ho.out] at hv
 have hne:∀ k (hk:k<s.size),((s[k].toNat:Int)==47)=false:=miss_byte s h
 have HNEQ:=Lib.hid hne
 have hext:s.extract 0 s.size=s:=by rw [ByteArray.extract_zero_size]
 have HEXT:=Lib.hid hext
 clear h hne hext
 cases ka:canon s.data.toList
 · have HNONE:Hid (o=none):=Lib.hid (by rw [hv,ka];rfl)
   have KA:=Lib.hid ka
   clear hv ka
   go_enter Tryz.func16,Tryz.ntmps16
   go_wp2
   go_loop [4,5] (fun t i=>∃ k:Nat,k≤s.size∧i = .int .i64 k∧t = .int .i64 s.size) (fun _ i=>s.size-(intOf i).toNat)
   case atStart=>exact ⟨0,Nat.zero_le _,rfl,rfl⟩
   case round =>
    obtain ⟨k,hk,rfl,rfl⟩:=hrel
    by_cases hlt:k<s.size
    · have hc:=HNEQ.out k hlt
      have hlt':(k:Int)<s.size:=by omega
      go_wp2
      go_round
      case rel=>exact ⟨k+1,by omega,by go_num,rfl⟩
      case measure=>simp [intOf];omega
    · obtain rfl:k=s.size:=by omega
      clear hlt
      go_wp2_with fail
      refine (rV_to s _ KA _).mono ?_
      rintro e w9 ⟨rfl,rfl⟩
      obtain ⟨e0,e1,e2,e3⟩:=HX0.out.cell
      obtain ⟨f0,f1,f2,f3⟩:=HX0.out.froz
      go_wp2
      obtain ⟨l0,l1,l2,l3⟩:=(HX0.out.put (.bool false) (.slice none 0 0) (.bool false) (.slice none 0 0)).cell
      refine bodyPost_ret (v := .tuple #[.agg #[.bool false,.slice none 0 0,.bool false,.slice none 0 0],.bool false]) (by simp only [results,Tryz.results16];simp [go_sem,l0,l1,l2,l3]) rfl ?_
      first | exact RRd.none HNONE.out HW0.out | exact RRd.zero HNONE.out HW0.out (Nat.le_refl _)
 · have KA:=Lib.hid ka
   rw [ka] at hv
   obtain ⟨a,ha⟩:∃ a,zv s.data.toList=a:=⟨_,rfl⟩
   have ta:=zv_ten _ ka
   rw [ha] at hv ta
   have HZA:=Lib.hid (And.intro trivial ha)
   have HNZ:Hid (True∧decide ((1:Int)=0)=false):=Lib.hid ⟨trivial,rfl⟩
   have HNE:Hid ((1:Int)≠0):=Lib.hid (by decide)
   obtain ⟨Q,hQ⟩:∃ Q,Rat.divInt a 1=Q:=⟨_,rfl⟩
   have hlow:=divInt_low a 1 (by omega) (by simp)
   have hQ2:(a:Rat)=Q:=by rw [← hQ];exact Rat.ext ((Rat.num_intCast a).trans hlow.1.symm) ((Rat.den_intCast a).trans (by have:=hlow.2;omega))
   have hnum:Q.num=a∧Q.den=1:=by rw [← hQ2];exact ⟨Rat.num_intCast a,Rat.den_intCast a⟩
   have HRT:Hid (RT 400 Q):=Lib.hid ⟨by rw [hnum.1];exact ta,by rw [hnum.2];exact .one (by omega)⟩
   have HLEN:Hid ((dg a.natAbs).length≤1000∧(dg (1:Int).natAbs).length≤1000):=Lib.hid ⟨digs_ten ta 1000 (by omega),by rw [dg_one];decide⟩
   have HQ:=Lib.hid hQ
   obtain ⟨TX,hTX⟩:∃ t:ByteArray,t=⟨(rt Q).toArray⟩:=⟨_,rfl⟩
   have HTX:=Lib.hid (And.intro trivial hTX)
   have hos:o=some Q:=by rw [hv, ← hQ2];rfl
   obtain ⟨r,hr⟩:∃ r:Bool,(TX.toList==s.toList)=r:=⟨_,rfl⟩
   have hr1:r=true:=by rw [← hr,hTX,Lib.toList_data,Lib.toList_data,List.toList_toArray,text_back HRT.out,ho.out,hos];simp
   have HOR:Hid (o.isSome=r∧∀ p,o=some p→p=Q):=Lib.hid ⟨by rw [hos,hr1];rfl,fun p hp=>by rw [hos] at hp;exact (Option.some.inj hp).symm⟩
   clear hv ka ha ta hQ hQ2 hlow hnum hTX hos hr1
   go_enter Tryz.func16,Tryz.ntmps16
   go_wp2
   go_loop [4,5] (fun t i=>∃ k:Nat,k≤s.size∧i = .int .i64 k∧t = .int .i64 s.size) (fun _ i=>s.size-(intOf i).toNat)
   case atStart=>exact ⟨0,Nat.zero_le _,rfl,rfl⟩
   case round =>
    obtain ⟨k,hk,rfl,rfl⟩:=hrel
    by_cases hlt:k<s.size
    · have hc:=HNEQ.out k hlt
      have hlt':(k:Int)<s.size:=by omega
      go_wp2
      go_round
      case rel=>exact ⟨k+1,by omega,by go_num,rfl⟩
      case measure=>simp [intOf];omega
    · obtain rfl:k=s.size:=by omega
      clear hlt
      go_wp2_with fail
      refine (rV_to s _ KA _).mono ?_
      rintro e w9 ⟨rfl,rfl⟩
      go_wp2_with fail
      refine (rV_one _).mono ?_
      rintro e w9 ⟨rfl,rfl⟩
      go_wp2_with fail
      refine (rO_one _).mono ?_
      rintro e w1 ⟨v1,rfl,hv1,hb1⟩
      have HV1:=Lib.hid hv1
      have HW1:=Lib.hid (HW0.out.trans (hb1.mono HW0.out.size))
      have HX1:=Lib.hid (HX0.out.below hb1 HX0.out.lt)
      obtain ⟨n1,a1,l1,c1,rfl⟩:=hv1.any
      clear hv1 hb1
      go_wp2_with fail
      refine (rzero_any _ 1 false _ HV1.out HNZ).mono ?_
      rintro e w2 ⟨rfl,hb2⟩
      have HW2:=Lib.hid (HW1.out.trans (hb2.mono HW1.out.size))
      have HX2:=Lib.hid (HX1.out.below hb2 HX1.out.lt)
      clear hb2
      go_wp2_with fail
      refine (rO_to s a KA.out HZA _).mono ?_
      rintro e w3 ⟨v3,rfl,hv3,hb3⟩
      have HV3:=Lib.hid hv3
      have HW3:=Lib.hid (HW2.out.trans (hb3.mono HW2.out.size))
      have HX3:=Lib.hid (HX2.out.below hb3 HX2.out.lt)
      obtain ⟨n3,a3,l3,c3,rfl⟩:=hv3.any
      clear hv3 hb3
      go_wp2_with fail
      refine (rO_one _).mono ?_
      rintro e w4 ⟨v4,rfl,hv4,hb4⟩
      have HV4:=Lib.hid hv4
      have HV3':=Lib.hid (HV3.out.keep hb4 (Nat.le_refl _))
      have HW4:=Lib.hid (HW3.out.trans (hb4.mono HW3.out.size))
      have HX4:=Lib.hid (HX3.out.below hb4 HX3.out.lt)
      obtain ⟨n4,a4,l4,c4,rfl⟩:=hv4.any
      clear hv4 hb4
      go_wp2_with fail
      refine (rNew_any _ _ a 1 Q _ HV3'.out HV4.out HNE.out HLEN.out.1 HLEN.out.2 HQ).mono ?_
      rintro e w5 ⟨v5,rfl,hv5,hb5⟩
      have HW5:=Lib.hid (HW4.out.trans (hb5.mono HW4.out.size))
      have HX5:=Lib.hid (HX4.out.below hb5 HX4.out.lt)
      obtain ⟨m1,b1,k1,d1,m2,b2,k2,d2,rfl,hz1,hz2⟩:=hv5
      have hA:=((Below.refl w5.heap.size w5).alloc (Nat.le_refl _) (.cells #[.bool m1,.slice b1 k1 d1,.bool m2,.slice b2 k2 d2] 33)).drew
      have HV6:Hid (RRef (w5.alloc (.cells #[.bool m1,.slice b1 k1 d1,.bool m2,.slice b2 k2 d2] 33)).drew (.agg #[.bool m1,.slice b1 k1 d1,.bool m2,.slice b2 k2 d2]) Q):=Lib.hid ⟨_,_,_,_,_,_,_,_,rfl,hz1.keep hA (Nat.le_refl _),hz2.keep hA (Nat.le_refl _)⟩
      have HB6:=Lib.hid (B4.new w5 (.bool m1) (.slice b1 k1 d1) (.bool m2) (.slice b2 k2 d2) 33).drew
      have HW6:=Lib.hid (HW5.out.trans (hA.mono HW5.out.size))
      have HX6:=Lib.hid (HX5.out.below hA HX5.out.lt)
      have hlt:w.heap.size<w5.heap.size:=HX5.out.lt
      clear hz1 hz2 hA hb5 HV1 HW1 HX1 HW2 HX2 HV3 HW3 HX3 HV4 HV3' HW4 HX4 HW5 HX5
      obtain ⟨k0,k1',k2',k3⟩:=HB6.out.cell
      go_wp2_with fail
      go_region_held3 (fun w'=>w'.cell? ⟨w5.heap.size,0,none⟩=some (.bool m1)∧w'.cell? ⟨w5.heap.size,1,none⟩=some (.slice b1 k1 d1)∧w'.cell? ⟨w5.heap.size,2,none⟩=some (.bool m2)∧w'.cell? ⟨w5.heap.size,3,none⟩=some (.slice b2 k2 d2)) (first | ((try dsimp only);(repeat' apply And.intro);all_goals with_reducible assumption) | ((try dsimp only);(repeat' apply And.intro);all_goals (repeat' (first | with_reducible assumption | refine cell_off4 ?_ ?_ | omega))) | go_keep) ((go_at_call 19;refine (rrText_any _ Q TX 400 _ (by exact HV6.out) HRT.out (by omega) HTX).mono ?_;rintro e w7 ⟨rfl,hb7⟩;have hV7:=HV6.out.keep hb7 (Nat.le_refl _);have hB7:=HB6.out.below hb7 HB6.out.lt;have hX7:=HX6.out.below hb7 HX6.out.lt;have hw7:=HW6.out.trans (hb7.mono HW6.out.size);clear k0 k1' k2' k3;obtain ⟨j0,j1,j2,j3⟩:=hB7.cell;obtain ⟨e0,e1,e2,e3⟩:=hX7.cell;obtain ⟨f0,f1,f2,f3⟩:=hX7.froz))
      have HV7:=Lib.hid hV7
      have HX7:=Lib.hid hX7
      have HW7:=Lib.hid hw7
      clear hV7 hX7 hw7 hB7 hb7 j0 j1 j2 j3 e0 e1 e2 e3 f0 f1 f2 f3
      go_wp2
      obtain ⟨l0,l1',l2',l3'⟩:=(HX7.out.put (.bool m1) (.slice b1 k1 d1) (.bool m2) (.slice b2 k2 d2)).cell
      refine bodyPost_ret (v := .tuple #[.agg #[.bool m1,.slice b1 k1 d1,.bool m2,.slice b2 k2 d2],.bool r]) (by simp only [results,Tryz.results16];simp [go_sem,l0,l1',l2',l3']) rfl ?_
      exact RRd.full HOR.out.1 HOR.out.2 HV7.out HX7.out HW7.out (Nat.le_refl _)
set_option maxRecDepth 100000 in
set_option maxHeartbeats 12800000 in
theorem rrRead_hit (s A B:ByteArray) (o:Option Rat) (w:World) (h:Split s A B) (ho:Hid (rval s.data.toList=o)) (hs:s.size≤100000) :
 Calls Tryz.prog 16 #[.string s] w (RRd o w):=by
 have HW0:=Lib.hid ((Below.refl w.heap.size w).alloc (Nat.le_refl _) (.cells #[.bool false,.slice none 0 0,.bool false,.slice none 0 0] 33))
 have HX0:=Lib.hid (B4.new w (.bool false) (.slice none 0 0) (.bool false) (.slice none 0 0) 33)
 have hv:=h.val
 rw [ho.out] at hv
 have hz:=h.size
 have HSP:=Lib.hid h
 have HA:=Lib.hid h.left
 have HB:=Lib.hid h.right
 have hn1:((A.size:Int)==(s.size:Int))=false:=by rw [beq_eq_false_iff_ne];omega
 have hn2:(A.size==s.size)=false:=by rw [beq_eq_false_iff_ne];omega
 have HN:=Lib.hid (And.intro hn1 hn2)
 have HZ:=Lib.hid hz
 clear h hz hn1 hn2
 cases ka:canon A.data.toList
 · have HNONE:Hid (o=none):=Lib.hid (by rw [hv,ka];rfl)
   have KA:=Lib.hid ka
   clear hv ka
   go_enter Tryz.func16,Tryz.ntmps16
   go_wp2
   go_loop [4,5] (fun t i=>∃ k:Nat,k≤s.size∧i = .int .i64 k∧((k≤A.size∧t = .int .i64 s.size)∨(A.size<k∧t = .int .i64 A.size))) (fun _ i=>s.size-(intOf i).toNat)
   case atStart=>exact ⟨0,Nat.zero_le _,rfl,.inl ⟨Nat.zero_le _,rfl⟩⟩
   case round =>
    obtain ⟨k,hk,rfl,hway⟩:=hrel
    by_cases hlt:k<s.size
    · have hlt':(k:Int)<s.size:=by omega
      rcases hway with ⟨hkn,rfl⟩ | ⟨hkn,rfl⟩
      · by_cases hkk:k=A.size
        · subst hkk
          have hc:=HSP.out.at hlt
          go_wp2
          go_round
          case rel=>exact ⟨A.size+1,by omega,by go_num,.inr ⟨by omega,rfl⟩⟩
          case measure=>simp [intOf];omega
        · have hc:=HSP.out.before k hlt (by omega)
          go_wp2
          go_round
          case rel=>exact ⟨k+1,by omega,by go_num,.inl ⟨by omega,rfl⟩⟩
          case measure=>simp [intOf];omega
      · obtain ⟨hn1,hn2⟩:=HN.out
        cases hc:((s[k].toNat:Int)==47)
        · go_wp2
          go_round
          case rel=>exact ⟨k+1,by omega,by go_num,.inr ⟨by omega,rfl⟩⟩
          case measure=>simp [intOf];omega
        · go_wp2
          go_round
          case rel=>exact ⟨k+1,by omega,by go_num,.inr ⟨by omega,rfl⟩⟩
          case measure=>simp [intOf];omega
    · obtain rfl:k=s.size:=by omega
      rcases hway with ⟨hkn,rfl⟩ | ⟨hkn,rfl⟩
      · exfalso;have:=HZ.out;omega
      · have c1:(0:Int)≤A.size:=by omega
        have c2:(A.size:Int)≤s.size:=by omega
        have c3:(A.size:Int)<s.size:=by omega
        have c4:(0:Int)≤(A.size:Int)+1:=by omega
        have c5:(A.size:Int)+1≤s.size:=by omega
        clear hlt hk hkn
        go_upto_region 11 with fail
        rw [HA.out]
        first | rw [HB.out] | rw [show s.extract (A.size+1) s.size=B from HB.out]
        go_wp2_with fail
        refine (rV_to A _ KA _).mono ?_
        rintro e w9 ⟨rfl,rfl⟩
        obtain ⟨e0,e1,e2,e3⟩:=HX0.out.cell
        obtain ⟨f0,f1,f2,f3⟩:=HX0.out.froz
        go_wp2
        obtain ⟨l0,l1,l2,l3⟩:=(HX0.out.put (.bool false) (.slice none 0 0) (.bool false) (.slice none 0 0)).cell
        refine bodyPost_ret (v := .tuple #[.agg #[.bool false,.slice none 0 0,.bool false,.slice none 0 0],.bool false]) (by simp only [results,Tryz.results16];simp [go_sem,l0,l1,l2,l3]) rfl ?_
        first | exact RRd.none HNONE.out HW0.out | exact RRd.zero HNONE.out HW0.out (Nat.le_refl _)
 · cases kb:canon B.data.toList
   · have HNONE:Hid (o=none):=Lib.hid (by rw [hv,ka,kb];rfl)
     have KA:=Lib.hid ka
     have KB:=Lib.hid kb
     clear hv ka kb
     go_enter Tryz.func16,Tryz.ntmps16
     go_wp2
     go_loop [4,5] (fun t i=>∃ k:Nat,k≤s.size∧i = .int .i64 k∧((k≤A.size∧t = .int .i64 s.size)∨(A.size<k∧t = .int .i64 A.size))) (fun _ i=>s.size-(intOf i).toNat)
     case atStart=>exact ⟨0,Nat.zero_le _,rfl,.inl ⟨Nat.zero_le _,rfl⟩⟩
     case round =>
      obtain ⟨k,hk,rfl,hway⟩:=hrel
      by_cases hlt:k<s.size
      · have hlt':(k:Int)<s.size:=by omega
        rcases hway with ⟨hkn,rfl⟩ | ⟨hkn,rfl⟩
        · by_cases hkk:k=A.size
          · subst hkk
            have hc:=HSP.out.at hlt
            go_wp2
            go_round
            case rel=>exact ⟨A.size+1,by omega,by go_num,.inr ⟨by omega,rfl⟩⟩
            case measure=>simp [intOf];omega
          · have hc:=HSP.out.before k hlt (by omega)
            go_wp2
            go_round
            case rel=>exact ⟨k+1,by omega,by go_num,.inl ⟨by omega,rfl⟩⟩
            case measure=>simp [intOf];omega
        · obtain ⟨hn1,hn2⟩:=HN.out
          cases hc:((s[k].toNat:Int)==47)
          · go_wp2
            go_round
            case rel=>exact ⟨k+1,by omega,by go_num,.inr ⟨by omega,rfl⟩⟩
            case measure=>simp [intOf];omega
          · go_wp2
            go_round
            case rel=>exact ⟨k+1,by omega,by go_num,.inr ⟨by omega,rfl⟩⟩
            case measure=>simp [intOf];omega
      · obtain rfl:k=s.size:=by omega
        rcases hway with ⟨hkn,rfl⟩ | ⟨hkn,rfl⟩
        · exfalso;have:=HZ.out;omega
        · have c1:(0:Int)≤A.size:=by omega
          have c2:(A.size:Int)≤s.size:=by omega
          have c3:(A.size:Int)<s.size:=by omega
          have c4:(0:Int)≤(A.size:Int)+1:=by omega
          have c5:(A.size:Int)+1≤s.size:=by omega
          clear hlt hk hkn
          go_upto_region 11 with fail
          rw [HA.out]
          first | rw [HB.out] | rw [show s.extract (A.size+1) s.size=B from HB.out]
          go_wp2_with fail
          refine (rV_to A _ KA _).mono ?_
          rintro e w9 ⟨rfl,rfl⟩
          go_wp2_with fail
          refine (rV_to B _ KB _).mono ?_
          rintro e w9 ⟨rfl,rfl⟩
          obtain ⟨e0,e1,e2,e3⟩:=HX0.out.cell
          obtain ⟨f0,f1,f2,f3⟩:=HX0.out.froz
          go_wp2
          obtain ⟨l0,l1,l2,l3⟩:=(HX0.out.put (.bool false) (.slice none 0 0) (.bool false) (.slice none 0 0)).cell
          refine bodyPost_ret (v := .tuple #[.agg #[.bool false,.slice none 0 0,.bool false,.slice none 0 0],.bool false]) (by simp only [results,Tryz.results16];simp [go_sem,l0,l1,l2,l3]) rfl ?_
          first | exact RRd.none HNONE.out HW0.out | exact RRd.zero HNONE.out HW0.out (Nat.le_refl _)
   · have KA:=Lib.hid ka
     have KB:=Lib.hid kb
     obtain ⟨a,ha⟩:∃ a,zv A.data.toList=a:=⟨_,rfl⟩
     obtain ⟨b,hb⟩:∃ a,zv B.data.toList=a:=⟨_,rfl⟩
     have ta:=zv_ten _ ka
     have tb:=zv_ten _ kb
     rw [ha] at ta
     rw [hb] at tb
     rw [ka,kb,ha,hb] at hv
     have HZA:=Lib.hid (And.intro trivial ha)
     have HZB:=Lib.hid (And.intro trivial hb)
     by_cases hb0:b=0
     · have HNONE:Hid (o=none):=Lib.hid (by rw [hv,hb0];rfl)
       have HNZ:Hid (True∧decide (b=0)=true):=Lib.hid ⟨trivial,decide_eq_true hb0⟩
       clear hv ka kb ha hb ta tb hb0
       go_enter Tryz.func16,Tryz.ntmps16
       go_wp2
       go_loop [4,5] (fun t i=>∃ k:Nat,k≤s.size∧i = .int .i64 k∧((k≤A.size∧t = .int .i64 s.size)∨(A.size<k∧t = .int .i64 A.size))) (fun _ i=>s.size-(intOf i).toNat)
       case atStart=>exact ⟨0,Nat.zero_le _,rfl,.inl ⟨Nat.zero_le _,rfl⟩⟩
       case round =>
        obtain ⟨k,hk,rfl,hway⟩:=hrel
        by_cases hlt:k<s.size
        · have hlt':(k:Int)<s.size:=by omega
          rcases hway with ⟨hkn,rfl⟩ | ⟨hkn,rfl⟩
          · by_cases hkk:k=A.size
            · subst hkk
              have hc:=HSP.out.at hlt
              go_wp2
              go_round
              case rel=>exact ⟨A.size+1,by omega,by go_num,.inr ⟨by omega,rfl⟩⟩
              case measure=>simp [intOf];omega
            · have hc:=HSP.out.before k hlt (by omega)
              go_wp2
              go_round
              case rel=>exact ⟨k+1,by omega,by go_num,.inl ⟨by omega,rfl⟩⟩
              case measure=>simp [intOf];omega
          · obtain ⟨hn1,hn2⟩:=HN.out
            cases hc:((s[k].toNat:Int)==47)
            · go_wp2
              go_round
              case rel=>exact ⟨k+1,by omega,by go_num,.inr ⟨by omega,rfl⟩⟩
              case measure=>simp [intOf];omega
            · go_wp2
              go_round
              case rel=>exact ⟨k+1,by omega,by go_num,.inr ⟨by omega,rfl⟩⟩
              case measure=>simp [intOf];omega
        · obtain rfl:k=s.size:=by omega
          rcases hway with ⟨hkn,rfl⟩ | ⟨hkn,rfl⟩
          · exfalso;have:=HZ.out;omega
          · have c1:(0:Int)≤A.size:=by omega
            have c2:(A.size:Int)≤s.size:=by omega
            have c3:(A.size:Int)<s.size:=by omega
            have c4:(0:Int)≤(A.size:Int)+1:=by omega
            have c5:(A.size:Int)+1≤s.size:=by omega
            clear hlt hk hkn
            go_upto_region 11 with fail
            rw [HA.out]
            first | rw [HB.out] | rw [show s.extract (A.size+1) s.size=B from HB.out]
            go_wp2_with fail
            refine (rV_to A _ KA _).mono ?_
            rintro e w9 ⟨rfl,rfl⟩
            go_wp2_with fail
            refine (rV_to B _ KB _).mono ?_
            rintro e w9 ⟨rfl,rfl⟩
            go_wp2_with fail
            refine (rO_to B b KB.out HZB _).mono ?_
            rintro e w1 ⟨v1,rfl,hv1,hb1⟩
            have HV1:=Lib.hid hv1
            have HW1:=Lib.hid (HW0.out.trans (hb1.mono HW0.out.size))
            have HX1:=Lib.hid (HX0.out.below hb1 HX0.out.lt)
            obtain ⟨n1,a1,l1,c1,rfl⟩:=hv1.any
            clear hv1 hb1
            go_wp2_with fail
            refine (rzero_any _ b true _ HV1.out HNZ).mono ?_
            rintro e w2 ⟨rfl,hb2⟩
            have HW2:=Lib.hid (HW1.out.trans (hb2.mono HW1.out.size))
            have HX2:=Lib.hid (HX1.out.below hb2 HX1.out.lt)
            clear hb2
            obtain ⟨e0,e1,e2,e3⟩:=HX2.out.cell
            obtain ⟨f0,f1,f2,f3⟩:=HX2.out.froz
            go_wp2
            obtain ⟨l0,l1,l2,l3⟩:=(HX2.out.put (.bool false) (.slice none 0 0) (.bool false) (.slice none 0 0)).cell
            refine bodyPost_ret (v := .tuple #[.agg #[.bool false,.slice none 0 0,.bool false,.slice none 0 0],.bool false]) (by simp only [results,Tryz.results16];simp [go_sem,l0,l1,l2,l3]) rfl ?_
            first | exact RRd.none HNONE.out HW2.out | exact RRd.zero HNONE.out HW2.out (Nat.le_refl _)
     · have HNZ:Hid (True∧decide (b=0)=false):=Lib.hid ⟨trivial,decide_eq_false hb0⟩
       have HNE:=Lib.hid hb0
       obtain ⟨Q,hQ⟩:∃ Q,Rat.divInt a b=Q:=⟨_,rfl⟩
       have HRT:Hid (RT 400 Q):=Lib.hid (by rw [← hQ];exact .divInt hb0 ta tb)
       have HLEN:Hid ((dg a.natAbs).length≤1000∧(dg b.natAbs).length≤1000):=Lib.hid ⟨digs_ten ta 1000 (by omega),digs_ten tb 1000 (by omega)⟩
       have HQ:=Lib.hid hQ
       obtain ⟨TX,hTX⟩:∃ t:ByteArray,t=⟨(rt Q).toArray⟩:=⟨_,rfl⟩
       have HTX:=Lib.hid (And.intro trivial hTX)
       obtain ⟨r,hr⟩:∃ r:Bool,(TX.toList==s.toList)=r:=⟨_,rfl⟩
       have hu:∀ p,o=some p→p=Q:=by
        intro p hp
        have h1:=ho.out
        rw [hp,HSP.out.1] at h1
        rw [rval_den HSP.out.2 p h1,ha,hb,hQ]
       have hr1:o.isSome=r:=by
        rw [← hr,hTX,Lib.toList_data,Lib.toList_data,List.toList_toArray,text_back HRT.out,ho.out]
        cases o with
        | none=>rfl
        | some p=>rw [hu p rfl];simp
       have HOR:Hid (o.isSome=r∧∀ p,o=some p→p=Q):=Lib.hid ⟨hr1,hu⟩
       clear hv ka kb ha hb ta tb hb0 hQ hTX hu hr1
       go_enter Tryz.func16,Tryz.ntmps16
       go_wp2
       go_loop [4,5] (fun t i=>∃ k:Nat,k≤s.size∧i = .int .i64 k∧((k≤A.size∧t = .int .i64 s.size)∨(A.size<k∧t = .int .i64 A.size))) (fun _ i=>s.size-(intOf i).toNat)
       case atStart=>exact ⟨0,Nat.zero_le _,rfl,.inl ⟨Nat.zero_le _,rfl⟩⟩
       case round =>
        obtain ⟨k,hk,rfl,hway⟩:=hrel
        by_cases hlt:k<s.size
        · have hlt':(k:Int)<s.size:=by omega
          rcases hway with ⟨hkn,rfl⟩ | ⟨hkn,rfl⟩
          · by_cases hkk:k=A.size
            · subst hkk
              have hc:=HSP.out.at hlt
              go_wp2
              go_round
              case rel=>exact ⟨A.size+1,by omega,by go_num,.inr ⟨by omega,rfl⟩⟩
              case measure=>simp [intOf];omega
            · have hc:=HSP.out.before k hlt (by omega)
              go_wp2
              go_round
              case rel=>exact ⟨k+1,by omega,by go_num,.inl ⟨by omega,rfl⟩⟩
              case measure=>simp [intOf];omega
          · obtain ⟨hn1,hn2⟩:=HN.out
            cases hc:((s[k].toNat:Int)==47)
            · go_wp2
              go_round
              case rel=>exact ⟨k+1,by omega,by go_num,.inr ⟨by omega,rfl⟩⟩
              case measure=>simp [intOf];omega
            · go_wp2
              go_round
              case rel=>exact ⟨k+1,by omega,by go_num,.inr ⟨by omega,rfl⟩⟩
              case measure=>simp [intOf];omega
        · obtain rfl:k=s.size:=by omega
          rcases hway with ⟨hkn,rfl⟩ | ⟨hkn,rfl⟩
          · exfalso;have:=HZ.out;omega
          · have c1:(0:Int)≤A.size:=by omega
            have c2:(A.size:Int)≤s.size:=by omega
            have c3:(A.size:Int)<s.size:=by omega
            have c4:(0:Int)≤(A.size:Int)+1:=by omega
            have c5:(A.size:Int)+1≤s.size:=by omega
            clear hlt hk hkn
            go_upto_region 11 with fail
            rw [HA.out]
            first | rw [HB.out] | rw [show s.extract (A.size+1) s.size=B from HB.out]
            go_wp2_with fail
            refine (rV_to A _ KA _).mono ?_
            rintro e w9 ⟨rfl,rfl⟩
            go_wp2_with fail
            refine (rV_to B _ KB _).mono ?_
            rintro e w9 ⟨rfl,rfl⟩
            go_wp2_with fail
            refine (rO_to B b KB.out HZB _).mono ?_
            rintro e w1 ⟨v1,rfl,hv1,hb1⟩
            have HV1:=Lib.hid hv1
            have HW1:=Lib.hid (HW0.out.trans (hb1.mono HW0.out.size))
            have HX1:=Lib.hid (HX0.out.below hb1 HX0.out.lt)
            obtain ⟨n1,a1,l1,c1,rfl⟩:=hv1.any
            clear hv1 hb1
            go_wp2_with fail
            refine (rzero_any _ b false _ HV1.out HNZ).mono ?_
            rintro e w2 ⟨rfl,hb2⟩
            have HW2:=Lib.hid (HW1.out.trans (hb2.mono HW1.out.size))
            have HX2:=Lib.hid (HX1.out.below hb2 HX1.out.lt)
            clear hb2
            go_wp2_with fail
            refine (rO_to A a KA.out HZA _).mono ?_
            rintro e w3 ⟨v3,rfl,hv3,hb3⟩
            have HV3:=Lib.hid hv3
            have HW3:=Lib.hid (HW2.out.trans (hb3.mono HW2.out.size))
            have HX3:=Lib.hid (HX2.out.below hb3 HX2.out.lt)
            obtain ⟨n3,a3,l3,c3,rfl⟩:=hv3.any
            clear hv3 hb3
            go_wp2_with fail
            refine (rO_to B b KB.out HZB _).mono ?_
            rintro e w4 ⟨v4,rfl,hv4,hb4⟩
            have HV4:=Lib.hid hv4
            have HV3':=Lib.hid (HV3.out.keep hb4 (Nat.le_refl _))
            have HW4:=Lib.hid (HW3.out.trans (hb4.mono HW3.out.size))
            have HX4:=Lib.hid (HX3.out.below hb4 HX3.out.lt)
            obtain ⟨n4,a4,l4,c4,rfl⟩:=hv4.any
            clear hv4 hb4
            go_wp2_with fail
            refine (rNew_any _ _ a b Q _ HV3'.out HV4.out HNE.out HLEN.out.1 HLEN.out.2 HQ).mono ?_
            rintro e w5 ⟨v5,rfl,hv5,hb5⟩
            have HW5:=Lib.hid (HW4.out.trans (hb5.mono HW4.out.size))
            have HX5:=Lib.hid (HX4.out.below hb5 HX4.out.lt)
            obtain ⟨m1,b1,k1,d1,m2,b2,k2,d2,rfl,hz1,hz2⟩:=hv5
            have hA:=((Below.refl w5.heap.size w5).alloc (Nat.le_refl _) (.cells #[.bool m1,.slice b1 k1 d1,.bool m2,.slice b2 k2 d2] 33)).drew
            have HV6:Hid (RRef (w5.alloc (.cells #[.bool m1,.slice b1 k1 d1,.bool m2,.slice b2 k2 d2] 33)).drew (.agg #[.bool m1,.slice b1 k1 d1,.bool m2,.slice b2 k2 d2]) Q):=Lib.hid ⟨_,_,_,_,_,_,_,_,rfl,hz1.keep hA (Nat.le_refl _),hz2.keep hA (Nat.le_refl _)⟩
            have HB6:=Lib.hid (B4.new w5 (.bool m1) (.slice b1 k1 d1) (.bool m2) (.slice b2 k2 d2) 33).drew
            have HW6:=Lib.hid (HW5.out.trans (hA.mono HW5.out.size))
            have HX6:=Lib.hid (HX5.out.below hA HX5.out.lt)
            have hlt:w.heap.size<w5.heap.size:=HX5.out.lt
            clear hz1 hz2 hA hb5 HV1 HW1 HX1 HW2 HX2 HV3 HW3 HX3 HV4 HV3' HW4 HX4 HW5 HX5
            obtain ⟨k0,k1',k2',k3⟩:=HB6.out.cell
            go_wp2_with fail
            go_region_held3 (fun w'=>w'.cell? ⟨w5.heap.size,0,none⟩=some (.bool m1)∧w'.cell? ⟨w5.heap.size,1,none⟩=some (.slice b1 k1 d1)∧w'.cell? ⟨w5.heap.size,2,none⟩=some (.bool m2)∧w'.cell? ⟨w5.heap.size,3,none⟩=some (.slice b2 k2 d2)) (first | ((try dsimp only);(repeat' apply And.intro);all_goals with_reducible assumption) | ((try dsimp only);(repeat' apply And.intro);all_goals (repeat' (first | with_reducible assumption | refine cell_off4 ?_ ?_ | omega))) | go_keep) ((go_at_call 19;refine (rrText_any _ Q TX 400 _ (by exact HV6.out) HRT.out (by omega) HTX).mono ?_;rintro e w7 ⟨rfl,hb7⟩;have hV7:=HV6.out.keep hb7 (Nat.le_refl _);have hB7:=HB6.out.below hb7 HB6.out.lt;have hX7:=HX6.out.below hb7 HX6.out.lt;have hw7:=HW6.out.trans (hb7.mono HW6.out.size);clear k0 k1' k2' k3;obtain ⟨j0,j1,j2,j3⟩:=hB7.cell;obtain ⟨e0,e1,e2,e3⟩:=hX7.cell;obtain ⟨f0,f1,f2,f3⟩:=hX7.froz))
            have HV7:=Lib.hid hV7
            have HX7:=Lib.hid hX7
            have HW7:=Lib.hid hw7
            clear hV7 hX7 hw7 hB7 hb7 j0 j1 j2 j3 e0 e1 e2 e3 f0 f1 f2 f3
            go_wp2
            obtain ⟨l0,l1',l2',l3'⟩:=(HX7.out.put (.bool m1) (.slice b1 k1 d1) (.bool m2) (.slice b2 k2 d2)).cell
            refine bodyPost_ret (v := .tuple #[.agg #[.bool m1,.slice b1 k1 d1,.bool m2,.slice b2 k2 d2],.bool r]) (by simp only [results,Tryz.results16];simp [go_sem,l0,l1',l2',l3']) rfl ?_
            exact RRd.full HOR.out.1 HOR.out.2 HV7.out HX7.out HW7.out (Nat.le_refl _)
theorem rrRead_any (s:ByteArray) (o:Option Rat) (w:World) (ho:Hid (rval s.data.toList=o)) (hs:s.size≤100000) :
 Calls Tryz.prog 16 #[.string s] w (RRd o w):=by
 rcases split_or s with h | ⟨A,B,h⟩
 · exact rrRead_miss s o w h ho hs
 · exact rrRead_hit s A B o w h ho hs
end Go.Proofs.YtkhdocdddicgpaaGreatDoor
