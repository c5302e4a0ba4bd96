/- Part 18: what the law's walk leans on. -/
import Derived.Test.YtkhdocdddicgpaaGreatDoorYt17
import Derived.Deep.Cut
import Derived.Test.YtkhdocdddicgpaaGreatDoorYt14
import Derived.Shelf.Strings.BuilderX
import Derived.Lib.Strings
import Derived.Lib.Slices
import Derived.Lib.Walk
import Derived.Lib.Builder
import Derived.Lib.AppendStr
import Derived.Lib.UnsafeStr
import Derived.WalkKit
import Derived.Laws.Externs
import Derived.Laws.IdiomCopy
import Derived.Test.YtkhdocdddicgpaaGreatDoorProg
import Derived.Shelf.Strings.BuilderK
set_option linter.unusedVariables false
set_option linter.unusedSimpArgs false
namespace Go.Proofs.YtkhdocdddicgpaaGreatDoor
open Go.RowKit Go.Maps _root_.Go.Proofs.YtkhdocdddicgpaaGreatDoor.Nm
structure InF (w:World) (ad:Option Addr) (n cap:Nat) (x:ByteArray) (l:List Tm):Prop where
 at_:TsAt w (.slice ad n cap) l
 size:x.size≤100000
 sizes:∀ t∈l,t.2.size≤100000
 len:l.length≤500
 none:ad = .none→cap=0
theorem InF.keep {w w':World} {ad:Option Addr} {n cap B:Nat} {x:ByteArray} {l:List Tm} (h:InF w ad n cap x l) (hb:Below B w w') (hB:w.heap.size≤B):InF w' ad n cap x l:=⟨h.at_.keep hb hB,h.size,h.sizes,h.len,h.none⟩
def FormErr (k:Int) (w:World) (e:Ending) (w':World):Prop:=Below w.heap.size w w'∧e = .returned (.tuple #[.agg #[.slice none 0 0,.string ⟨#[]⟩],.int .i64 k])
set_option maxRecDepth 100000 in
set_option maxHeartbeats 3200000 in
theorem Add_bad (x1 x2:ByteArray) (ad1 ad2:Option Addr) (n1 c1 n2 c2:Nat) (l1 l2:List Tm) (w:World) (h1:InF w ad1 n1 c1 x1 l1) (h2:InF w ad2 n2 c2 x2 l2) (hbad:checkErr x1 l1≠0∨checkErr x2 l2≠0) :
 Calls Tryz.prog 13 #[.agg #[.slice ad1 n1 c1,.string x1],.agg #[.slice ad2 n2 c2,.string x2]] w (FormErr 3 w):=by
 have hA:=(Below.refl w.heap.size w).alloc (Nat.le_refl _) (.cells #[.slice ad1 n1 c1,.string x1] 24)
 have hA2:=hA.alloc (by simp) (.cells #[.slice ad2 n2 c2,.string x2] 24)
 have hA3:=hA2.alloc (by simp;omega) (.cells #[.slice none 0 0,.string ⟨#[]⟩] 24)
 have HV1:=Lib.hid (h1.keep hA3 (Nat.le_refl _))
 have HV2:=Lib.hid (h2.keep hA3 (Nat.le_refl _))
 have HB1:=Lib.hid (((Bx.new w (.slice ad1 n1 c1) (.string x1) 24).alloc (.cells #[.slice ad2 n2 c2,.string x2] 24)).alloc (.cells #[.slice none 0 0,.string ⟨#[]⟩] 24))
 have hb2:=(Bx.new (w.alloc (.cells #[.slice ad1 n1 c1,.string x1] 24)) (.slice ad2 n2 c2) (.string x2) 24).alloc (.cells #[.slice none 0 0,.string ⟨#[]⟩] 24)
 have hb3:=Bx.new ((w.alloc (.cells #[.slice ad1 n1 c1,.string x1] 24)).alloc (.cells #[.slice ad2 n2 c2,.string x2] 24)) (.slice none 0 0) (.string ⟨#[]⟩) 24
 rw [World.size_alloc] at hb2
 rw [World.size_alloc,World.size_alloc] at hb3
 have HB2:=Lib.hid hb2
 have HB3:=Lib.hid hb3
 have HW:=Lib.hid hA3
 obtain ⟨r1,hr1⟩:∃ r,checkErr x1 l1=r:=⟨_,rfl⟩
 obtain ⟨r2,hr2⟩:∃ r,checkErr x2 l2=r:=⟨_,rfl⟩
 rw [hr1,hr2] at hbad
 have HR1:=Lib.hid hr1
 have HR2:=Lib.hid hr2
 clear hA hA2 hA3 hb2 hb3 h1 h2 hr1 hr2
 obtain ⟨a0,a1,a2,a3⟩:=HB1.out.cell
 go_enter Tryz.func13,Tryz.ntmps13
 by_cases hz1:r1=0
 · have hz2:r2≠0:=hbad.resolve_left (fun h=>h hz1)
   have hg1:(r1 != 0)=false:=by simp [hz1]
   have hg2:(r2 != 0)=true:=by simpa using hz2
   clear hbad hz2 hz1
   go_wp2_with fail
   refine (Check_any x1 ad1 n1 c1 l1 r1 _ HV1.out.at_ HV1.out.size HV1.out.sizes (by have:=HV1.out.len;omega) HR1).mono ?_
   rintro e w1 ⟨rfl,hb⟩
   have HW1:=Lib.hid (HW.out.trans (hb.mono HW.out.size))
   have HVb:=Lib.hid (HV2.out.keep hb (Nat.le_refl _))
   have HBb:=Lib.hid (HB2.out.below hb HB2.out.lt)
   have HBc:=Lib.hid (HB3.out.below hb HB3.out.lt)
   clear hb a0 a1 a2 a3
   obtain ⟨a0,a1,a2,a3⟩:=HBb.out.cell
   go_wp2_with fail
   refine (Check_any x2 ad2 n2 c2 l2 r2 _ HVb.out.at_ HVb.out.size HVb.out.sizes (by have:=HVb.out.len;omega) HR2).mono ?_
   rintro e w2 ⟨rfl,hb⟩
   have HW2:=Lib.hid (HW1.out.trans (hb.mono HW1.out.size))
   have HBd:=Lib.hid (HBc.out.below hb HBc.out.lt)
   clear hb a0 a1 a2 a3
   obtain ⟨b0,b1,b2,b3⟩:=HBd.out.cell
   go_wp2
   obtain ⟨d0,d1,d2,d3⟩:=((Bx.put HBd.out (.slice none 0 0) (.string ⟨#[]⟩))).cell
   refine bodyPost_ret (v := .tuple #[.agg #[.slice none 0 0,.string ⟨#[]⟩],.int .i64 3]) (by simp only [results,Tryz.results13];simp [go_sem,d0,d1]) rfl ?_
   exact ⟨(HW2.out.setCell (by dsimp only;omega) _).setCell (by dsimp only;omega) _,rfl⟩
 · have hg1:(r1 != 0)=true:=by simpa using hz1
   clear hbad hz1
   go_wp2_with fail
   refine (Check_any x1 ad1 n1 c1 l1 r1 _ HV1.out.at_ HV1.out.size HV1.out.sizes (by have:=HV1.out.len;omega) HR1).mono ?_
   rintro e w1 ⟨rfl,hb⟩
   have HW1:=Lib.hid (HW.out.trans (hb.mono HW.out.size))
   have HBc:=Lib.hid (HB3.out.below hb HB3.out.lt)
   clear hb a0 a1 a2 a3
   obtain ⟨b0,b1,b2,b3⟩:=HBc.out.cell
   go_wp2
   obtain ⟨d0,d1,d2,d3⟩:=((Bx.put HBc.out (.slice none 0 0) (.string ⟨#[]⟩))).cell
   refine bodyPost_ret (v := .tuple #[.agg #[.slice none 0 0,.string ⟨#[]⟩],.int .i64 3]) (by simp only [results,Tryz.results13];simp [go_sem,d0,d1]) rfl ?_
   exact ⟨(HW1.out.setCell (by dsimp only;omega) _).setCell (by dsimp only;omega) _,rfl⟩
structure InV (w:World) (ad:Option Addr) (n cap:Nat) (qc:Rat) (x:ByteArray) (q:List Qm):Prop where
 in_:InF w ad n cap x (tms q)
 is_:txt qc=x
 short:rshort qc=true
 fo:Fo q
theorem InV.keep {w w':World} {ad:Option Addr} {n cap B:Nat} {qc:Rat} {x:ByteArray} {q:List Qm} (h:InV w ad n cap qc x q) (hb:Below B w w') (hB:w.heap.size≤B):InV w' ad n cap qc x q:=⟨h.in_.keep hb hB,h.is_,h.short,h.fo⟩
theorem InV.ok {w:World} {ad:Option Addr} {n cap:Nat} {qc:Rat} {x:ByteArray} {q:List Qm} (h:InV w ad n cap qc x q):checkErr x (tms q)=0:=by rw [← h.is_];exact checkErr_fo h.short h.fo
theorem InV.len {w:World} {ad:Option Addr} {n cap:Nat} {qc:Rat} {x:ByteArray} {q:List Qm} (h:InV w ad n cap qc x q):q.length≤500:=by have:=h.in_.len;simpa [tms] using this
theorem InV.terms {w:World} {ad:Option Addr} {n cap:Nat} {qc:Rat} {x:ByteArray} {q:List Qm} (h:InV w ad n cap qc x q):∀ p∈q,ColIn p.1∧rshort p.2=true:=fun p hp=>⟨(h.fo.1 p hp).1,(h.fo.1 p hp).2.1⟩
theorem InF.valid {w:World} {ad:Option Addr} {n cap:Nat} {x:ByteArray} {l:List Tm} (h:InF w ad n cap x l) (h0:checkErr x l=0):∃ qc q,l=tms q∧InV w ad n cap qc x q:=by
 obtain ⟨qc,q,e1,e2,e3,e4⟩:=checkErr_zero h0
 subst e3
 exact ⟨qc,q,rfl,h,e1.symm,e2,e4⟩
set_option maxRecDepth 100000 in
set_option maxHeartbeats 3200000 in
theorem Add_good (p1 p2:Rat) (x1 x2:ByteArray) (ad1 ad2:Option Addr) (n1 c1 n2 c2:Nat) (q1 q2:List Qm) (w:World) (h1:InV w ad1 n1 c1 p1 x1 q1) (h2:InV w ad2 n2 c2 p2 x2 q2) (htab:Tab w) :
 Calls Tryz.prog 13 #[.agg #[.slice ad1 n1 c1,.string x1],.agg #[.slice ad2 n2 c2,.string x2]] w (FormRes (sumRes p1 p2 q1 q2) (txt (p1+p2)) w):=by
 obtain ⟨o,ho⟩:∃ o,sumRes p1 p2 q1 q2=o:=⟨_,rfl⟩
 obtain ⟨xc,hxc⟩:∃ xc,txt (p1+p2)=xc:=⟨_,rfl⟩
 rw [ho,hxc]
 have hA:=(Below.refl w.heap.size w).alloc (Nat.le_refl _) (.cells #[.slice ad1 n1 c1,.string x1] 24)
 have hA2:=hA.alloc (by simp) (.cells #[.slice ad2 n2 c2,.string x2] 24)
 have hA3:=hA2.alloc (by simp;omega) (.cells #[.slice none 0 0,.string ⟨#[]⟩] 24)
 have HV1:=Lib.hid (h1.keep hA3 (Nat.le_refl _))
 have HV2:=Lib.hid (h2.keep hA3 (Nat.le_refl _))
 have HB1:=Lib.hid (((Bx.new w (.slice ad1 n1 c1) (.string x1) 24).alloc (.cells #[.slice ad2 n2 c2,.string x2] 24)).alloc (.cells #[.slice none 0 0,.string ⟨#[]⟩] 24))
 have hb2:=(Bx.new (w.alloc (.cells #[.slice ad1 n1 c1,.string x1] 24)) (.slice ad2 n2 c2) (.string x2) 24).alloc (.cells #[.slice none 0 0,.string ⟨#[]⟩] 24)
 have hb3:=Bx.new ((w.alloc (.cells #[.slice ad1 n1 c1,.string x1] 24)).alloc (.cells #[.slice ad2 n2 c2,.string x2] 24)) (.slice none 0 0) (.string ⟨#[]⟩) 24
 rw [World.size_alloc] at hb2
 rw [World.size_alloc,World.size_alloc] at hb3
 have HB2:=Lib.hid hb2
 have HB3:=Lib.hid hb3
 have HW:=Lib.hid hA3
 have HT:=Lib.hid htab
 have HO:=Lib.hid ho
 have HXC:=Lib.hid hxc
 clear hA hA2 hA3 hb2 hb3 h1 h2 htab ho hxc
 obtain ⟨a0,a1,a2,a3⟩:=HB1.out.cell
 go_enter Tryz.func13,Tryz.ntmps13
 go_wp2_with fail
 refine (Check_any x1 ad1 n1 c1 (tms q1) 0 _ HV1.out.in_.at_ HV1.out.in_.size HV1.out.in_.sizes (by have:=HV1.out.in_.len;omega) (Lib.hid HV1.out.ok)).mono ?_
 rintro e w1 ⟨rfl,hb⟩
 have HW1:=Lib.hid (HW.out.trans (hb.mono HW.out.size))
 have HVa:=Lib.hid (HV1.out.keep hb (Nat.le_refl _))
 have HVb:=Lib.hid (HV2.out.keep hb (Nat.le_refl _))
 have HBa:=Lib.hid (HB1.out.below hb HB1.out.lt)
 have HBb:=Lib.hid (HB2.out.below hb HB2.out.lt)
 have HBc:=Lib.hid (HB3.out.below hb HB3.out.lt)
 clear hb a0 a1 a2 a3
 obtain ⟨a0,a1,a2,a3⟩:=HBb.out.cell
 go_wp2_with fail
 refine (Check_any x2 ad2 n2 c2 (tms q2) 0 _ HVb.out.in_.at_ HVb.out.in_.size HVb.out.in_.sizes (by have:=HVb.out.in_.len;omega) (Lib.hid HVb.out.ok)).mono ?_
 rintro e w2 ⟨rfl,hb⟩
 have HW2:=Lib.hid (HW1.out.trans (hb.mono HW1.out.size))
 have HVc:=Lib.hid (HVa.out.keep hb (Nat.le_refl _))
 have HVd:=Lib.hid (HVb.out.keep hb (Nat.le_refl _))
 have HBd:=Lib.hid (HBa.out.below hb HBa.out.lt)
 have HBe:=Lib.hid (HBb.out.below hb HBb.out.lt)
 have HBf:=Lib.hid (HBc.out.below hb HBc.out.lt)
 clear hb a0 a1 a2 a3
 obtain ⟨a0,a1,a2,a3⟩:=HBd.out.cell
 obtain ⟨b0,b1,b2,b3⟩:=HBe.out.cell
 go_wp2_with fail
 refine (fsum_any p1 p2 x1 x2 ad1 ad2 n1 c1 n2 c2 q1 q2 o _ (Lib.hid HVc.out.is_) (Lib.hid HVd.out.is_) HVc.out.short HVd.out.short HVc.out.in_.at_ HVd.out.in_.at_ HVc.out.terms HVd.out.terms HVc.out.len HVd.out.len HVc.out.in_.none HVd.out.in_.none (tab_keep HT.out HW2.out) HO).mono ?_
 intro e w3 h
 rw [HXC.out] at h
 obtain ⟨ad2,n2,cap2,s2,e2,rfl⟩:=h.form
 have HR:=Lib.hid (FormRes.boxedAt (g:=w.heap.size+1+1) HW2.out (by omega) HBf.out.lt h)
 have HB6:=Lib.hid (HBf.out.below h.1 HBf.out.lt)
 clear h a0 a1 a2 a3 b0 b1 b2 b3
 obtain ⟨b0,b1,b2,b3⟩:=HB6.out.cell
 go_wp2
 obtain ⟨d0,d1,d2,d3⟩:=((Bx.put HB6.out (.slice ad2 n2 cap2) (.string s2))).cell
 refine bodyPost_ret (v := .tuple #[.agg #[.slice ad2 n2 cap2,.string s2],.int .i64 e2]) (by simp only [results,Tryz.results13];simp [go_sem,d0,d1]) rfl ?_
 exact HR.out
set_option maxRecDepth 100000 in
set_option maxHeartbeats 3200000 in
theorem Coef_good (qc:Rat) (x:ByteArray) (ad:Option Addr) (n cap:Nat) (q:List Qm) (c:Int) (s:ByteArray) (w:World) (h:InV w ad n cap qc x q) (hs:Hid (txt (co q c)=s)) :
 Calls Tryz.prog 21 #[.agg #[.slice ad n cap,.string x],.int .i64 c] w fun e w'=>e = .returned (.string s)∧Below w.heap.size w w':=by
 have hA:=(Below.refl w.heap.size w).alloc (Nat.le_refl _) (.cells #[.slice ad n cap,.string x] 24)
 have HV1:=Lib.hid (h.keep hA (Nat.le_refl _))
 have HB1:=Lib.hid (Bx.new w (.slice ad n cap) (.string x) 24)
 have HW:=Lib.hid hA
 clear hA h
 obtain ⟨a0,a1,a2,a3⟩:=HB1.out.cell
 go_enter Tryz.func21,Tryz.ntmps21
 go_wp2_with fail
 refine (Check_any x ad n cap (tms q) 0 _ HV1.out.in_.at_ HV1.out.in_.size HV1.out.in_.sizes (by have:=HV1.out.in_.len;omega) (Lib.hid HV1.out.ok)).mono ?_
 rintro e w1 ⟨rfl,hb⟩
 have HW1:=Lib.hid (HW.out.trans (hb.mono HW.out.size))
 have HV2:=Lib.hid (HV1.out.keep hb (Nat.le_refl _))
 have HB2:=Lib.hid (HB1.out.below hb HB1.out.lt)
 clear hb a0 a1 a2 a3
 obtain ⟨a0,a1,a2,a3⟩:=HB2.out.cell
 go_wp2_with fail
 refine (coefOf_any ad n cap q x c s _ HV2.out.in_.at_ HV2.out.fo.2 (by have:=HV2.out.len;omega) hs).mono ?_
 rintro e w2 ⟨rfl,hb⟩
 have HW2:=Lib.hid (HW1.out.trans (hb.mono HW1.out.size))
 clear hb
 go_wp2
 go_ret
 exact ⟨rfl,HW2.out⟩
end Go.Proofs.YtkhdocdddicgpaaGreatDoor
set_option linter.unusedVariables false
set_option linter.unusedSimpArgs false
namespace Go.Proofs.YtkhdocdddicgpaaGreatDoor
open Go.RowKit Go.Maps _root_.Go.Proofs.YtkhdocdddicgpaaGreatDoor.Nm
structure Pb (w W:World) (f1 f2:Value) (c:Int) (g1 g2:Value):Prop where
 b0:Bx W w.heap.size f1 f2
 b1:W.cell? ⟨w.heap.size+1,0,none⟩=some (.int .i64 c)
 b2:Bx W (w.heap.size+1+1) g1 g2
 b3:Bx W (w.heap.size+1+1+1) (.slice none 0 0) (.string ⟨#[]⟩)
 far:w.heap.size+1+1+1+1≤W.heap.size
 below:Below w.heap.size w W
theorem Pb.keep {w W W':World} {f1 f2 g1 g2:Value} {c:Int} (h:Pb w W f1 f2 c g1 g2) (hb:Below W.heap.size W W'):Pb w W' f1 f2 c g1 g2 :=
 ⟨h.b0.below hb h.b0.lt,(hb.cell (p:=⟨w.heap.size+1,0,none⟩) (by have:=h.far;dsimp only;omega)).trans h.b1,h.b2.below hb h.b2.lt,h.b3.below hb h.b3.lt,Nat.le_trans h.far hb.size,h.below.trans (hb.mono h.below.size)⟩
theorem Pb.start (w:World) (f1 f2 g1 g2:Value) (c:Int) (T1 T2 T3 T4:TypeId):Pb w ((((w.alloc (.cells #[f1,f2] T1)).alloc (.cells #[.int .i64 c] T2)).alloc (.cells #[g1,g2] T3)).alloc (.cells #[.slice none 0 0,.string ⟨#[]⟩] T4)) f1 f2 c g1 g2:=by
 have h2:=(Bx.new ((w.alloc (.cells #[f1,f2] T1)).alloc (.cells #[.int .i64 c] T2)) g1 g2 T3).alloc (.cells #[.slice none 0 0,.string ⟨#[]⟩] T4)
 have h3:=Bx.new (((w.alloc (.cells #[f1,f2] T1)).alloc (.cells #[.int .i64 c] T2)).alloc (.cells #[g1,g2] T3)) (.slice none 0 0) (.string ⟨#[]⟩) T4
 have h1:((w.alloc (.cells #[f1,f2] T1)).alloc (.cells #[.int .i64 c] T2)).cell? ⟨w.heap.size+1,0,none⟩=some (.int .i64 c):=by
  have h:=Bo.new (w.alloc (.cells #[f1,f2] T1)) (.int .i64 c) T2
  rw [World.size_alloc] at h
  exact h.cell.1
 simp only [World.size_alloc] at h2 h3
 refine ⟨(((Bx.new w f1 f2 T1).alloc _).alloc _).alloc _,fcell_alloc (fcell_alloc h1),h2,h3,by simp,?_⟩
 exact ((((Below.refl w.heap.size w).alloc (Nat.le_refl _) _).alloc (by simp) _).alloc (by simp;omega) _).alloc (by simp;omega) _
def putOf (o:Option (Int→Rat)) (p1 pr:Rat) (q:List Qm):Option (Int→Rat):=match o with
 | none=>none
 | some g=>sumRes p1 pr q (formOf g)
def putRes (p1 p2:Rat) (q1 q2:List Qm) (c:Int):Option (Int→Rat):=putOf (sclRes p2 (co q1 c) q2) p1 (p2*co q1 c) (wo q1 c)
def FR (o:Option (Int→Rat)) (c:ByteArray) (W:World) (ad:Option Addr) (n cap:Nat) (s:ByteArray) (e:Int):Prop:=match o with
 | none=>ad=none∧n=0∧cap=0∧s=⟨#[]⟩∧e=5
 | some f=>ad≠none∧s=c∧e=0∧TsAt W (.slice ad n cap) (tms (formOf f))
theorem FormRes.fr {o:Option (Int→Rat)} {c:ByteArray} {w w2:World} {ad:Option Addr} {n cap:Nat} {s:ByteArray} {ec:Int} (h:FormRes o c w (.returned (.tuple #[.agg #[.slice ad n cap,.string s],.int .i64 ec])) w2):FR o c w2 ad n cap s ec∧∀ a,ad=some a→w.heap.size≤a.block:=by
 obtain ⟨_,h2⟩:=h
 cases o with
 | none=>cases h2;exact ⟨⟨rfl,rfl,rfl,rfl,rfl⟩,fun a h=>by cases h⟩
 | some f =>
  obtain ⟨ad',n',cap',e1,h3,h4⟩:=h2
  cases e1
  obtain ⟨a,ha,hl⟩:=h4
  exact ⟨⟨by rw [ha];simp,rfl,rfl,h3⟩,fun b hb=>by rw [ha] at hb;cases hb;exact hl⟩
theorem FR.keep {o:Option (Int→Rat)} {c:ByteArray} {W W':World} {ad:Option Addr} {n cap:Nat} {s:ByteArray} {e:Int} (h:FR o c W ad n cap s e) (hb:Below W.heap.size W W'):FR o c W' ad n cap s e:=by
 cases o with
 | none=>exact h
 | some f=>exact ⟨h.1,h.2.1,h.2.2.1,h.2.2.2.keep hb (Nat.le_refl _)⟩
theorem FR.set2 {o:Option (Int→Rat)} {c:ByteArray} {W:World} {ad:Option Addr} {n cap B g:Nat} {s:ByteArray} {e:Int} (h:FR o c W ad n cap s e) (hf:∀ a,ad=some a→B≤a.block) (hg:g<B) (u v:Value):FR o c ((W.setCell ⟨g,0,none⟩ u).setCell ⟨g,1,none⟩ v) ad n cap s e:=by
 cases o with
 | none=>exact h
 | some f=>exact ⟨h.1,h.2.1,h.2.2.1,(h.2.2.2.set hf hg).set hf hg⟩
theorem FR.new2 {o:Option (Int→Rat)} {c:ByteArray} {W:World} {ad:Option Addr} {n cap:Nat} {s:ByteArray} {e:Int} (h:FR o c W ad n cap s e) (x:Obj) (u v:Value):FR o c (((W.alloc x).setCell ⟨W.heap.size,0,none⟩ u).setCell ⟨W.heap.size,1,none⟩ v) ad n cap s e :=
 h.keep ((((Below.refl W.heap.size W).alloc (Nat.le_refl _) x).setCell (Nat.le_refl _) _).setCell (Nat.le_refl _) _)
theorem FR.up {o:Option (Int→Rat)} {c:ByteArray} {W:World} {ad:Option Addr} {n cap:Nat} {s:ByteArray} {e:Int} (h:FR o c W ad n cap s e) (x:Obj):FR o c (W.alloc x) ad n cap s e:=h.keep ((Below.refl W.heap.size W).alloc (Nat.le_refl _) x)
theorem fcell_off {W:World} {b o g:Nat} {v x y:Value} (h:W.cell? ⟨b,o,none⟩=some v) (hb:b≠g):((W.setCell ⟨g,0,none⟩ x).setCell ⟨g,1,none⟩ y).cell? ⟨b,o,none⟩=some v:=((((Only.refl g W).set 0 x).set 1 y).cell b o hb).trans h
theorem drew_sz (W:World):W.drew.heap.size=W.heap.size:=rfl
theorem Pb.alloc {w W:World} {f1 f2 g1 g2:Value} {c:Int} (h:Pb w W f1 f2 c g1 g2) {o:Obj}:Pb w (W.alloc o) f1 f2 c g1 g2:=h.keep ((Below.refl _ _).alloc (Nat.le_refl _) o)
theorem Pb.drew {w W:World} {f1 f2 g1 g2:Value} {c:Int} (h:Pb w W f1 f2 c g1 g2):Pb w W.drew f1 f2 c g1 g2:=h.keep (Below.refl _ _).drew
theorem InV.alloc {w:World} {ad:Option Addr} {n cap:Nat} {qc:Rat} {x:ByteArray} {q:List Qm} (h:InV w ad n cap qc x q) {o:Obj}:InV (w.alloc o) ad n cap qc x q:=h.keep ((Below.refl _ _).alloc (Nat.le_refl _) o) (Nat.le_refl _)
theorem InV.drew {w:World} {ad:Option Addr} {n cap:Nat} {qc:Rat} {x:ByteArray} {q:List Qm} (h:InV w ad n cap qc x q):InV w.drew ad n cap qc x q:=h.keep (Below.refl _ _).drew (Nat.le_refl _)
theorem Pb.set2 {w W:World} {f1 f2 g1 g2:Value} {c:Int} {g:Nat} (h:Pb w W f1 f2 c g1 g2) (hg:w.heap.size+1+1+1+1≤g) (u v:Value):Pb w ((W.setCell ⟨g,0,none⟩ u).setCell ⟨g,1,none⟩ v) f1 f2 c g1 g2 :=
 ⟨h.b0.only (((Only.refl g W).set 0 u).set 1 v) (by omega),(((Only.refl g W).set 0 u).set 1 v).cell (w.heap.size+1) 0 (by omega) |>.trans h.b1,h.b2.only (((Only.refl g W).set 0 u).set 1 v) (by omega),h.b3.only (((Only.refl g W).set 0 u).set 1 v) (by omega),by simpa [World.setCell] using h.far,
  (h.below.setCell (by dsimp only;omega) _).setCell (by dsimp only;omega) _⟩
set_option maxRecDepth 100000 in
set_option maxHeartbeats 6400000 in
theorem Put_good (p1 p2:Rat) (x1 x2:ByteArray) (ad1 ad2:Option Addr) (n1 c1 n2 c2:Nat) (q1 q2:List Qm) (c:Int) (w:World) (h1:InV w ad1 n1 c1 p1 x1 q1) (h2:InV w ad2 n2 c2 p2 x2 q2) (hcol:ColIn c) (htab:Tab w) :
 Calls Tryz.prog 25 #[.agg #[.slice ad1 n1 c1,.string x1],.int .i64 c,.agg #[.slice ad2 n2 c2,.string x2]] w (FormRes (putRes p1 p2 q1 q2 c) (txt (p1+p2*co q1 c)) w):=by
 have HP:=Lib.hid (Pb.start w (.slice ad1 n1 c1) (.string x1) (.slice ad2 n2 c2) (.string x2) c 24 3 24 24)
 have HV1:=Lib.hid (h1.keep HP.out.below (Nat.le_refl _))
 have HV2:=Lib.hid (h2.keep HP.out.below (Nat.le_refl _))
 have HT:=Lib.hid htab
 have HCOL:=Lib.hid hcol
 have HFO2:=Lib.hid h2.fo
 have HLEN2:=Lib.hid (And.intro trivial h2.len)
 have HRC:Hid (rshort (co q1 c)=true):=Lib.hid (h1.fo.co.short c)
 obtain ⟨xc,hxc⟩:∃ xc,txt (p1+p2*co q1 c)=xc:=⟨_,rfl⟩
 obtain ⟨r,hrc⟩:∃ r,co q1 c=r:=⟨_,rfl⟩
 obtain ⟨y,hy⟩:∃ y,txt r=y:=⟨_,rfl⟩
 obtain ⟨o,ho⟩:∃ o,sclRes p2 r q2=o:=⟨_,rfl⟩
 have hres:putRes p1 p2 q1 q2 c=putOf o p1 (p2*r) (wo q1 c):=by unfold putRes;rw [hrc,ho]
 rw [hres,hxc]
 rw [hrc] at HRC
 have HXC:=Lib.hid hxc
 have HCR:=Lib.hid hrc
 have HY:=Lib.hid hy
 have HO:=Lib.hid ho
 have HYC:Hid (txt (co q1 c)=y):=Lib.hid (by rw [hrc];exact hy)
 clear h1 h2 htab hcol hxc hrc hy ho hres
 obtain ⟨a0,a1,a2,a3⟩:=HP.out.b0.cell
 go_enter Tryz.func25,Tryz.ntmps25
 go_wp2_with fail
 refine (Check_any x1 ad1 n1 c1 (tms q1) 0 _ HV1.out.in_.at_ HV1.out.in_.size HV1.out.in_.sizes (by have:=HV1.out.in_.len;omega) (Lib.hid HV1.out.ok)).mono ?_
 rintro e w1 ⟨rfl,hb⟩
 have HP1:=Lib.hid (HP.out.keep hb)
 have HVa:=Lib.hid (HV1.out.keep hb (Nat.le_refl _))
 have HVb:=Lib.hid (HV2.out.keep hb (Nat.le_refl _))
 clear hb a0 a1 a2 a3
 obtain ⟨a0,a1,a2,a3⟩:=HP1.out.b2.cell
 go_wp2_with fail
 refine (Check_any x2 ad2 n2 c2 (tms q2) 0 _ HVb.out.in_.at_ HVb.out.in_.size HVb.out.in_.sizes (by have:=HVb.out.in_.len;omega) (Lib.hid HVb.out.ok)).mono ?_
 rintro e w2 ⟨rfl,hb⟩
 have HP2:=Lib.hid (HP1.out.keep hb)
 have HVc:=Lib.hid (HVa.out.keep hb (Nat.le_refl _))
 have HVd:=Lib.hid (HVb.out.keep hb (Nat.le_refl _))
 clear hb a0 a1 a2 a3
 have hcc:=HP2.out.b1
 go_wp2_with fail
 refine (isColumn_any c true _ (Lib.hid (okCol_in.2 HCOL.out))).mono ?_
 rintro e w3 ⟨rfl,rfl⟩
 clear hcc
 go_upto_region 5 with fail
 go_cut [8,9] (fun t8 t9 wx=>∃ (g:Nat) (ad:Option Addr) (n cap:Nat) (s:ByteArray) (e:Int),t8 = .pointer (some ⟨g,0,none⟩)∧t9 = .int .i64 e∧Hid (w.heap.size+1+1+1+1≤g∧Pb w wx (.slice ad1 n1 c1) (.string x1) c (.slice ad2 n2 c2) (.string x2)∧InV wx ad1 n1 c1 p1 x1 q1∧Bx wx g (.slice ad n cap) (.string s)∧FR o (txt (p2*r)) wx ad n cap s e))
 case first =>
  have HN:=Lib.hid HP2.out.drew
  have f3:=HP2.out.far
  have HNC:=Lib.hid HVc.out.drew
  have HND:=Lib.hid HVd.out.drew
  have HNA:Hid (Pb w (w3.alloc (.cells #[.slice none 0 0,.string ⟨#[]⟩] 24)).drew (.slice ad1 n1 c1) (.string x1) c (.slice ad2 n2 c2) (.string x2)):=Lib.hid HP2.out.alloc.drew
  obtain ⟨k0,k1,_,_⟩:=HN.out.b0.cell
  have k2:=HN.out.b1
  obtain ⟨k3,k4,_,_⟩:=HN.out.b2.cell
  obtain ⟨i0,i1,_,_⟩:=HNA.out.b0.cell
  have i2:=HNA.out.b1
  obtain ⟨i3,i4,_,_⟩:=HNA.out.b2.cell
  go_region_held3 (fun w'=>w'.cell? ⟨w.heap.size,0,none⟩=some (.slice ad1 n1 c1)∧w'.cell? ⟨w.heap.size,1,none⟩=some (.string x1)∧w'.cell? ⟨w.heap.size+1,0,none⟩=some (.int .i64 c)∧w'.cell? ⟨w.heap.size+1+1,0,none⟩=some (.slice ad2 n2 c2)∧w'.cell? ⟨w.heap.size+1+1,1,none⟩=some (.string x2)) (first | ((try dsimp only);(repeat' apply And.intro);all_goals with_reducible assumption) | ((try dsimp only);(repeat' apply And.intro);all_goals (first | with_reducible assumption | (with_reducible refine fcell_alloc ?_;with_reducible assumption))) | ((try dsimp only);(repeat' apply And.intro);all_goals (repeat' (first | with_reducible assumption | with_reducible refine fcell_alloc ?_ | with_reducible refine fcell_off ?_ ?_ | omega))) | go_keep) (first | (go_at_call 46;have hgd:=hP4;clear hgd;refine (scaled_any p2 r x2 y ad2 n2 c2 q2 o _ (by first | exact hD4.in_.at_ | exact hD4.alloc.in_.at_) (Lib.hid hD4.is_) HY hD4.short HRC.out hD4.terms (by have:=hD4.len;omega) (tab_keep HT.out (by first | exact hP4.below | exact hP4.alloc.below)) HO).mono ?_;intro e w5 h;obtain ⟨ad5,n5,cap5,s5,e5,rfl⟩:=h.form;have hP5:Pb w w5 (.slice ad1 n1 c1) (.string x1) c (.slice ad2 n2 c2) (.string x2):=(by first | exact hP4.keep h.1 | exact hP4.alloc.keep h.1);have f5:=hP5.far;have hfr:=h.fr;have hL5:Below w3.heap.size w3 w5:=(by first | exact hL4.trans (Below.mono (by exact h.1) hL4.size) | exact (hL4.alloc hL4.size _).trans (Below.mono (by exact h.1) (Nat.le_trans hL4.size (by simp))));have hC5:InV w5 ad1 n1 c1 p1 x1 q1:=(by first | exact hC4.keep h.1 (Nat.le_refl _) | exact hC4.alloc.keep h.1 (Nat.le_refl _));(first | (have hZ5:=Bx.below hZ4 h.1 (Bx.lt hZ4);obtain ⟨z0,z1,z2,z3⟩:=hZ5.cell) | (have hZ5:Bx w5 w4.heap.size (.slice none 0 0) (.string ⟨#[]⟩):=Bx.below (Bx.new w4 (.slice none 0 0) (.string ⟨#[]⟩) 24) h.1 (by simp);obtain ⟨z0,z1,z2,z3⟩:=hZ5.cell) | skip);clear k0 k1 k2 k3 k4;obtain ⟨k0,k1,_,_⟩:=hP5.b0.cell;have k2:=hP5.b1;obtain ⟨k3,k4,_,_⟩:=hP5.b2.cell) | (go_at_call 52;refine (coefOf_any ad1 n1 c1 q1 x1 c y _ (by first | exact HNC.out.in_.at_ | exact HVc.out.alloc.drew.in_.at_) HVc.out.fo.2 (by have:=HVc.out.len;omega) HYC).mono ?_;rintro e w4 ⟨rfl,hb4⟩;have hP4:Pb w w4 (.slice ad1 n1 c1) (.string x1) c (.slice ad2 n2 c2) (.string x2):=(by first | exact HN.out.keep hb4 | exact HNA.out.keep hb4);have f4:=hP4.far;have hL4:Below w3.heap.size w3 w4:=(by first | exact (Below.refl _ _).drew.trans (by exact hb4) | exact ((Below.refl _ w3).alloc (Nat.le_refl _) _).drew.trans (Below.mono (by exact hb4) (by simp [drew_sz])));have hC4:InV w4 ad1 n1 c1 p1 x1 q1:=(by first | exact HNC.out.keep hb4 (Nat.le_refl _) | exact HVc.out.alloc.drew.keep hb4 (Nat.le_refl _));have hD4:InV w4 ad2 n2 c2 p2 x2 q2:=(by first | exact HND.out.keep hb4 (Nat.le_refl _) | exact HVd.out.alloc.drew.keep hb4 (Nat.le_refl _));(first | (have hZ4:Bx w4 w3.heap.size (.slice none 0 0) (.string ⟨#[]⟩):=Bx.below (Bx.drew (Bx.new w3 (.slice none 0 0) (.string ⟨#[]⟩) 24)) hb4 (by simp [drew_sz])) | skip);clear k0 k1 k2 k3 k4 i0 i1 i2 i3 i4;obtain ⟨k0,k1,_,_⟩:=hP4.b0.cell;have k2:=hP4.b1;obtain ⟨k3,k4,_,_⟩:=hP4.b2.cell))
  all_goals (go_wp2_with fail;go_meet;case rel=>(refine ⟨_,ad5,n5,cap5,s5,e5,rfl,rfl,Lib.hid ⟨?_,?_,HVc.out.keep (B:=w3.heap.size) ?_ (Nat.le_refl _),?_,?_⟩⟩;all_goals (repeat' (first | with_reducible assumption | omega | with_reducible refine Pb.set2 ?_ ?_ _ _ | with_reducible refine Pb.alloc ?_ | (with_reducible refine Below.setCell ?_ ?_ _) | (with_reducible refine Below.alloc ?_ ?_ _) | with_reducible exact Bx.new _ _ _ _ | with_reducible exact Bx.put hZ5 _ _ | with_reducible exact FR.up hfr.1 _ | with_reducible exact FR.new2 hfr.1 _ _ _ | with_reducible refine FR.set2 hfr.1 hfr.2 ?_ _ _ | exact hZ4.lt | (simp only [World.size_alloc,drew_sz];omega) | (dsimp only;omega) | exact hL5.size | exact hL4.size))))
 case rest =>
 obtain ⟨g,ad,n,cap,s,e,rfl,rfl,HC⟩:=hcut
 obtain ⟨w4,rfl⟩:∃ w4:World,w4=wc:=⟨_,rfl⟩
 obtain ⟨hg,hP4,hI4,hB4,hF4⟩:=HC.out
 have HP4:=Lib.hid hP4
 have HI4:=Lib.hid hI4
 have HB4:=Lib.hid hB4
 have HG:=Lib.hid hg
 clear HC hP4 hI4 HP HP1 HP2 HV1 HV2 HVa HVb HVc HVd
 cases o with
 | none =>
  obtain ⟨rfl,rfl,rfl,rfl,rfl⟩:=hF4
  clear hB4 hg
  obtain ⟨b0,b1,b2,b3⟩:=HP4.out.b3.cell
  go_wp2
  obtain ⟨d0,d1,d2,d3⟩:=((Bx.put HP4.out.b3 (.slice none 0 0) (.string ⟨#[]⟩))).cell
  refine bodyPost_ret (v := .tuple #[.agg #[.slice none 0 0,.string ⟨#[]⟩],.int .i64 5]) (by simp only [results,Tryz.results25];simp [go_sem,d0,d1]) rfl ?_
  exact ⟨(HP4.out.below.setCell (by dsimp only;omega) _).setCell (by dsimp only;omega) _,rfl⟩
 | some f =>
  obtain ⟨hne,rfl,rfl,hts⟩:=hF4
  have HTS:=Lib.hid hts
  have HNE:=Lib.hid hne
  clear hB4 hg hts hne
  obtain ⟨b0,b1,b2,b3⟩:=HP4.out.b0.cell
  go_wp2_with fail
  refine (cloneT_any ad1 n1 c1 q1 _ HI4.out.in_.at_ (by have:=HI4.out.len;omega) HI4.out.in_.none).mono ?_
  rintro e w5 ⟨ad5,cap5,rfl,hrow,hb⟩
  have HROW:=Lib.hid hrow
  have HP5:=Lib.hid (HP4.out.keep hb)
  have HB5:=Lib.hid (HB4.out.below hb HB4.out.lt)
  have HW5:=Lib.hid hb
  have HTS5:=Lib.hid (HTS.out.keep hb (Nat.le_refl _))
  clear hb hrow b0 b1 b2 b3
  go_wp2_with fail
  refine (delete_any (w.heap.size+1) w4.heap.size c ad5 n1 cap5 q1 _ HROW.out HP5.out.b1 (by have:=HP4.out.far;omega) HI4.out.fo.2 (by obtain ⟨_,_,_,e1,e2,_⟩:=HI4.out.in_.at_;cases e1;simpa [tms] using e2) (by have:=HI4.out.len;omega) HW5.out.size).mono ?_
  rintro e w6 ⟨n6,rfl,hts6,hb⟩
  have HW6:=Lib.hid (HW5.out.trans hb)
  have HP6:=Lib.hid (HP4.out.keep HW6.out)
  have HB6:=Lib.hid (HB4.out.below HW6.out HB4.out.lt)
  have HTS6:=Lib.hid (HTS.out.keep HW6.out (Nat.le_refl _))
  have HWO6:=Lib.hid hts6
  clear hb hts6
  obtain ⟨b0,b1,b2,b3⟩:=HP6.out.b0.cell
  obtain ⟨c0,c1',c2',c3⟩:=HB6.out.cell
  go_wp2_with fail
  have hsc:acc (fun _=>0) (scl r q2)=some f:=by
   have h:=HO.out
   unfold sclRes at h
   split at h
   · exact h
   · cases h
  have hq2c:∀ p∈scl r q2,ColIn p.1:=fun p hp=>by
   obtain ⟨p',hp',rfl⟩:=List.mem_map.1 hp
   exact (HFO2.out.1 p' hp').1
  have hfo:=formOf_fo (acc_good _ _ _ good_zero hq2c hsc)
  have hfl:(formOf f).length≤500:=by have:=acc_length0 hsc;have h2:=HLEN2.out.2;simp [scl] at this;omega
  have hpr:rshort (p2*r)=true:=by
   have h:=HO.out
   unfold sclRes scOk at h
   split at h
   · next h1=>rw [Bool.and_eq_true] at h1;exact h1.1
   · cases h
  obtain ⟨o2,ho2⟩:∃ o2,sumRes p1 (p2*r) (wo q1 c) (formOf f)=o2:=⟨_,rfl⟩
  have HO2:=Lib.hid ho2
  have hcap5:ad5=none→cap5=0:=by
   rcases HROW.out.2 with ⟨h,_⟩ | ⟨g,c,cur,h,_⟩
   · cases h;exact fun _=>rfl
   · cases h;exact fun h=>by cases h
  refine (fsum_any p1 (p2*r) x1 _ ad5 ad n6 cap5 n cap (wo q1 c) (formOf f) o2 _ (Lib.hid HI4.out.is_) (Lib.hid rfl) HI4.out.short hpr HWO6.out HTS6.out (fun p hp=>⟨((HI4.out.fo.wo c).1 p hp).1,((HI4.out.fo.wo c).1 p hp).2.1⟩) (fun p hp=>⟨(hfo.1 p hp).1,(hfo.1 p hp).2.1⟩) (Nat.le_trans (wo_length _ _) HI4.out.len) hfl hcap5 (fun h=>absurd h HNE.out) (tab_keep HT.out HP6.out.below) HO2).mono ?_
  intro e w7 h
  have hxc:txt (p1+p2*r)=xc:=by rw [← HXC.out,HCR.out]
  rw [hxc] at h
  have hpo:putOf (some f) p1 (p2*r) (wo q1 c)=o2:=ho2
  have HPO:=Lib.hid hpo
  obtain ⟨ad7,n7,cap7,s7,e7,rfl⟩:=h.form
  have HR:=Lib.hid (FormRes.boxedAt (g:=w.heap.size+1+1+1) HP6.out.below (by omega) HP6.out.b3.lt h)
  have HB7:=Lib.hid (HP6.out.b3.below h.1 HP6.out.b3.lt)
  clear h b0 b1 b2 b3 c0 c1' c2' c3 hsc hq2c hfo hfl hpr ho2 hpo
  obtain ⟨b0,b1,b2,b3⟩:=HB7.out.cell
  go_wp2
  obtain ⟨d0,d1,d2,d3⟩:=((Bx.put HB7.out (.slice ad7 n7 cap7) (.string s7))).cell
  refine bodyPost_ret (v := .tuple #[.agg #[.slice ad7 n7 cap7,.string s7],.int .i64 e7]) (by simp only [results,Tryz.results25];simp [go_sem,d0,d1]) rfl ?_
  rw [HPO.out]
  exact HR.out
end Go.Proofs.YtkhdocdddicgpaaGreatDoor
set_option linter.unusedVariables false
set_option linter.unusedSimpArgs false
namespace Go.Proofs.YtkhdocdddicgpaaGreatDoor
open Go.RowKit Go.Maps _root_.Go.Proofs.YtkhdocdddicgpaaGreatDoor.Nm
theorem co_formOf {f:Int→Rat} (h:Good f):co (formOf f)=f:=by
 funext c
 by_cases hc:f c=0
 · rw [hc]
   by_cases h2:co (formOf f) c=0
   · exact h2
   · have e:=mem_formOf.1 (co_ne _ c h2)
     have e:=e.2.2.1
     dsimp only at e
     rw [e,hc]
 · have hg:=(h c hc).1
   exact co_mem _ (formOf_sorted f) (c,f c) (mem_formOf.2 ⟨hg.1,hg.2,rfl,hc⟩)
theorem acc_fo {q:List Qm} (h:Fo q):acc (fun _=>0) q=some (co q):=by
 rw [acc_some q _ h.2 (fun p hp=>by rw [Rat.zero_add];exact (h.1 p hp).2.1)]
 congr 1;funext c;exact Rat.zero_add _
theorem sumRes_some {p1 p2:Rat} {q1 q2:List Qm} {g:Int→Rat} (h1:Fo q1) (h2:Fo q2) (h:sumRes p1 p2 q1 q2=some g):rshort (p1+p2)=true∧(g=fun c=>co q1 c+co q2 c)∧Good g:=by
 unfold sumRes at h
 split at h
 · next hs =>
   have hg:=acc_good _ _ _ good_zero (fun p hp=>by rcases List.mem_append.1 hp with hp | hp;exact (h1.1 p hp).1;exact (h2.1 p hp).1) h
   rw [acc_append,acc_fo h1] at h
   have h:acc (co q1) q2=some g:=h
   refine ⟨hs,?_,hg⟩
   by_cases hb:∃ p∈q2,rshort (co q1 p.1+p.2)=false
   · rw [acc_bad q2 _ h2.2 hb] at h;cases h
   · rw [acc_some q2 _ h2.2 (fun p hp=>by
      cases hx:rshort (co q1 p.1+p.2) with
      | true=>rfl
      | false=>exact absurd ⟨p,hp,hx⟩ hb)] at h
     exact (Option.some.inj h).symm
 · cases h
theorem co_scl (r:Rat):∀ (q:List Qm) (c:Int),co (scl r q) c=co q c*r
 | [],c=>by rw [show scl r []=[] from rfl,co_nil,Rat.zero_mul]
 | p::q,c=>by
  rw [show scl r (p::q)=(p.1,p.2*r)::scl r q from rfl,co_cons,co_cons,co_scl r q c]
  split <;> rfl
theorem scl_sorted (r:Rat) {q:List Qm} (h:q.Pairwise (fun a b=>a.1<b.1)):(scl r q).Pairwise (fun a b=>a.1<b.1):=by
 unfold scl
 rw [List.pairwise_map];exact h
theorem sclRes_some {p r:Rat} {q:List Qm} {g:Int→Rat} (h1:Fo q) (h:sclRes p r q=some g):rshort (p*r)=true∧(g=fun c=>co q c*r)∧Good g:=by
 unfold sclRes at h
 split at h
 · next hs =>
   have hg:=acc_good _ _ _ good_zero (fun x hx=>by obtain ⟨y,hy,rfl⟩:=List.mem_map.1 hx;exact (h1.1 y hy).1) h
   unfold scOk at hs
   rw [Bool.and_eq_true,List.all_eq_true] at hs
   rw [acc_some _ _ (scl_sorted r h1.2) (fun x hx=>by obtain ⟨y,hy,rfl⟩:=List.mem_map.1 hx;rw [Rat.zero_add];exact hs.2 y hy)] at h
   refine ⟨hs.1,?_,hg⟩
   rw [← Option.some.inj h]
   funext c
   rw [Rat.zero_add,co_scl]
 · cases h
theorem putRes_some {p1 p2:Rat} {q1 q2:List Qm} {c:Int} {g:Int→Rat} (h1:Fo q1) (h2:Fo q2) (h:putRes p1 p2 q1 q2 c=some g) :
 rshort (p1+p2*co q1 c)=true∧(g=fun x=>co (wo q1 c) x+co q2 x*co q1 c)∧Good g:=by
 unfold putRes at h
 cases ho:sclRes p2 (co q1 c) q2 with
 | none=>rw [ho] at h;cases h
 | some f =>
  rw [ho] at h
  obtain ⟨_,e1,hg⟩:=sclRes_some h2 ho
  have h:sumRes p1 (p2*co q1 c) (wo q1 c) (formOf f)=some g:=h
  obtain ⟨e2,e3,e4⟩:=sumRes_some (h1.wo c) (formOf_fo hg) h
  rw [co_formOf hg,e1] at e3
  exact ⟨e2,e3,e4⟩
end Go.Proofs.YtkhdocdddicgpaaGreatDoor
set_option linter.unusedVariables false
namespace Go.Proofs.YtkhdocdddicgpaaGreatDoor
open Go.RowKit
theorem sizeBuilder:(Tryz.prog.info? 130).map (·.size)=some 2:=by kernel_rfl
theorem liesBuilder:liesAt Tryz.prog Tryz.prog.depth 130 (2/Tryz.prog.cellsOf 130) 0 130 1=true:=by kernel_rfl
theorem infoByte:(Tryz.prog.info? 5).map (fun i=>(i.zero,i.size,i.bytes))=some (some (.int .u8 0),1,1):=by kernel_rfl
set_option maxHeartbeats 1000000 in
set_option maxRecDepth 100000 in
theorem copyCheck_used (b:Nat) (w:World) (h0:w.cell? ⟨b,0,none⟩=some (.pointer (some ⟨b,0,none⟩))) :
 Calls Tryz.prog 135 #[.pointer (some ⟨b,0,none⟩)] w fun e w'=>e = .returned (.tuple #[])∧w'=w:=by
 obtain ⟨j,hj,_⟩:=Option.map_eq_some_iff.1 sizeBuilder
 go_enter Tryz.func135,Tryz.ntmps135
 go_wp2
 rw [Lib.run_neq_ptr_same w _ Tryz.underlying127 hj]
 go_wp2
 go_end0
 exact ⟨rfl,rfl⟩
set_option maxHeartbeats 1000000 in
set_option maxRecDepth 100000 in
theorem copyCheck_fresh (b:Nat) (w:World) (h0:w.cell? ⟨b,0,none⟩=some (.pointer none)) (hsh:w.shape? b=some (130,2)) (hfz:w.frozen? ⟨b,0,none⟩=false) :
 Calls Tryz.prog 135 #[.pointer (some ⟨b,0,none⟩)] w fun e w'=>e = .returned (.tuple #[])∧w'=w.setCell ⟨b,0,none⟩ (.pointer (some ⟨b,0,none⟩)):=by
 obtain ⟨j,hj,hjs⟩:=Option.map_eq_some_iff.1 sizeBuilder
 go_enter Tryz.func135,Tryz.ntmps135
 go_wp2
 rw [Lib.run_to_unsafe w ⟨b,0,none⟩ Tryz.underlying127 Tryz.underlying200 hj (by rw [hjs];decide) hsh (Nat.zero_lt_succ 1)]
 simp only [Result.andThen]
 rw [Oper.upon_value]
 go_wp2
 rw [run_callFunc_extern Tryz.func161 (by kernel_rfl) (by kernel_rfl) (by kernel_rfl) (e:=Extern.AbiNoEscape.same) (by kernel_rfl)]
 rw [Lib.run_noEscape]
 simp only [Result.andThen]
 rw [Oper.upon_value]
 go_wp2
 rw [Lib.run_from_unsafe w ⟨b,0,none⟩ Tryz.underlying200 Tryz.underlying127 hj hsh liesBuilder]
 simp only [Result.andThen]
 rw [Oper.upon_value]
 go_wp2
 go_end0
 exact ⟨rfl,rfl⟩
theorem copyCheck_any (B b:Nat) (bs:List Value) (w:World) (h:Lib.IsBuilder 130 5 B b bs w) :
 Calls Tryz.prog 135 #[.pointer (some ⟨b,0,none⟩)] w fun e w'=>e = .returned (.tuple #[])∧(Lib.BuilderAt 130 5 B b (.pointer (some ⟨b,0,none⟩)) bs w'∧Below B w w'):=by
 rcases h with h | h
 · refine (copyCheck_fresh b w h.cell0 h.shape h.frozen0).mono ?_
   rintro e w' ⟨rfl,rfl⟩
   exact ⟨rfl,h.used _,(Below.refl B w).setCell (p:=⟨b,0,none⟩) h.1 _⟩
 · refine (copyCheck_used b w h.cell0).mono ?_
   rintro e w' ⟨rfl,rfl⟩
   exact ⟨rfl,h,Below.refl B _⟩
set_option maxHeartbeats 2000000 in
set_option maxRecDepth 100000 in
theorem WriteString_any (B b:Nat) (bs:List Value) (s:ByteArray) (w:World) (h:Lib.IsBuilder 130 5 B b bs w) (hlen:bs.length+s.size≤140737488355328) (hBw:B≤w.heap.size) :
 Calls Tryz.prog 95 #[.pointer (some ⟨b,0,none⟩),.string s] w fun e w'=>e = .returned (.tuple #[.int .i64 s.size,.nilIface])∧(Lib.BuilderAt 130 5 B b (.pointer (some ⟨b,0,none⟩)) (bs++Lib.strCells s) w'∧Below B w w'):=by
 obtain ⟨i0,hi,hz0,hz1,hz2⟩:=info_parts infoByte
 go_enter Tryz.func95,Tryz.ntmps95
 go_wp2_with (go_at_call 135;refine (copyCheck_any B b bs _ h).mono ?_)
 rintro e w1 ⟨rfl,h1,hb1⟩
 obtain ⟨hB,v,hbk,hown,hne⟩:=h1
 have c0:w1.cell? ⟨b,0,none⟩=some (.pointer (some ⟨b,0,none⟩)):=by rw [Lib.cell_of_heap hbk];rfl
 have c1:w1.cell? ⟨b,1,none⟩=some v:=by rw [Lib.cell_of_heap hbk];rfl
 go_wp2_with (at_builtin;refine Lib.wpList_append_own_string _ rfl _ _ 128 9 rfl B 5 i0 Tryz.underlying128 Tryz.underlying9 hi hz0 hz1 hz2 _ _ _ rfl hown s rfl ?c3 ?c4 ?c5 ?_)
 case c3=>unfold maxLen;omega
 case c4=>omega
 case c5=>have:=hb1.size;omega
 intro v' w2 hown' hgrow _
 have hlt:b<w1.heap.size:=by
  rcases Nat.lt_or_ge b w1.heap.size with h' | h'
  · exact h'
  · simp [Array.getElem?_eq_none h'] at hbk
 have hb2:w2.heap[b]?=some (.cells #[.pointer (some ⟨b,0,none⟩),v] 130 (0,0)):=by
  rw [hgrow.block b hlt (fun e=>hne e.symm)]
  exact hbk
 have d0:w2.cell? ⟨b,0,none⟩=some (.pointer (some ⟨b,0,none⟩)):=by rw [Lib.cell_of_heap hb2];rfl
 have d1:w2.cell? ⟨b,1,none⟩=some v:=by rw [Lib.cell_of_heap hb2];rfl
 have f1:w2.frozen? ⟨b,1,none⟩=false:=Lib.frozen_of_heap hb2 1
 obtain ⟨ao,n',cap,rfl⟩:∃ ao n' cap,v' = .slice ao n' cap:=by
  rcases hown'.2 with ⟨hv,_⟩ | ⟨g,cap,cur,hv,_⟩
  · exact ⟨_,_,_,hv⟩
  · exact ⟨_,_,_,hv⟩
 go_wp2
 go_ret2
 refine ⟨rfl,?_,?_⟩
 · exact Lib.BuilderAt.put (T:=130) (e:=5) hB hb2 (bs':=bs++Lib.strCells s) (by simpa [Lib.strCells_length] using hown') (by decide)
 · exact (hb1.grown hgrow (by have:=hb1.size;omega) (fun k hk=>(hown.lt k hk).1)).setCell (p:=⟨b,1,none⟩) hB _
end Go.Proofs.YtkhdocdddicgpaaGreatDoor
namespace Go.Proofs
open Go.Shelf
def Tryz.lays169_ren:Go.Shelf.Ren:=⟨fun | 169=>99 | n=>n,fun | 70=>127 | 9=>9 | 0=>0 | 72=>130 | 37=>128 | 127=>179 | 3=>3 | 5=>5 | n=>n,fun | n=>n⟩
theorem Tryz.lays169:Go.Proofs.Lays.n169 Tryz.prog Tryz.lays169_ren:={
 mixed:=by kernel_rfl
 f169:=Tryz.func99.trans (congrArg some (by kernel_rfl))
 t0:=Tryz.underlying0
 a0:=Tryz.isAgg0
 z0:=Tryz.sizeOf0
 v0:=Tryz.zeroValue0
 t3:=Tryz.underlying3
 a3:=Tryz.isAgg3
 z3:=Tryz.sizeOf3
 v3:=Tryz.zeroValue3
 t9:=Tryz.underlying9
 a9:=Tryz.isAgg9
 z9:=Tryz.sizeOf9
 v9:=Tryz.zeroValue9
 t37:=Tryz.underlying128
 a37:=Tryz.isAgg128
 z37:=Tryz.sizeOf128
 v37:=Tryz.zeroValue128
 t70:=Tryz.underlying127
 a70:=Tryz.isAgg127
 z70:=Tryz.sizeOf127
 v70:=Tryz.zeroValue127
 t72:=Tryz.underlying130
 a72:=Tryz.isAgg130
 z72:=Tryz.sizeOf130
 v72:=Tryz.zeroValue130
 t127:=Tryz.underlying179
 a127:=Tryz.isAgg179
 z127:=Tryz.sizeOf179
 v127:=Tryz.zeroValue179 }
theorem Tryz.Builder_Extra_169:Builder.Extra Tryz.prog Tryz.lays169_ren:={
 sizeBuilder:=by kernel_rfl
 liesBuilder:=by kernel_rfl
 t5:=Tryz.underlying5
 a5:=Tryz.isAgg5
 z5:=Tryz.sizeOf5
 v5:=Tryz.zeroValue5
 infoByte:=by kernel_rfl
 cellsByte:=by kernel_rfl
 sizeByte:=by kernel_rfl
 neB5:=by decide }
open Go.RowKit in
theorem Tryz.Builder_String_any (B b:Nat) (l:List UInt8) (w:World) (h:Lib.IsBuilder 130 5 B b (Lib.byteCells l) w) (hBw:B≤w.heap.size) :
 Calls Tryz.prog 99 #[.pointer (some ⟨b,0,none⟩)] w fun e w'=>e = .returned (.string ⟨l.toArray⟩)∧Below B w w':=Any.Builder_String_any Tryz.lays169 Tryz.Builder_Extra_169 B b l w h hBw
end Go.Proofs
