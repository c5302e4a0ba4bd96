/- Part 0: what the law's walk leans on. -/
import Derived.Test.YtkhdocdddicgpaaGreatDoorYt0
import Derived.Test.YtkhdocdddicgpaaGreatDoorYt1
import Derived.Test.YtkhdocdddicgpaaGreatDoorYt2
import Derived.Test.YtkhdocdddicgpaaGreatDoorYt3
import Derived.Test.YtkhdocdddicgpaaGreatDoorYt4
import Derived.Test.YtkhdocdddicgpaaGreatDoorYt5
import Derived.Test.YtkhdocdddicgpaaGreatDoorYt6
import Derived.Test.YtkhdocdddicgpaaGreatDoorYt7
import Derived.Test.YtkhdocdddicgpaaGreatDoorYt8
import Derived.Test.YtkhdocdddicgpaaGreatDoorYt9
import Derived.Test.YtkhdocdddicgpaaGreatDoorYt10
import Derived.Test.YtkhdocdddicgpaaGreatDoorYt11
import Derived.Test.YtkhdocdddicgpaaGreatDoorYt12
import Derived.Test.YtkhdocdddicgpaaGreatDoorYt13
import Derived.Test.YtkhdocdddicgpaaGreatDoorYt14
import Derived.Test.YtkhdocdddicgpaaGreatDoorYt15
import Derived.Test.YtkhdocdddicgpaaGreatDoorYt16
import Derived.Test.YtkhdocdddicgpaaGreatDoorYt17
import Derived.Test.YtkhdocdddicgpaaGreatDoorYt18
import Derived.Test.YtkhdocdddicgpaaGreatDoorYt19
import Derived.Test.YtkhdocdddicgpaaGreatDoorYt20
import Derived.Test.YtkhdocdddicgpaaGreatDoorYt21
import Derived.Test.YtkhdocdddicgpaaGreatDoorYt22
import Derived.Test.YtkhdocdddicgpaaGreatDoorYt23
import Derived.Test.YtkhdocdddicgpaaGreatDoorYt24
import Derived.Test.YtkhdocdddicgpaaGreatDoorYt25
import Derived.Test.YtkhdocdddicgpaaGreatDoorYt26
import Derived.Test.YtkhdocdddicgpaaGreatDoorYt27
import Derived.Test.YtkhdocdddicgpaaGreatDoorYt28
import Derived.Test.YtkhdocdddicgpaaGreatDoorYt29
import Derived.Test.YtkhdocdddicgpaaGreatDoorYt30
import Derived.WalkKit
import Derived.Deep.QuietTactic
import Derived.BigQuiet
import Derived.Lib.ItoaNum
import Derived.Test.YtkhdocdddicgpaaGreatDoorProg
import Derived.WalkSpells
import Derived.WalkLawsBesides
import Derived.IntWalk
import Derived.LoopTactic
import Derived.Lib.Hide
import Derived.Laws.CopyOwn
import Derived.StillTailTactics
import Derived.Deep.RegionHeld3
import Derived.Lib.AppendStr
import Derived.Lib.SliceRun
import Derived.Shelf.Small.Wraps
import Derived.Shelf.Strconv.Itoa4
import Derived.Shelf.Strconv.ErrVarAll
import Derived.Shelf.Strconv.ParseIntPublic10
import Derived.Shelf.Strings.Shaped
import Derived.Shelf.Strconv.AppendInt10
import Derived.Shelf.Bits.Mul64
import Derived.Lib.AtoiErrMem
import Derived.Lib.AppendIntMem
import Derived.Lib.SmallJoins
import Derived.Lib.ItoaLen
import Derived.Laws.IdiomStrings
import Derived.Lib.IndexMore
import Derived.Lib.IndexBytes
import Derived.Lib.IndexLaws
import Derived.Deep.Cut
import Derived.Deep.CutRange
import Derived.Deep.DeepCutAuto
import Derived.Deep.LoopGhost
import Derived.Deep.RegionWith
import Derived.RegionTactic
import Derived.Maps.OwnSet
import Derived.Maps.RangeWalk
import Derived.Maps.StringElems
import Derived.Sort.Statements
import Derived.Shelf.SlGeneric
import Derived.Shelf.SlicesQ.IndexFunc
import Derived.Ground.SlgfProg
import Derived.Shelf.SlSortCmp.WholeK
import Derived.Ground.SlsfProg
import Derived.Lib.OwnBridge
import Derived.Lib.AppendZeros
import Derived.Laws.AppendOwnNone
import Derived.Shelf.Strings.BuilderX
import Derived.Lib.Strings
import Derived.Lib.Slices
import Derived.Lib.Walk
import Derived.Lib.Builder
import Derived.Lib.UnsafeStr
import Derived.Laws.Externs
import Derived.Laws.IdiomCopy
import Derived.Shelf.Strings.BuilderK
import Derived.Laws.Concat
import Derived.RangeFuncNested
import Derived.RangeFuncBound
import Derived.RangeFuncCalls
import Derived.RangeFuncLeaves
import Derived.Shelf.Abstract
import Derived.Shelf.RegionOpen
import Derived.OwnWalkIn
import Derived.TacticsInMore
import Derived.LoopNIn
import Derived.LoopIn
import Derived.Maps.OwnIn
import Derived.Maps.AppendAt
import Derived.RangeFuncBox
import Derived.OrdersIn
import Derived.Deep.RegionHeld
import Derived.Laws.EntriesVeiled
import Derived.Deep.AppendLies
import Derived.Laws.AppendOwn
set_option linter.unusedVariables false
set_option linter.unusedSimpArgs false
namespace Go.Proofs.YtkhdocdddicgpaaGreatDoor
open Go.RowKit _root_.Go.Proofs.YtkhdocdddicgpaaGreatDoor.Nm
theorem size_ten (s:ByteArray) (n:Nat) (h:canon s.data.toList=true) (hs:s.size≤n):Ten n (zv s.data.toList):=by
 rw [← len_size] at hs
 by_cases h45:s.data.toList.head?=some 45
 · obtain ⟨r,hr⟩:=cons_of_head _ h45
   rw [hr] at h hs ⊢
   rw [canon_neg] at h
   simp only [Bool.and_eq_true,decide_eq_true_eq] at h
   have h1:=tv_lt r (canonN_parts h.1.1).1
   rw [List.length_cons] at hs
   exact ⟨r.length,by omega,by rw [zv_neg,show (-(tv r:Int)).natAbs=tv r from by omega];exact h1⟩
 · rw [canon_pos _ h45] at h
   simp only [Bool.and_eq_true,decide_eq_true_eq] at h
   have h1:=tv_lt _ (canonN_parts h.1).1
   exact ⟨_,hs,by rw [zv_pos _ h45,Int.natAbs_natCast];exact h1⟩
end Go.Proofs.YtkhdocdddicgpaaGreatDoor
set_option linter.unusedVariables false
set_option linter.unusedSimpArgs false
namespace Go.Proofs.YtkhdocdddicgpaaGreatDoor
open Go.RowKit _root_.Go.Proofs.YtkhdocdddicgpaaGreatDoor.Nm
theorem RT.mono {K L:Nat} {q:Rat} (h:RT K q) (hl:K≤L):RT L q:=⟨h.1.mono hl,h.2.mono hl⟩
theorem RT.add {K L:Nat} {p q:Rat} (h:RT K p) (h':RT L q):RT (K+L+1) (p+q):=by
 rw [← sum_div]
 exact .divInt (den_ne p q) (by have:=(h.1.mul h'.2).add ((h'.1.mul h.2).mono (Nat.le_of_eq (Nat.add_comm L K)));exact this) ((h.2.mul h'.2).mono (by omega))
theorem RT.mul {K L:Nat} {p q:Rat} (h:RT K p) (h':RT L q):RT (K+L) (p*q):=by
 rw [← mul_div]
 exact .divInt (den_ne p q) (h.1.mul h'.1) (h.2.mul h'.2)
theorem RIs.ten {s:ByteArray} {q:Rat} {n:Nat} (h:RIs s q) (hs:s.size≤n):RT n q:=by
 obtain ⟨rfl,h2⟩:=h
 unfold rshort at h2
 simp only [Bool.and_eq_true] at h2
 have hl:(rt q).length≤n:=by rw [← len_size] at hs;simpa using hs
 have h3:=size_ten ⟨(Lib.itoa q.num).toArray⟩ (Lib.itoa q.num).length (by simpa using h2.1) (by rw [← len_size];simp)
 have h4:=size_ten ⟨(Lib.itoa (q.den:Int)).toArray⟩ (Lib.itoa (q.den:Int)).length (by simpa using h2.2) (by rw [← len_size];simp)
 simp only [zv_itoa] at h3 h4
 unfold rt at hl
 split at hl
 · next h1 =>
   refine ⟨h3.mono hl,?_⟩
   rw [h1]
   refine .one (Nat.le_trans ?_ hl)
   rcases hn:Lib.itoa q.num with _ | ⟨c,l⟩
   · rw [hn] at h2;exact absurd h2.1 (by decide +kernel)
   · simp
 · rw [List.length_append,List.length_cons] at hl
   exact ⟨h3.mono (by omega),h4.mono (by omega)⟩
end Go.Proofs.YtkhdocdddicgpaaGreatDoor
set_option linter.unusedVariables false
set_option linter.unusedSimpArgs false
namespace Go.Proofs.YtkhdocdddicgpaaGreatDoor
open Go.RowKit _root_.Go.Proofs.YtkhdocdddicgpaaGreatDoor.Nm
end Go.Proofs.YtkhdocdddicgpaaGreatDoor
set_option linter.unusedVariables false
set_option linter.unusedSimpArgs false
namespace Go.Proofs.YtkhdocdddicgpaaGreatDoor
open Go.RowKit _root_.Go.Proofs.YtkhdocdddicgpaaGreatDoor.Nm
end Go.Proofs.YtkhdocdddicgpaaGreatDoor
set_option linter.unusedVariables false
set_option linter.unusedSimpArgs false
namespace Go.Proofs.YtkhdocdddicgpaaGreatDoor
open Go.RowKit _root_.Go.Proofs.YtkhdocdddicgpaaGreatDoor.Nm
end Go.Proofs.YtkhdocdddicgpaaGreatDoor
set_option linter.unusedVariables false
set_option linter.unusedSimpArgs false
namespace Go.Proofs.YtkhdocdddicgpaaGreatDoor
open Go.RowKit Go.Maps _root_.Go.Proofs.YtkhdocdddicgpaaGreatDoor.Nm
theorem co_wo:∀ (q:List Qm) (c x:Int),co (wo q c) x=if x=c then 0 else co q x
 | [],c,x=>by simp [wo,co_nil]
 | p::q,c,x=>by
  have ih:=co_wo q c x
  by_cases h:p.1=c
  · have e:wo (p::q) c=wo q c:=by unfold wo;rw [List.filter_cons,if_neg (by simp [h])]
    rw [e,ih,co_cons]
    by_cases hx:x=c
    · rw [if_pos hx,if_pos hx]
    · rw [if_neg hx,if_neg hx,if_neg (by omega)]
  · have e:wo (p::q) c=p::wo q c:=by unfold wo;rw [List.filter_cons,if_pos (by simp [h])]
    rw [e,co_cons,co_cons,ih]
    by_cases hx:p.1=x
    · rw [if_pos hx,if_pos hx,if_neg (by omega)]
    · rw [if_neg hx,if_neg hx]
end Go.Proofs.YtkhdocdddicgpaaGreatDoor
set_option linter.unusedVariables false
set_option linter.unusedSimpArgs false
namespace Go.Proofs.YtkhdocdddicgpaaGreatDoor
open Go.RowKit Go.Maps _root_.Go.Proofs.YtkhdocdddicgpaaGreatDoor.Nm
end Go.Proofs.YtkhdocdddicgpaaGreatDoor
set_option linter.unusedVariables false
set_option linter.unusedSimpArgs false
namespace Go.Proofs.YtkhdocdddicgpaaGreatDoor
open Go.RowKit Go.Maps _root_.Go.Proofs.YtkhdocdddicgpaaGreatDoor.Nm
end Go.Proofs.YtkhdocdddicgpaaGreatDoor
set_option linter.unusedVariables false
set_option linter.unusedSimpArgs false
namespace Go.Proofs.YtkhdocdddicgpaaGreatDoor
open Go.RowKit Go.Maps _root_.Go.Proofs.YtkhdocdddicgpaaGreatDoor.Nm
set_option maxRecDepth 100000 in
set_option maxHeartbeats 3200000 in
theorem Put_bad (x1 x2:ByteArray) (ad1 ad2:Option Addr) (n1 c1 n2 c2:Nat) (l1 l2:List Tm) (c:Int) (w:World) (h1:InF w ad1 n1 c1 x1 l1) (h2:InF w ad2 n2 c2 x2 l2) (hbad:checkErr x1 l1≠0∨checkErr x2 l2≠0) :
 Calls Tryz.prog 25 #[.agg #[.slice ad1 n1 c1,.string x1],.int .i64 c,.agg #[.slice ad2 n2 c2,.string x2]] w (FormErr 3 w):=by
 have HP:=Lib.hid (Pb.start w (.slice ad1 n1 c1) (.string x1) (.slice ad2 n2 c2) (.string x2) c 24 3 24 24)
 have HV1:=Lib.hid (h1.keep HP.out.below (Nat.le_refl _))
 have HV2:=Lib.hid (h2.keep HP.out.below (Nat.le_refl _))
 obtain ⟨r1,hr1⟩:∃ r,checkErr x1 l1=r:=⟨_,rfl⟩
 obtain ⟨r2,hr2⟩:∃ r,checkErr x2 l2=r:=⟨_,rfl⟩
 rw [hr1,hr2] at hbad
 have HR1:=Lib.hid hr1
 have HR2:=Lib.hid hr2
 clear h1 h2 hr1 hr2
 obtain ⟨a0,a1,a2,a3⟩:=HP.out.b0.cell
 go_enter Tryz.func25,Tryz.ntmps25
 by_cases hz1:r1=0
 · have hz2:r2≠0:=hbad.resolve_left (fun h=>h hz1)
   have hg1:(r1 != 0)=false:=by simp [hz1]
   have hg2:(r2 != 0)=true:=by simpa using hz2
   clear hbad hz2 hz1
   go_wp2_with fail
   refine (Check_any x1 ad1 n1 c1 l1 r1 _ HV1.out.at_ HV1.out.size HV1.out.sizes (by have:=HV1.out.len;omega) HR1).mono ?_
   rintro e w1 ⟨rfl,hb⟩
   have HP1:=Lib.hid (HP.out.keep hb)
   have HVb:=Lib.hid (HV2.out.keep hb (Nat.le_refl _))
   clear hb a0 a1 a2 a3
   obtain ⟨a0,a1,a2,a3⟩:=HP1.out.b2.cell
   go_wp2_with fail
   refine (Check_any x2 ad2 n2 c2 l2 r2 _ HVb.out.at_ HVb.out.size HVb.out.sizes (by have:=HVb.out.len;omega) HR2).mono ?_
   rintro e w2 ⟨rfl,hb⟩
   have HP2:=Lib.hid (HP1.out.keep hb)
   clear hb a0 a1 a2 a3
   obtain ⟨b0,b1,b2,b3⟩:=HP2.out.b3.cell
   go_wp2
   obtain ⟨d0,d1,d2,d3⟩:=((Bx.put HP2.out.b3 (.slice none 0 0) (.string ⟨#[]⟩))).cell
   refine bodyPost_ret (v := .tuple #[.agg #[.slice none 0 0,.string ⟨#[]⟩],.int .i64 3]) (by simp only [results,Tryz.results25];simp [go_sem,d0,d1]) rfl ?_
   exact ⟨(HP2.out.below.setCell (by dsimp only;omega) _).setCell (by dsimp only;omega) _,rfl⟩
 · have hg1:(r1 != 0)=true:=by simpa using hz1
   clear hbad hz1
   go_wp2_with fail
   refine (Check_any x1 ad1 n1 c1 l1 r1 _ HV1.out.at_ HV1.out.size HV1.out.sizes (by have:=HV1.out.len;omega) HR1).mono ?_
   rintro e w1 ⟨rfl,hb⟩
   have HP1:=Lib.hid (HP.out.keep hb)
   clear hb a0 a1 a2 a3
   obtain ⟨b0,b1,b2,b3⟩:=HP1.out.b3.cell
   go_wp2
   obtain ⟨d0,d1,d2,d3⟩:=((Bx.put HP1.out.b3 (.slice none 0 0) (.string ⟨#[]⟩))).cell
   refine bodyPost_ret (v := .tuple #[.agg #[.slice none 0 0,.string ⟨#[]⟩],.int .i64 3]) (by simp only [results,Tryz.results25];simp [go_sem,d0,d1]) rfl ?_
   exact ⟨(HP1.out.below.setCell (by dsimp only;omega) _).setCell (by dsimp only;omega) _,rfl⟩
set_option maxRecDepth 100000 in
set_option maxHeartbeats 3200000 in
theorem Put_range (p1 p2:Rat) (x1 x2:ByteArray) (ad1 ad2:Option Addr) (n1 c1 n2 c2:Nat) (q1 q2:List Qm) (c:Int) (w:World) (h1:InV w ad1 n1 c1 p1 x1 q1) (h2:InV w ad2 n2 c2 p2 x2 q2) (hcol:okCol c=false) :
 Calls Tryz.prog 25 #[.agg #[.slice ad1 n1 c1,.string x1],.int .i64 c,.agg #[.slice ad2 n2 c2,.string x2]] w (FormErr 2 w):=by
 have HP:=Lib.hid (Pb.start w (.slice ad1 n1 c1) (.string x1) (.slice ad2 n2 c2) (.string x2) c 24 3 24 24)
 have HV1:=Lib.hid (h1.keep HP.out.below (Nat.le_refl _))
 have HV2:=Lib.hid (h2.keep HP.out.below (Nat.le_refl _))
 have HCOL:=Lib.hid hcol
 clear h1 h2 hcol
 obtain ⟨a0,a1,a2,a3⟩:=HP.out.b0.cell
 go_enter Tryz.func25,Tryz.ntmps25
 go_wp2_with fail
 refine (Check_any x1 ad1 n1 c1 (tms q1) 0 _ HV1.out.in_.at_ HV1.out.in_.size HV1.out.in_.sizes (by have:=HV1.out.in_.len;omega) (Lib.hid HV1.out.ok)).mono ?_
 rintro e w1 ⟨rfl,hb⟩
 have HP1:=Lib.hid (HP.out.keep hb)
 have HVb:=Lib.hid (HV2.out.keep hb (Nat.le_refl _))
 clear hb a0 a1 a2 a3
 obtain ⟨a0,a1,a2,a3⟩:=HP1.out.b2.cell
 go_wp2_with fail
 refine (Check_any x2 ad2 n2 c2 (tms q2) 0 _ HVb.out.in_.at_ HVb.out.in_.size HVb.out.in_.sizes (by have:=HVb.out.in_.len;omega) (Lib.hid HVb.out.ok)).mono ?_
 rintro e w2 ⟨rfl,hb⟩
 have HP2:=Lib.hid (HP1.out.keep hb)
 clear hb a0 a1 a2 a3
 have hcc:=HP2.out.b1
 go_wp2_with fail
 refine (isColumn_any c false _ HCOL).mono ?_
 rintro e w3 ⟨rfl,rfl⟩
 clear hcc
 obtain ⟨b0,b1,b2,b3⟩:=HP2.out.b3.cell
 go_wp2
 obtain ⟨d0,d1,d2,d3⟩:=((Bx.put HP2.out.b3 (.slice none 0 0) (.string ⟨#[]⟩))).cell
 refine bodyPost_ret (v := .tuple #[.agg #[.slice none 0 0,.string ⟨#[]⟩],.int .i64 2]) (by simp only [results,Tryz.results25];simp [go_sem,d0,d1]) rfl ?_
 exact ⟨(HP2.out.below.setCell (by dsimp only;omega) _).setCell (by dsimp only;omega) _,rfl⟩
end Go.Proofs.YtkhdocdddicgpaaGreatDoor
set_option linter.unusedVariables false
set_option linter.unusedSimpArgs false
namespace Go.Proofs.YtkhdocdddicgpaaGreatDoor
open Go.RowKit Go.Maps _root_.Go.Proofs.YtkhdocdddicgpaaGreatDoor.Nm
structure LV (w W:World) (x0:Option Addr) (n0 c0:Nat) (s0:ByteArray) (l0:List Tm) (x1:Option Addr) (n1 c1:Nat) (s1:ByteArray) (l1:List Tm) (x2:Option Addr) (n2 c2:Nat) (ss:List ByteArray):Prop where
 a:Bx W w.heap.size (.slice x0 n0 c0) (.string s0)
 b:Bx W (w.heap.size+1) (.slice x1 n1 c1) (.string s1)
 fa:TsAt W (.slice x0 n0 c0) l0
 fb:TsAt W (.slice x1 n1 c1) l1
 vs:SsAt W (.slice x2 n2 c2) ss
 tab:Tab W
 ers:Ers W
 below:Below w.heap.size w W
theorem LV.keep {w W W':World} {x0:Option Addr} {n0 c0:Nat} {s0:ByteArray} {l0:List Tm} {x1:Option Addr} {n1 c1:Nat} {s1:ByteArray} {l1:List Tm} {x2:Option Addr} {n2 c2:Nat} {ss:List ByteArray}
 (h:LV w W x0 n0 c0 s0 l0 x1 n1 c1 s1 l1 x2 n2 c2 ss) (hb:Below W.heap.size W W'):LV w W' x0 n0 c0 s0 l0 x1 n1 c1 s1 l1 x2 n2 c2 ss :=
 ⟨h.a.below hb h.a.lt,h.b.below hb h.b.lt,h.fa.keep hb (Nat.le_refl _),h.fb.keep hb (Nat.le_refl _),h.vs.keep hb (Nat.le_refl _),tab_keep h.tab hb,h.ers.keep hb (Nat.le_refl _),h.below.trans (hb.mono h.below.size)⟩
theorem LV.start (w:World) {x0:Option Addr} {n0 c0:Nat} {s0:ByteArray} {l0:List Tm} {x1:Option Addr} {n1 c1:Nat} {s1:ByteArray} {l1:List Tm} {x2:Option Addr} {n2 c2:Nat} {ss:List ByteArray}
 (ha:TsAt w (.slice x0 n0 c0) l0) (hb:TsAt w (.slice x1 n1 c1) l1) (hv:SsAt w (.slice x2 n2 c2) ss) (ht:Tab w) (he:Ers w) :
 LV w ((w.alloc (.cells #[.slice x0 n0 c0,.string s0] 24)).alloc (.cells #[.slice x1 n1 c1,.string s1] 24)) x0 n0 c0 s0 l0 x1 n1 c1 s1 l1 x2 n2 c2 ss:=by
 have hA:=(Below.refl w.heap.size w).alloc (Nat.le_refl _) (.cells #[.slice x0 n0 c0,.string s0] 24)
 have hA2:=hA.alloc (by simp) (.cells #[.slice x1 n1 c1,.string s1] 24)
 have hn:=Bx.new (w.alloc (.cells #[.slice x0 n0 c0,.string s0] 24)) (.slice x1 n1 c1) (.string s1) 24
 simp only [World.size_alloc] at hn
 exact ⟨(Bx.new w (.slice x0 n0 c0) (.string s0) 24).alloc _,hn,ha.keep hA2 (Nat.le_refl _),hb.keep hA2 (Nat.le_refl _),hv.keep hA2 (Nat.le_refl _),tab_keep ht hA2,he.keep hA2 (Nat.le_refl _),hA2⟩
end Go.Proofs.YtkhdocdddicgpaaGreatDoor
set_option linter.unusedVariables false
set_option linter.unusedSimpArgs false
namespace Go.Proofs.YtkhdocdddicgpaaGreatDoor
open Go.RowKit Go.Maps _root_.Go.Proofs.YtkhdocdddicgpaaGreatDoor.Nm
end Go.Proofs.YtkhdocdddicgpaaGreatDoor
set_option linter.unusedVariables false
set_option linter.unusedSimpArgs false
namespace Go.Proofs.YtkhdocdddicgpaaGreatDoor
open Go.RowKit _root_.Go.Proofs.YtkhdocdddicgpaaGreatDoor.Nm
end Go.Proofs.YtkhdocdddicgpaaGreatDoor
set_option linter.unusedVariables false
set_option linter.unusedSimpArgs false
namespace Go.Proofs.YtkhdocdddicgpaaGreatDoor
open Go.RowKit _root_.Go.Proofs.YtkhdocdddicgpaaGreatDoor.Nm
section
variable {w W W':World} {n1 n2 m:Bool} {a1 a2 b:Option Addr} {l1 c1 l2 c2 g k d B:Nat} {x y G:Int} {o:Obj} {p q:Value}
end
end Go.Proofs.YtkhdocdddicgpaaGreatDoor
set_option linter.unusedVariables false
set_option linter.unusedSimpArgs false
namespace Go.Proofs.YtkhdocdddicgpaaGreatDoor
open Go.RowKit _root_.Go.Proofs.YtkhdocdddicgpaaGreatDoor.Nm
section
variable {w W W':World} {x0 x1 x2 x3 y0 y1 y2 y3:Value} {p q:Rat} {B:Nat}
end
end Go.Proofs.YtkhdocdddicgpaaGreatDoor
set_option linter.unusedVariables false
set_option linter.unusedSimpArgs false
namespace Go.Proofs.YtkhdocdddicgpaaGreatDoor
open Go.RowKit _root_.Go.Proofs.YtkhdocdddicgpaaGreatDoor.Nm
set_option maxRecDepth 100000 in
set_option maxHeartbeats 1600000 in
theorem rrZero_any (v:Value) (q:Rat) (b:Bool) (w:World) (h:RRef w v q) (hb:Hid (True∧decide (q=0)=b)) :
 Calls Tryz.prog 56 #[v] w fun e w'=>e = .returned (.bool b)∧Below w.heap.size w w':=by
 obtain ⟨n1,a1,l1,c1,n2,a2,l2,c2,rfl,x1,x2⟩:=h
 have hA:=(Below.refl w.heap.size w).alloc (Nat.le_refl _) (.cells #[.bool n1,.slice a1 l1 c1,.bool n2,.slice a2 l2 c2] 33)
 have HX:=Lib.hid (x1.keep hA (Nat.le_refl _))
 have HW:=Lib.hid hA
 have HB:Hid (True∧decide (q.num=0)=b):=Lib.hid ⟨trivial,by rw [← hb.out.2];exact decide_eq_decide.2 Rat.num_eq_zero⟩
 clear x1 x2 hA
 obtain ⟨k0,k1,k2,k3⟩:=(B4.new w (.bool n1) (.slice a1 l1 c1) (.bool n2) (.slice a2 l2 c2) 33).cell
 go_enter Tryz.func56,Tryz.ntmps56
 go_wp2_with fail
 refine (rzero_any _ q.num b _ HX.out HB).mono ?_
 rintro e w1 ⟨rfl,hb1⟩
 have HW1:=Lib.hid (HW.out.trans (hb1.mono HW.out.size))
 clear hb1 k0 k1 k2 k3
 go_wp2
 go_ret
 exact ⟨rfl,HW1.out⟩
end Go.Proofs.YtkhdocdddicgpaaGreatDoor
set_option linter.unusedVariables false
set_option linter.unusedSimpArgs false
namespace Go.Proofs.YtkhdocdddicgpaaGreatDoor
open Go.RowKit _root_.Go.Proofs.YtkhdocdddicgpaaGreatDoor.Nm
end Go.Proofs.YtkhdocdddicgpaaGreatDoor
set_option linter.unusedVariables false
set_option linter.unusedSimpArgs false
namespace Go.Proofs.YtkhdocdddicgpaaGreatDoor
open Go.RowKit Go.Maps _root_.Go.Proofs.YtkhdocdddicgpaaGreatDoor.Nm
theorem colsUp_bound {α:Type}:∀ (q:List (Int × α)) (m:Nat),m≤2048→(∀ p∈q,ColIn p.1)→colsUp m q≤2048
 | [],m,h,_=>h
 | p::q,m,h,hp=>by
  have h1:=(hp p (by simp)).2
  exact colsUp_bound q _ (by omega) (fun x hx=>hp x (by simp [hx]))
end Go.Proofs.YtkhdocdddicgpaaGreatDoor
set_option linter.unusedVariables false
set_option linter.unusedSimpArgs false
namespace Go.Proofs.YtkhdocdddicgpaaGreatDoor
open Go.RowKit Go.Maps _root_.Go.Proofs.YtkhdocdddicgpaaGreatDoor.Nm
set_option maxRecDepth 100000 in
set_option maxHeartbeats 3200000 in
theorem lread_bad (x:ByteArray) (ad:Option Addr) (n cap:Nat) (l:List Tm) (w:World) (h:InF w ad n cap x l) (hbad:checkErr x l≠0) :
 Calls Tryz.prog 12 #[.agg #[.slice ad n cap,.string x]] w fun e w'=>e = .returned (.tuple #[.agg #[.slice none 0 0,.bool false,.slice none 0 0,.bool false,.slice none 0 0],.int .i64 3])∧Below w.heap.size w w':=by
 have hA:=(Below.refl w.heap.size w).alloc (Nat.le_refl _) (.cells #[.slice ad n cap,.string x] 24)
 have hA2:=hA.alloc (by simp) (.cells #[.slice none 0 0,.bool false,.slice none 0 0,.bool false,.slice none 0 0] 35)
 have hR:=B5.new (w.alloc (.cells #[.slice ad n cap,.string x] 24)) (.slice none 0 0) (.bool false) (.slice none 0 0) (.bool false) (.slice none 0 0) 35
 simp only [World.size_alloc] at hR
 have HB0:=Lib.hid ((Bx.new w (.slice ad n cap) (.string x) 24).alloc (.cells #[.slice none 0 0,.bool false,.slice none 0 0,.bool false,.slice none 0 0] 35))
 have HR0:=Lib.hid hR
 have HW0:=Lib.hid hA2
 have HV:=Lib.hid (h.keep hA2 (Nat.le_refl _))
 obtain ⟨r1,hr1⟩:∃ r,checkErr x l=r:=⟨_,rfl⟩
 rw [hr1] at hbad
 have HR1:=Lib.hid hr1
 have hg1:(r1 != 0)=true:=by simpa using hbad
 clear hA hA2 hR h hr1 hbad
 obtain ⟨a0,a1,a2,a3⟩:=HB0.out.cell
 go_enter Tryz.func12,Tryz.ntmps12
 go_wp2_with fail
 refine (fCheck_any x ad n cap l r1 _ HV.out.at_ HV.out.size HV.out.sizes HV.out.len HR1).mono ?_
 rintro e w1 ⟨rfl,hb⟩
 have HRX:=Lib.hid (HR0.out.keep hb)
 have HW1:=Lib.hid (HW0.out.trans (hb.mono HW0.out.size))
 clear hb a0 a1 a2 a3
 obtain ⟨b0,b1,b2,b3,b4⟩:=HRX.out.cell
 obtain ⟨f0,f1,f2,f3,f4⟩:=HRX.out.froz
 go_wp2
 obtain ⟨e0,e1,e2,e3,e4⟩:=(HRX.out.store (.slice none 0 0) (.bool false) (.slice none 0 0) (.bool false) (.slice none 0 0)).cell
 refine bodyPost_ret (v := .tuple #[.agg #[.slice none 0 0,.bool false,.slice none 0 0,.bool false,.slice none 0 0],.int .i64 3]) (by simp only [results,Tryz.results12];simp [go_sem,e0,e1,e2,e3,e4]) rfl ?_
 exact ⟨rfl,((((HW1.out.setCell (Nat.le_succ _) _).setCell (Nat.le_succ _) _).setCell (Nat.le_succ _) _).setCell (Nat.le_succ _) _).setCell (Nat.le_succ _) _⟩
set_option maxRecDepth 100000 in
set_option maxHeartbeats 3200000 in
theorem lread_good (qc:Rat) (x:ByteArray) (ad:Option Addr) (n cap:Nat) (q:List Qm) (w:World) (h:InV w ad n cap qc x q) :
 Calls Tryz.prog 12 #[.agg #[.slice ad n cap,.string x]] w fun e w'=>(∃ v,e = .returned (.tuple #[v,.int .i64 0])∧FormQ w' w.heap.size v (rowOf (co q) (colsOf q)) qc)∧Below w.heap.size w w':=by
 have hA:=(Below.refl w.heap.size w).alloc (Nat.le_refl _) (.cells #[.slice ad n cap,.string x] 24)
 have hA2:=hA.alloc (by simp) (.cells #[.slice none 0 0,.bool false,.slice none 0 0,.bool false,.slice none 0 0] 35)
 have hR:=B5.new (w.alloc (.cells #[.slice ad n cap,.string x] 24)) (.slice none 0 0) (.bool false) (.slice none 0 0) (.bool false) (.slice none 0 0) 35
 simp only [World.size_alloc] at hR
 have HB0:=Lib.hid ((Bx.new w (.slice ad n cap) (.string x) 24).alloc (.cells #[.slice none 0 0,.bool false,.slice none 0 0,.bool false,.slice none 0 0] 35))
 have HR0:=Lib.hid hR
 have HW0:=Lib.hid hA2
 have HV:=Lib.hid (h.keep hA2 (Nat.le_refl _))
 have HOK:=Lib.hid h.ok
 clear hA hA2 hR h
 obtain ⟨a0,a1,a2,a3⟩:=HB0.out.cell
 go_enter Tryz.func12,Tryz.ntmps12
 go_wp2_with fail
 refine (fCheck_any x ad n cap (tms q) 0 _ HV.out.in_.at_ HV.out.in_.size HV.out.in_.sizes HV.out.in_.len HOK).mono ?_
 rintro e w1 ⟨rfl,hb⟩
 have HRX:=Lib.hid (HR0.out.keep hb)
 have HBX:=Lib.hid (HB0.out.below hb HB0.out.lt)
 have HW1:=Lib.hid (HW0.out.trans (hb.mono HW0.out.size))
 have HV1:=Lib.hid (HV.out.keep hb (Nat.le_refl _))
 clear hb a0 a1 a2 a3
 obtain ⟨a0,a1,a2,a3⟩:=HBX.out.cell
 go_wp2_with fail
 refine (fRead_any x ad n cap (tms q) _ HV1.out.in_.at_ HV1.out.in_.size HV1.out.in_.sizes HV1.out.in_.len).mono ?_
 intro e w2 hres
 obtain ⟨hb,hres⟩:=hres
 have hp0:partsErr x (tms q)=0:=by rw [← HV1.out.is_];exact partsErr_tms HV1.out.short HV1.out.terms
 rw [if_neg (by rw [hp0];decide)] at hres
 have hres:=hres qc q HV1.out.short HV1.out.is_.symm rfl HV1.out.terms
 rw [acc_fo HV1.out.fo] at hres
 obtain ⟨v,rfl,s,cs,c4,rfl,hrow,hnum⟩:=hres
 obtain ⟨as',cap',hs⟩:=hrow.slice
 subst hs
 obtain ⟨n1,a1',l1,c1,n2,a2',l2,c2,rfl⟩:=hnum.expl
 have HROW:=Lib.hid hrow
 have HNUM:=Lib.hid hnum
 have HRY:=Lib.hid (HRX.out.keep hb)
 have HW2:=Lib.hid (HW1.out.trans (hb.mono HW1.out.size))
 have HLT:Hid (w.heap.size+1<w1.heap.size):=Lib.hid HRX.out.lt
 clear hb a0 a1 a2 a3 hrow hnum hp0
 obtain ⟨b0,b1,b2,b3,b4⟩:=HRY.out.cell
 obtain ⟨f0,f1,f2,f3,f4⟩:=HRY.out.froz
 dsimp only
 obtain ⟨ln,hln⟩:∃ ln,(rowOf (co q) (colsOf q)).length=ln:=⟨_,rfl⟩
 rw [hln]
 go_wp2
 obtain ⟨e0,e1,e2,e3,e4⟩:=(HRY.out.store (.slice as' ln cap') (.bool n1) (.slice a1' l1 c1) (.bool n2) (.slice a2' l2 c2)).cell
 refine bodyPost_ret (v := .tuple #[.agg #[.slice as' ln cap',.bool n1,.slice a1' l1 c1,.bool n2,.slice a2' l2 c2],.int .i64 0]) (by simp only [results,Tryz.results12];simp [go_sem,e0,e1,e2,e3,e4]) rfl ?_
 have hrow:=HROW.out
 rw [hln] at hrow
 have hka:Ka w1.heap.size w2 (w.heap.size+1) (.slice as' ln cap') (rowOf (co q) (colsOf q)) cs (.bool n1,.slice a1' l1 c1,.bool n2,.slice a2' l2 c2) qc:=⟨hrow,HNUM.out,HRY.out.bn (ni5 (ni_slice _ _ _) _ _ _ _ _ _ _ _),fun b hb=>by have:=(hrow.own.lt b hb).1;have:=HLT.out;omega⟩
 have hk5:=((((hka.set 0 (ni_slice as' ln cap')).set 1 (ni_bool n1)).set 2 (ni_slice a1' l1 c1)).set 3 (ni_bool n2)).set 4 (ni_slice a2' l2 c2)
 exact ⟨⟨_,rfl,_,cs,(.bool n1,.slice a1' l1 c1,.bool n2,.slice a2' l2 c2),rfl,hk5.row.base (by have:=HLT.out;omega),hk5.num⟩,((((HW2.out.setCell (Nat.le_succ _) _).setCell (Nat.le_succ _) _).setCell (Nat.le_succ _) _).setCell (Nat.le_succ _) _).setCell (Nat.le_succ _) _⟩
end Go.Proofs.YtkhdocdddicgpaaGreatDoor
set_option linter.unusedVariables false
set_option linter.unusedSimpArgs false
namespace Go.Proofs.YtkhdocdddicgpaaGreatDoor
open Go.RowKit Go.Maps _root_.Go.Proofs.YtkhdocdddicgpaaGreatDoor.Nm
set_option maxRecDepth 100000 in
set_option maxHeartbeats 3200000 in
theorem rCoef_any (s:Value) (n1 n2:Bool) (p1 p2:Option Addr) (l1 c1 l2 c2 B m:Nat) (f:Int→Rat) (cs:List C4) (col:Int) (r:Rat) (w:World) (h:RowQ B w s (rowOf f m) cs) (hr:Hid ((if 0≤col∧col<(m:Int) then f col else 0)=r)) :
 Calls Tryz.prog 20 #[.agg #[s,.bool n1,.slice p1 l1 c1,.bool n2,.slice p2 l2 c2],.int .i64 col] w (RRPost r w):=by
 obtain ⟨as',cap',rfl⟩:=h.slice
 rw [rowOf_length]
 rw [rowOf_length] at h
 have hA:=(Below.refl w.heap.size w).alloc (Nat.le_refl _) (.cells #[.slice as' m cap',.bool n1,.slice p1 l1 c1,.bool n2,.slice p2 l2 c2] 35)
 have hA2:=hA.alloc (by simp) (.cells #[.bool false,.slice none 0 0,.bool false,.slice none 0 0] 33)
 have hR:=B4.new (w.alloc (.cells #[.slice as' m cap',.bool n1,.slice p1 l1 c1,.bool n2,.slice p2 l2 c2] 35)) (.bool false) (.slice none 0 0) (.bool false) (.slice none 0 0) 33
 simp only [World.size_alloc] at hR
 have HR0:=Lib.hid hR
 have HW0:=Lib.hid hA2
 have HF0:=Lib.hid ((B5.new w (.slice as' m cap') (.bool n1) (.slice p1 l1 c1) (.bool n2) (.slice p2 l2 c2) 35).keep ((Below.refl _ _).alloc (Nat.le_refl _) (.cells #[.bool false,.slice none 0 0,.bool false,.slice none 0 0] 33)))
 have HQ0:=Lib.hid (h.keep hA)
 have HAA:=Lib.hid hA
 clear hA hA2 hR h
 obtain ⟨a0,a1,a2,a3,a4⟩:=HF0.out.cell
 go_enter Tryz.func20,Tryz.ntmps20
 by_cases hneg:col<0
 · obtain rfl:(0:Rat)=r:=by rw [← hr.out,if_neg (by omega)]
   go_wp2_with fail
   refine (rrInt_zero _).mono ?_
   rintro e w1 ⟨v1,rfl,hr1,hb⟩
   obtain ⟨m1,b1,j1,d1,m2,b2,j2,d2,rfl,hz1,hz2⟩:=hr1
   have HV:Hid (RRef w1 (.agg #[.bool m1,.slice b1 j1 d1,.bool m2,.slice b2 j2 d2]) 0):=Lib.hid ⟨_,_,_,_,_,_,_,_,rfl,hz1,hz2⟩
   have HR1:=Lib.hid (HR0.out.below hb HR0.out.lt)
   have HW1:=Lib.hid (HW0.out.trans (hb.mono HW0.out.size))
   clear hb hz1 hz2 a0 a1 a2 a3 a4
   obtain ⟨k0,k1,k2,k3⟩:=HR1.out.cell
   obtain ⟨f0,f1,f2,f3⟩:=HR1.out.froz
   go_wp2
   obtain ⟨l0,l1',l2',l3'⟩:=(HR1.out.put (.bool m1) (.slice b1 j1 d1) (.bool m2) (.slice b2 j2 d2)).cell
   refine bodyPost_ret (v := .agg #[.bool m1,.slice b1 j1 d1,.bool m2,.slice b2 j2 d2]) (by simp only [results,Tryz.results20];simp [go_sem,l0,l1',l2',l3']) rfl ?_
   exact RRPost.boxed HV.out HR1.out HW1.out (by omega) _ _ _ _
 · by_cases hbig:(m:Int)≤col
   · obtain rfl:(0:Rat)=r:=by rw [← hr.out,if_neg (by omega)]
     go_wp2_with fail
     refine (rrInt_zero _).mono ?_
     rintro e w1 ⟨v1,rfl,hr1,hb⟩
     obtain ⟨m1,b1,j1,d1,m2,b2,j2,d2,rfl,hz1,hz2⟩:=hr1
     have HV:Hid (RRef w1 (.agg #[.bool m1,.slice b1 j1 d1,.bool m2,.slice b2 j2 d2]) 0):=Lib.hid ⟨_,_,_,_,_,_,_,_,rfl,hz1,hz2⟩
     have HR1:=Lib.hid (HR0.out.below hb HR0.out.lt)
     have HW1:=Lib.hid (HW0.out.trans (hb.mono HW0.out.size))
     clear hb hz1 hz2 a0 a1 a2 a3 a4
     obtain ⟨k0,k1,k2,k3⟩:=HR1.out.cell
     obtain ⟨f0,f1,f2,f3⟩:=HR1.out.froz
     go_wp2
     obtain ⟨l0,l1',l2',l3'⟩:=(HR1.out.put (.bool m1) (.slice b1 j1 d1) (.bool m2) (.slice b2 j2 d2)).cell
     refine bodyPost_ret (v := .agg #[.bool m1,.slice b1 j1 d1,.bool m2,.slice b2 j2 d2]) (by simp only [results,Tryz.results20];simp [go_sem,l0,l1',l2',l3']) rfl ?_
     exact RRPost.boxed HV.out HR1.out HW1.out (by omega) _ _ _ _
   · obtain ⟨j,rfl⟩:∃ j:Nat,col=(j:Int):=⟨col.toNat,(Int.toNat_of_nonneg (by omega)).symm⟩
     have hjm:j<m:=by omega
     have hrv:f (j:Int)=r:=by rw [← hr.out,if_pos (by omega)]
     obtain ⟨gr,capr,cr,ev,t0,t1,t2,t3,hrr⟩:=HQ0.out.at j (by rw [rowOf_length];exact hjm)
     rw [rowOf_get,hrv] at hrr
     rw [rowOf_length] at ev
     simp only [Value.slice.injEq,true_and] at ev
     obtain ⟨rfl,rfl⟩:=ev
     obtain ⟨q1,q2,q3,q4,q5,q6,q7,q8,rfl⟩:=hrr.expl
     dsimp only at t0 t1 t2 t3
     have HRR:=Lib.hid hrr
     have hgr:=World.block_lt_of_cell? _ _ t0
     have hB:=(Below.refl (w.alloc (.cells #[.slice (some ⟨gr,0,none⟩) m cap',.bool n1,.slice p1 l1 c1,.bool n2,.slice p2 l2 c2] 35)).heap.size (w.alloc (.cells #[.slice (some ⟨gr,0,none⟩) m cap',.bool n1,.slice p1 l1 c1,.bool n2,.slice p2 l2 c2] 35))).alloc (Nat.le_refl _) (.cells #[.bool false,.slice none 0 0,.bool false,.slice none 0 0] 33)
     have t0:=(hB.cell (p:=⟨gr,j*4,none⟩) hgr).trans t0
     have t1:=(hB.cell (p:=⟨gr,j*4+1,none⟩) hgr).trans t1
     have t2:=(hB.cell (p:=⟨gr,j*4+2,none⟩) hgr).trans t2
     have t3:=(hB.cell (p:=⟨gr,j*4+3,none⟩) hgr).trans t3
     have h1:(0:Int)≤j:=by omega
     have h2:(j:Int)<m:=by omega
     clear hrr hrv hr hB hgr
     obtain ⟨k0,k1,k2,k3⟩:=HR0.out.cell
     obtain ⟨f0,f1,f2,f3⟩:=HR0.out.froz
     go_wp2
     have hN:=B4.new (w.alloc (.cells #[.slice (some ⟨gr,0,none⟩) m cap',.bool n1,.slice p1 l1 c1,.bool n2,.slice p2 l2 c2] 35)) (.bool q1) (.slice q2 q3 q4) (.bool q5) (.slice q6 q7 q8) 33
     simp only [World.size_alloc] at hN
     obtain ⟨e0,e1',e2',e3'⟩:=hN.cell
     refine bodyPost_ret (v := .agg #[.bool q1,.slice q2 q3 q4,.bool q5,.slice q6 q7 q8]) (by simp only [results,Tryz.results20];simp [go_sem,e0,e1',e2',e3']) rfl ?_
     exact ⟨_,rfl,HRR.out.keep ((Below.refl _ _).alloc (Nat.le_refl _) _) (Nat.le_refl _),HAA.out.alloc HAA.out.size _⟩
end Go.Proofs.YtkhdocdddicgpaaGreatDoor
set_option linter.unusedVariables false
set_option linter.unusedSimpArgs false
namespace Go.Proofs.YtkhdocdddicgpaaGreatDoor
open Go.RowKit Go.Maps _root_.Go.Proofs.YtkhdocdddicgpaaGreatDoor.Nm
def formUp (f:Int→Rat) (n:Nat):List Qm:=((List.range n).filter fun (c:Nat)=>decide (f (c:Int)≠0)).map fun (c:Nat)=>((c:Int),f c)
theorem formUp_skip {f:Int→Rat} {n:Nat} (h:f (n:Int)=0):formUp f (n+1)=formUp f n:=by
 unfold formUp
 rw [List.range_succ,List.filter_append,List.filter_cons,if_neg (by simp [h])]
 simp
theorem formUp_add {f:Int→Rat} {n:Nat} (h:f (n:Int)≠0):formUp f (n+1)=formUp f n++[((n:Int),f n)]:=by
 unfold formUp
 rw [List.range_succ,List.filter_append,List.filter_cons,if_pos (by simp [h])]
 simp
theorem co_beyond {q:List Qm} (hq:∀ p∈q,0≤p.1) {c:Nat} (h:colsOf q≤c):co q (c:Int)=0:=by
 refine co_none q _ fun p hp e => ?_
 have h1:=colsUp_mem q 0 p hp
 have h2:=hq p hp
 unfold colsOf at h
 omega
end Go.Proofs.YtkhdocdddicgpaaGreatDoor
set_option linter.unusedVariables false
set_option linter.unusedSimpArgs false
namespace Go.Proofs.YtkhdocdddicgpaaGreatDoor
open Go.RowKit Go.Maps _root_.Go.Proofs.YtkhdocdddicgpaaGreatDoor.Nm
theorem tm_ten {q:List Qm} {K:Nat} (h:∀ t∈tms q,t.2.size≤K) (hq:∀ p∈q,rshort p.2=true):∀ p∈q,RT K p.2:=fun p hp =>
 (txt_is (hq p hp)).ten (h (p.1,txt p.2) (List.mem_map.2 ⟨p,hp,rfl⟩))
theorem co_ten {q:List Qm} (h:∀ t∈tms q,t.2.size≤120) (hq:Fo q) (c:Int):RT 120 (co q c):=by
 by_cases h0:co q c=0
 · rw [h0];exact ⟨⟨0,Nat.zero_le _,by decide⟩,Ten.one (by omega)⟩
 · exact tm_ten h (fun p hp=>(hq.1 p hp).2.1) _ (co_ne q c h0)
end Go.Proofs.YtkhdocdddicgpaaGreatDoor
