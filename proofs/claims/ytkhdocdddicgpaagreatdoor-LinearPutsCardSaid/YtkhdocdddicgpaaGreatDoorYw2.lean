/- Part 2: what the law's walk leans on. -/
import Derived.Test.YtkhdocdddicgpaaGreatDoorYt0
import Derived.Test.YtkhdocdddicgpaaGreatDoorYt1
import Derived.Test.YtkhdocdddicgpaaGreatDoorYt2
import Derived.Test.YtkhdocdddicgpaaGreatDoorYt3
import Derived.Test.YtkhdocdddicgpaaGreatDoorYt4
import Derived.Test.YtkhdocdddicgpaaGreatDoorYt5
import Derived.Test.YtkhdocdddicgpaaGreatDoorYt6
import Derived.Test.YtkhdocdddicgpaaGreatDoorYt7
import Derived.Test.YtkhdocdddicgpaaGreatDoorYt8
import Derived.Test.YtkhdocdddicgpaaGreatDoorYt9
import Derived.Test.YtkhdocdddicgpaaGreatDoorYt10
import Derived.Test.YtkhdocdddicgpaaGreatDoorYt11
import Derived.Test.YtkhdocdddicgpaaGreatDoorYt12
import Derived.Test.YtkhdocdddicgpaaGreatDoorYt13
import Derived.Test.YtkhdocdddicgpaaGreatDoorYt14
import Derived.Test.YtkhdocdddicgpaaGreatDoorYt15
import Derived.Test.YtkhdocdddicgpaaGreatDoorYt16
import Derived.Test.YtkhdocdddicgpaaGreatDoorYt17
import Derived.Test.YtkhdocdddicgpaaGreatDoorYt18
import Derived.Test.YtkhdocdddicgpaaGreatDoorYt19
import Derived.Test.YtkhdocdddicgpaaGreatDoorYt20
import Derived.Test.YtkhdocdddicgpaaGreatDoorYt21
import Derived.Test.YtkhdocdddicgpaaGreatDoorYt22
import Derived.Test.YtkhdocdddicgpaaGreatDoorYt23
import Derived.Test.YtkhdocdddicgpaaGreatDoorYt24
import Derived.Test.YtkhdocdddicgpaaGreatDoorYt25
import Derived.Test.YtkhdocdddicgpaaGreatDoorYt26
import Derived.Test.YtkhdocdddicgpaaGreatDoorYt27
import Derived.Test.YtkhdocdddicgpaaGreatDoorYt28
import Derived.Test.YtkhdocdddicgpaaGreatDoorYt29
import Derived.Test.YtkhdocdddicgpaaGreatDoorYt30
import Derived.Test.YtkhdocdddicgpaaGreatDoorYw1
import Derived.Test.YtkhdocdddicgpaaGreatDoorYw0
import Derived.Maps.OwnSet
import Derived.Maps.RangeWalk
import Derived.Maps.StringElems
import Derived.Sort.Statements
import Derived.Shelf.SlGeneric
import Derived.Shelf.SlicesQ.IndexFunc
import Derived.Ground.SlgfProg
import Derived.Shelf.SlSortCmp.WholeK
import Derived.Ground.SlsfProg
import Derived.Test.YtkhdocdddicgpaaGreatDoorProg
import Derived.Lib.OwnBridge
import Derived.BigQuiet
import Derived.Lib.AppendZeros
import Derived.Laws.AppendOwnNone
import Derived.Deep.RegionWith
import Derived.Shelf.Strings.BuilderX
import Derived.Lib.Strings
import Derived.Lib.Slices
import Derived.Lib.Walk
import Derived.Lib.Builder
import Derived.Lib.AppendStr
import Derived.Lib.UnsafeStr
import Derived.WalkKit
import Derived.Laws.Externs
import Derived.Laws.IdiomCopy
import Derived.Shelf.Strings.BuilderK
import Derived.Laws.Concat
import Derived.Lib.AppendIntMem
set_option linter.unusedVariables false
set_option linter.unusedSimpArgs false
namespace Go.Proofs.YtkhdocdddicgpaaGreatDoor
open Go.RowKit Go.Maps _root_.Go.Proofs.YtkhdocdddicgpaaGreatDoor.Nm
set_option maxRecDepth 100000 in
set_option maxHeartbeats 3200000 in
theorem is_bad (s0 x1 x2 x3 x4:Value) (no:Int) (w:World) (h0:(no != 0)=true) :
 Calls Tryz.prog 14 #[.agg #[.slice none 0 0,.string ⟨#[]⟩],.int .i64 no,.agg #[s0,x1,x2,x3,x4],.int .i64 no] w fun e w'=>e = .returned (.bool true)∧Below w.heap.size w w':=by
 have hA1:=(Below.refl w.heap.size w).alloc (Nat.le_refl _) (.cells #[.slice none 0 0,.string ⟨#[]⟩] 24)
 have hA2:=hA1.alloc (by simp) (.cells #[s0,x1,x2,x3,x4] 35)
 have HB:=Lib.hid ((Bx.new w (.slice none 0 0) (.string ⟨#[]⟩) 24).alloc (.cells #[s0,x1,x2,x3,x4] 35))
 have HW:=Lib.hid hA2
 clear hA1 hA2
 obtain ⟨a0,a1,a2,a3⟩:=HB.out.cell
 go_enter Tryz.func14,Tryz.ntmps14
 go_wp2
 trace_state
 go_ret
 exact ⟨rfl,HW.out⟩
set_option maxRecDepth 100000 in
set_option maxHeartbeats 3200000 in
theorem is_good (ad:Option Addr) (n cap:Nat) (x:ByteArray) (s1:Value) (n1 n2:Bool) (a1 a2:Option Addr) (l1 c1 l2 c2:Nat) (B1 m:Nat) (f:Int→Rat) (cs1:List C4) (rc:Rat) (w:World) (h1:RowQ B1 w s1 (rowOf f m) cs1)
 (hc:RRef w (.agg #[.bool n1,.slice a1 l1 c1,.bool n2,.slice a2 l2 c2]) rc) (hsh:∀ c,rshort (f c)=true) (hcs:rshort rc=true) (hm:m≤2048) (hx:Hid (txt rc=x)) (hv:TsAt w (.slice ad n cap) (tms (formUp f m))) :
 Calls Tryz.prog 14 #[.agg #[.slice ad n cap,.string x],.int .i64 0,.agg #[s1,.bool n1,.slice a1 l1 c1,.bool n2,.slice a2 l2 c2],.int .i64 0] w fun e w'=>e = .returned (.bool true)∧Below w.heap.size w w':=by
 obtain ⟨p1,cap1,hs1⟩:=h1.slice
 rw [rowOf_length] at hs1
 subst hs1
 have hA1:=(Below.refl w.heap.size w).alloc (Nat.le_refl _) (.cells #[.slice ad n cap,.string x] 24)
 have hA2:=hA1.alloc (by simp) (.cells #[.slice p1 m cap1,.bool n1,.slice a1 l1 c1,.bool n2,.slice a2 l2 c2] 35)
 have HB:=Lib.hid ((Bx.new w (.slice ad n cap) (.string x) 24).alloc (.cells #[.slice p1 m cap1,.bool n1,.slice a1 l1 c1,.bool n2,.slice a2 l2 c2] 35))
 have hF:=B5.new (w.alloc (.cells #[.slice ad n cap,.string x] 24)) (.slice p1 m cap1) (.bool n1) (.slice a1 l1 c1) (.bool n2) (.slice a2 l2 c2) 35
 simp only [World.size_alloc] at hF
 have HF:=Lib.hid hF
 have HW:=Lib.hid hA2
 have HQ:=Lib.hid (h1.keep hA2)
 have HC:=Lib.hid (hc.keep hA2 (Nat.le_refl _))
 have HT:=Lib.hid (hv.keep hA2 (Nat.le_refl _))
 have HS:=Lib.hid (And.intro hsh hcs)
 clear hA1 hA2 hF h1 hc hv hsh hcs
 obtain ⟨a0,a1',a2',a3⟩:=HB.out.cell
 obtain ⟨b0,b1,b2,b3,b4⟩:=HF.out.cell
 go_enter Tryz.func14,Tryz.ntmps14
 go_wp2_with fail
 refine (rWrite_good _ _ _ _ _ _ _ _ _ _ m f cs1 rc x _ HQ.out HC.out HS.out.1 HS.out.2 hm hx).mono ?_
 rintro e w2 ⟨⟨ad2,n2',cap2,rfl,hts⟩,hb⟩
 have HT2:=Lib.hid (HT.out.keep hb (Nat.le_refl _))
 have HU2:=Lib.hid hts
 have HB2:=Lib.hid (HB.out.below hb HB.out.lt)
 have HW2:=Lib.hid (HW.out.trans (hb.mono HW.out.size))
 clear hb hts a0 a1' a2' a3 b0 b1 b2 b3 b4
 obtain ⟨a0,a1',a2',a3⟩:=HB2.out.cell
 go_wp2_with fail
 refine (Equal_same ad ad2 n cap n2' cap2 _ _ HT2.out HU2.out (by have:=formUp_length f m;simp [tms];omega)).mono ?_
 rintro e w3 ⟨rfl,hb⟩
 have HB3:=Lib.hid (HB2.out.below hb HB2.out.lt)
 have HW3:=Lib.hid (HW2.out.trans (hb.mono HW2.out.size))
 clear hb a0 a1' a2' a3
 obtain ⟨a0,a1',a2',a3⟩:=HB3.out.cell
 go_wp2
 go_ret
 exact ⟨rfl,HW3.out⟩
end Go.Proofs.YtkhdocdddicgpaaGreatDoor
set_option linter.unusedVariables false
set_option linter.unusedSimpArgs false
namespace Go.Proofs.YtkhdocdddicgpaaGreatDoor
open Go.RowKit Go.Maps _root_.Go.Proofs.YtkhdocdddicgpaaGreatDoor.Nm
theorem sum_all {K L:Nat} {p1 p2:Rat} {q1 q2:List Qm} (hKL:K+L+1≤400) (t1:RT K p1) (t2:RT L p2) (c1:∀ c,RT K (co q1 c)) (c2:∀ c,RT L (co q2 c)) (h1:Fo q1) (h2:Fo q2) :
 sumRes p1 p2 q1 q2=some (fun c=>co q1 c+co q2 c):=by
 unfold sumRes
 rw [if_pos ((t1.add t2).short hKL),acc_append,acc_fo h1]
 show acc (co q1) q2=_
 exact acc_some q2 (co q1) h2.2 fun p hp=>by
  rw [← co_mem q2 h2.2 p hp]
  exact ((c1 _).add (c2 _)).short hKL
theorem scl_all {K L:Nat} {p r:Rat} {q:List Qm} (hKL:K+L≤400) (t1:RT K p) (t2:RT L r) (c1:∀ c,RT K (co q c)) (h:Fo q):sclRes p r q=some (fun c=>co q c*r):=by
 have hall:∀ x∈q,rshort (x.2*r)=true:=fun x hx=>by
  rw [← co_mem q h.2 x hx]
  exact ((c1 _).mul t2).short hKL
 unfold sclRes
 have hok:scOk p r q=true:=by
  unfold scOk
  rw [(t1.mul t2).short hKL,Bool.true_and,List.all_eq_true]
  exact hall
 rw [if_pos hok,acc_some (scl r q) (fun _=>0) (scl_sorted r h.2) (fun x hx=>by
  obtain ⟨y,hy,rfl⟩:=List.mem_map.1 hx
  rw [Rat.zero_add]
  exact hall y hy)]
 congr 1
 funext c
 rw [Rat.zero_add,co_scl]
theorem formOf_cut {f:Int→Rat} {m:Nat} (h0:∀ c,(m:Int)≤c→f c=0) (hm:m≤2048):formOf f=formUp f m:=by
 have key:∀ d:Nat,formUp f (m+d)=formUp f m:=by
  intro d
  induction d with
  | zero=>rfl
  | succ d ih=>rw [← Nat.add_assoc,formUp_skip (h0 _ (by omega)),ih]
 have h:=key (2048-m)
 rw [show m+(2048-m)=2048 from by omega] at h
 exact h
theorem co_past {q:List Qm} (h:Fo q):∀ c,(colsOf q:Int)≤c→co q c=0:=fun c hc=>by
 obtain ⟨j,rfl⟩:∃ j:Nat,c=(j:Int):=⟨c.toNat,(Int.toNat_of_nonneg (by omega)).symm⟩
 exact co_beyond (fun p hp=>(h.1 p hp).1.1) (by omega)
theorem fo_cols {q:List Qm} (h:Fo q):colsOf q≤2048:=colsUp_bound q 0 (by omega) (fun p hp=>(h.1 p hp).1)
def zf:Int→Rat:=fun _=>0
theorem ten0:Ten 400 0:=⟨0,Nat.zero_le _,by decide⟩
end Go.Proofs.YtkhdocdddicgpaaGreatDoor
set_option linter.unusedVariables false
set_option linter.unusedSimpArgs false
namespace Go.Proofs.YtkhdocdddicgpaaGreatDoor
open Go.RowKit Go.Maps _root_.Go.Proofs.YtkhdocdddicgpaaGreatDoor.Nm
structure BF (B:Nat) (W:World) (bp:Nat) (s:Value) (m1:Bool) (b1:Option Addr) (j1 d1:Nat) (m2:Bool) (b2:Option Addr) (j2 d2:Nat) (qs:List Rat) (cs:List C4) (r:Rat):Prop where
 box:B5 W bp s (.bool m1) (.slice b1 j1 d1) (.bool m2) (.slice b2 j2 d2)
 row:RowQ B W s qs cs
 num:RRef W (.agg #[.bool m1,.slice b1 j1 d1,.bool m2,.slice b2 j2 d2]) r
 ne:∀ b,s.ownBlock=some b→b≠bp
theorem BF.keep {B:Nat} {W W':World} {bp:Nat} {s:Value} {m1 m2:Bool} {b1 b2:Option Addr} {j1 d1 j2 d2:Nat} {qs:List Rat} {cs:List C4} {r:Rat} (h:BF B W bp s m1 b1 j1 d1 m2 b2 j2 d2 qs cs r) (hb:Below W.heap.size W W'):BF B W' bp s m1 b1 j1 d1 m2 b2 j2 d2 qs cs r :=
 ⟨h.box.keep hb,h.row.keep hb,h.num.keep hb (Nat.le_refl _),h.ne⟩
theorem BF.new {B:Nat} {W:World} {s:Value} {m1 m2:Bool} {b1 b2:Option Addr} {j1 d1 j2 d2:Nat} {qs:List Rat} {cs:List C4} {r:Rat} (T:TypeId) (h:RowQ B W s qs cs) (hn:RRef W (.agg #[.bool m1,.slice b1 j1 d1,.bool m2,.slice b2 j2 d2]) r) :
 BF B (W.alloc (.cells #[s,.bool m1,.slice b1 j1 d1,.bool m2,.slice b2 j2 d2] T)) W.heap.size s m1 b1 j1 d1 m2 b2 j2 d2 qs cs r :=
 ⟨B5.new W _ _ _ _ _ T,h.keep ((Below.refl _ _).alloc (Nat.le_refl _) _),hn.keep ((Below.refl _ _).alloc (Nat.le_refl _) _) (Nat.le_refl _),fun b hb=>by have:=(h.own.lt b hb).2;omega⟩
theorem BF.put {B:Nat} {W:World} {bp:Nat} {s x:Value} {m1 m2:Bool} {b1 b2:Option Addr} {j1 d1 j2 d2:Nat} {qs:List Rat} {cs:List C4} {r:Rat} {y1 y2:Bool} {z1 z2:Option Addr} {u1 v1 u2 v2:Nat} (hx:NI x) (hb:B5 W bp x (.bool y1) (.slice z1 u1 v1) (.bool y2) (.slice z2 u2 v2)) (h:RowQ B W s qs cs) (hn:RRef W (.agg #[.bool m1,.slice b1 j1 d1,.bool m2,.slice b2 j2 d2]) r) (hne:∀ b,s.ownBlock=some b→b≠bp) :
 BF B (((((W.setCell ⟨bp,0,none⟩ s).setCell ⟨bp,1,none⟩ (.bool m1)).setCell ⟨bp,2,none⟩ (.slice b1 j1 d1)).setCell ⟨bp,3,none⟩ (.bool m2)).setCell ⟨bp,4,none⟩ (.slice b2 j2 d2)) bp s m1 b1 j1 d1 m2 b2 j2 d2 qs cs r:=by
 have hka:Ka B W bp s qs cs (.bool m1,.slice b1 j1 d1,.bool m2,.slice b2 j2 d2) r:=⟨h,hn,hb.bn (ni5 hx _ _ _ _ _ _ _ _),hne⟩
 have hk5:=((((hka.set 0 h.niv).set 1 (ni_bool m1)).set 2 (ni_slice b1 j1 d1)).set 3 (ni_bool m2)).set 4 (ni_slice b2 j2 d2)
 exact ⟨hb.store s _ _ _ _,hk5.row,hk5.num,hne⟩
theorem zero_row (B:Nat) (W:World) {v:Value} {cs:List C4} (h:RowQ B W v (List.replicate 0 0) cs):RowQ B W v (rowOf zf 0) cs:=h
theorem FormQ.opened {W:World} {B:Nat} {v:Value} {qs:List Rat} {r:Rat} (h:FormQ W B v qs r):∃ s cs m1 b1 j1 d1 m2 b2 j2 d2,v = .agg #[s,.bool m1,.slice b1 j1 d1,.bool m2,.slice b2 j2 d2]∧RowQ B W s qs cs∧RRef W (.agg #[.bool m1,.slice b1 j1 d1,.bool m2,.slice b2 j2 d2]) r:=by
 obtain ⟨s,cs,c,rfl,h1,h2⟩:=h
 obtain ⟨m1,b1,j1,d1,m2,b2,j2,d2,rfl⟩:=h2.expl
 exact ⟨s,cs,m1,b1,j1,d1,m2,b2,j2,d2,rfl,h1,h2⟩
theorem rt_nil:RT 400 (0:Rat):=⟨ten0,Ten.one (by omega)⟩
theorem rfAdd_zero (s1 s2:Value) (n1 n2:Bool) (a1 a2:Option Addr) (l1 c1 l2 c2:Nat) (m1 m2:Bool) (b1 b2:Option Addr) (j1 d1 j2 d2:Nat) (B1 B2 m:Nat) (f:Int→Rat) (cs1 cs2:List C4) (pa:Rat) (w:World)
 (h1:RowQ B1 w s1 (rowOf f m) cs1) (h2:RowQ B2 w s2 (List.replicate 0 0) cs2) (hca:RRef w (.agg #[.bool n1,.slice a1 l1 c1,.bool n2,.slice a2 l2 c2]) pa) (hcb:RRef w (.agg #[.bool m1,.slice b1 j1 d1,.bool m2,.slice b2 j2 d2]) 0)
 (hf0:∀ c,(m:Int)≤c→f c=0) (htf:∀ c,RT 120 (f c)) (hta:RT 120 pa) (hm:m≤2048) :
 Calls Tryz.prog 15 #[.agg #[s1,.bool n1,.slice a1 l1 c1,.bool n2,.slice a2 l2 c2],.agg #[s2,.bool m1,.slice b1 j1 d1,.bool m2,.slice b2 j2 d2]] w fun e w'=>(∃ sp sc cs o1 e1 f1 g1 o2 e2 f2 g2,e = .returned (.agg #[.slice sp m sc,.bool o1,.slice e1 f1 g1,.bool o2,.slice e2 f2 g2])∧RowQ w.heap.size w' (.slice sp m sc) (rowOf f m) cs∧RRef w' (.agg #[.bool o1,.slice e1 f1 g1,.bool o2,.slice e2 f2 g2]) pa)∧Below w.heap.size w w':=by
 refine (rfAdd_any s1 s2 n1 n2 a1 a2 l1 c1 l2 c2 m1 m2 b1 b2 j1 d1 j2 d2 B1 B2 m 0 f zf cs1 cs2 pa w h1 (zero_row _ _ h2) hf0 (fun c _=>rfl) (fun c=>(htf c).mono (by omega)) (fun c=>rt_nil) hm (by omega)
  (fun W hb=>rrAdd_any _ _ pa 0 400 pa W (hca.keep hb (Nat.le_refl _)) (hcb.keep hb (Nat.le_refl _)) (hta.mono (by omega)) rt_nil (Nat.le_refl _) (Lib.hid (Rat.add_zero pa)))).mono ?_
 rintro e w' ⟨⟨v,rfl,hf⟩,hb⟩
 obtain ⟨s,cs,o1,e1,f1,g1,o2,e2,f2,g2,rfl,hr,hn⟩:=hf.opened
 have he:(fun c=>f c+zf c)=f:=by funext c;exact Rat.add_zero (f c)
 rw [he,Nat.max_zero] at hr
 obtain ⟨sp,sc,hs⟩:=hr.slice
 rw [rowOf_length] at hs
 subst hs
 exact ⟨⟨sp,sc,cs,o1,e1,f1,g1,o2,e2,f2,g2,rfl,hr,hn⟩,hb⟩
theorem rfScale_put (s1:Value) (n1 n2:Bool) (a1 a2:Option Addr) (l1 c1 l2 c2:Nat) (m1 m2:Bool) (b1 b2:Option Addr) (j1 d1 j2 d2:Nat) (B1 n:Nat) (g:Int→Rat) (cs1:List C4) (pb y:Rat) (w:World)
 (h1:RowQ B1 w s1 (rowOf g n) cs1) (hca:RRef w (.agg #[.bool n1,.slice a1 l1 c1,.bool n2,.slice a2 l2 c2]) pb) (hcb:RRef w (.agg #[.bool m1,.slice b1 j1 d1,.bool m2,.slice b2 j2 d2]) y) (htg:∀ c,RT 120 (g c)) (hty:RT 120 y) (htb:RT 120 pb) (hn:n≤2048) :
 Calls Tryz.prog 18 #[.agg #[s1,.bool n1,.slice a1 l1 c1,.bool n2,.slice a2 l2 c2],.agg #[.bool m1,.slice b1 j1 d1,.bool m2,.slice b2 j2 d2]] w fun e w'=>(∃ sp sc cs o1 e1 f1 g1 o2 e2 f2 g2,e = .returned (.agg #[.slice sp n sc,.bool o1,.slice e1 f1 g1,.bool o2,.slice e2 f2 g2])∧RowQ w.heap.size w' (.slice sp n sc) (rowOf (fun c=>g c*y) n) cs∧RRef w' (.agg #[.bool o1,.slice e1 f1 g1,.bool o2,.slice e2 f2 g2]) (pb*y))∧Below w.heap.size w w':=by
 refine (rfScale_any s1 n1 n2 a1 a2 l1 c1 l2 c2 m1 m2 b1 b2 j1 d1 j2 d2 B1 n g cs1 y (pb*y) w h1 hcb (fun c=>(htg c).mono (by omega)) (hty.mono (by omega)) hn
  (fun W hb=>rrMul_any _ _ pb y 120 (pb*y) W (hca.keep hb (Nat.le_refl _)) (hcb.keep hb (Nat.le_refl _)) htb hty (by omega) (Lib.hid rfl))).mono ?_
 rintro e w' ⟨⟨v,rfl,hf⟩,hb⟩
 obtain ⟨s,cs,o1,e1,f1,g1,o2,e2,f2,g2,rfl,hr,hn⟩:=hf.opened
 obtain ⟨sp,sc,hs⟩:=hr.slice
 rw [rowOf_length] at hs
 subst hs
 exact ⟨⟨sp,sc,cs,o1,e1,f1,g1,o2,e2,f2,g2,rfl,hr,hn⟩,hb⟩
set_option maxRecDepth 100000 in
set_option maxHeartbeats 12800000 in
theorem rPut_any (s1 s2:Value) (n1 n2:Bool) (a1 a2:Option Addr) (l1 c1 l2 c2:Nat) (m1 m2:Bool) (b1 b2:Option Addr) (j1 d1 j2 d2:Nat) (B1 B2 m n:Nat) (f g:Int→Rat) (cs1 cs2:List C4) (pa pb:Rat) (j:Nat) (w:World)
 (h1:RowQ B1 w s1 (rowOf f m) cs1) (h2:RowQ B2 w s2 (rowOf g n) cs2) (hca:RRef w (.agg #[.bool n1,.slice a1 l1 c1,.bool n2,.slice a2 l2 c2]) pa) (hcb:RRef w (.agg #[.bool m1,.slice b1 j1 d1,.bool m2,.slice b2 j2 d2]) pb)
 (hf0:∀ c,(m:Int)≤c→f c=0) (hg0:∀ c,(n:Int)≤c→g c=0) (htf:∀ c,RT 120 (f c)) (htg:∀ c,RT 120 (g c)) (hta:RT 120 pa) (htb:RT 120 pb) (hm:m≤2048) (hn:n≤2048) (hj:j<2048) :
 Calls Tryz.prog 26 #[.agg #[s1,.bool n1,.slice a1 l1 c1,.bool n2,.slice a2 l2 c2],.int .i64 j,.agg #[s2,.bool m1,.slice b1 j1 d1,.bool m2,.slice b2 j2 d2]] w fun e w'=>(∃ v,e = .returned (.tuple #[v,.bool true])∧FormQ w' w.heap.size v (rowOf (fun c=>(if c=(j:Int) then 0 else f c)+g c*f j) (max m n)) (pa+pb*f j))∧Below w.heap.size w w':=by
 obtain ⟨p1,cap1,hs1⟩:=h1.slice
 rw [rowOf_length] at hs1
 subst hs1
 obtain ⟨p2,cap2,hs2⟩:=h2.slice
 rw [rowOf_length] at hs2
 subst hs2
 have hA1:=(Below.refl w.heap.size w).alloc (Nat.le_refl _) (.cells #[.slice p1 m cap1,.bool n1,.slice a1 l1 c1,.bool n2,.slice a2 l2 c2] 35)
 have hA2:=hA1.alloc (by simp) (.cells #[.slice p2 n cap2,.bool m1,.slice b1 j1 d1,.bool m2,.slice b2 j2 d2] 35)
 have hA3:=hA2.alloc (by simp;omega) (.cells #[.slice none 0 0,.bool false,.slice none 0 0,.bool false,.slice none 0 0] 35)
 have hBA:=((B5.new w (.slice p1 m cap1) (.bool n1) (.slice a1 l1 c1) (.bool n2) (.slice a2 l2 c2) 35).keep ((Below.refl _ _).alloc (Nat.le_refl _) (.cells #[.slice p2 n cap2,.bool m1,.slice b1 j1 d1,.bool m2,.slice b2 j2 d2] 35))).keep ((Below.refl _ _).alloc (Nat.le_refl _) (.cells #[.slice none 0 0,.bool false,.slice none 0 0,.bool false,.slice none 0 0] 35))
 have hBB0:=B5.new (w.alloc (.cells #[.slice p1 m cap1,.bool n1,.slice a1 l1 c1,.bool n2,.slice a2 l2 c2] 35)) (.slice p2 n cap2) (.bool m1) (.slice b1 j1 d1) (.bool m2) (.slice b2 j2 d2) 35
 have hBB:=hBB0.keep ((Below.refl _ _).alloc (Nat.le_refl _) (.cells #[.slice none 0 0,.bool false,.slice none 0 0,.bool false,.slice none 0 0] 35))
 have hBZ:=B5.new ((w.alloc (.cells #[.slice p1 m cap1,.bool n1,.slice a1 l1 c1,.bool n2,.slice a2 l2 c2] 35)).alloc (.cells #[.slice p2 n cap2,.bool m1,.slice b1 j1 d1,.bool m2,.slice b2 j2 d2] 35)) (.slice none 0 0) (.bool false) (.slice none 0 0) (.bool false) (.slice none 0 0) 35
 simp only [World.size_alloc] at hBB hBZ
 obtain ⟨w3,hw3⟩:∃ w3,((w.alloc (.cells #[.slice p1 m cap1,.bool n1,.slice a1 l1 c1,.bool n2,.slice a2 l2 c2] 35)).alloc (.cells #[.slice p2 n cap2,.bool m1,.slice b1 j1 d1,.bool m2,.slice b2 j2 d2] 35)).alloc (.cells #[.slice none 0 0,.bool false,.slice none 0 0,.bool false,.slice none 0 0] 35)=w3:=⟨_,rfl⟩
 have hsz:w3.heap.size=w.heap.size+3:=by rw [← hw3];simp
 rw [hw3] at hA3 hBA hBB hBZ
 have HBA:=Lib.hid hBA
 have HBB:=Lib.hid hBB
 have HBZ:=Lib.hid hBZ
 have HW3:=Lib.hid hA3
 have HQ1:=Lib.hid (h1.keep hA3)
 have HQ2:=Lib.hid (h2.keep hA3)
 have HCA:=Lib.hid (hca.keep hA3 (Nat.le_refl _))
 have HCB:=Lib.hid (hcb.keep hA3 (Nat.le_refl _))
 have HF:=Lib.hid (And.intro hf0 hg0)
 have HT:=Lib.hid (And.intro htf (And.intro htg (And.intro hta htb)))
 have HS3:=Lib.hid (And.intro trivial hsz)
 have hlt3:w.heap.size<w3.heap.size:=by omega
 clear hA1 hA2 hA3 hBA hBB0 hBB hBZ h1 h2 hca hcb hf0 hg0 htf htg hta htb hsz
 obtain ⟨x0,x1,x2,x3,x4⟩:=HBA.out.cell
 go_enter Tryz.func26,Tryz.ntmps26
 go_wp2_with fail
 go_cut [8] (fun pv wx=>∃ (bp:Nat) (s:Value) (cs:List C4) (Bx:Nat) (o1:Bool) (e1:Option Addr) (f1 g1:Nat) (o2:Bool) (e2:Option Addr) (f2 g2:Nat),pv = .pointer (some ⟨bp,0,none⟩)∧Hid (BF Bx wx bp s o1 e1 f1 g1 o2 e2 f2 g2 (rowOf f m) cs pa)∧Hid (w3.heap.size≤Bx)∧Hid (Below w3.heap.size w3 wx)∧Hid (w3.heap.size≤bp))
 case first =>
  go_region_held3 (fun w'=>w'.cell? ⟨w.heap.size,0,none⟩=some (.slice p1 m cap1)∧w'.cell? ⟨w.heap.size,1,none⟩=some (.bool n1)∧w'.cell? ⟨w.heap.size,2,none⟩=some (.slice a1 l1 c1)∧w'.cell? ⟨w.heap.size,3,none⟩=some (.bool n2)∧w'.cell? ⟨w.heap.size,4,none⟩=some (.slice a2 l2 c2)) (first | ((try dsimp only);(repeat' apply And.intro);all_goals with_reducible assumption) | go_keep) (first | (go_at_call 39;refine (rZero_any 0 _ (by omega)).mono ?_;rintro e w5 ⟨⟨v5,rfl,hf5⟩,hb5⟩;obtain ⟨s5,cs5,z1,z2,z3,z4,z5,z6,z7,z8,rfl,hr5,hn5⟩:=hf5.opened;have hb7:Below w3.heap.size w3 w5:=(by first | exact (Below.refl _ w3).drew.trans hb5 | exact (((Below.refl _ w3).drew).alloc (Nat.le_refl _) _).trans (hb5.mono (by simp)));have U0:=(hb7.cell (p:=⟨w.heap.size,0,none⟩) hlt3).trans x0;have U1:=(hb7.cell (p:=⟨w.heap.size,1,none⟩) hlt3).trans x1;have U2:=(hb7.cell (p:=⟨w.heap.size,2,none⟩) hlt3).trans x2;have U3:=(hb7.cell (p:=⟨w.heap.size,3,none⟩) hlt3).trans x3;have U4:=(hb7.cell (p:=⟨w.heap.size,4,none⟩) hlt3).trans x4;have HB5:=Lib.hid hb7;have HR5:=Lib.hid hr5;have HN5:=Lib.hid hn5;have hlt5:w.heap.size<w5.heap.size:=Nat.lt_of_lt_of_le hlt3 hb7.size;(first | (have HX5:=Lib.hid ((show B5 ((w3.alloc (.cells #[.slice none 0 0,.bool false,.slice none 0 0,.bool false,.slice none 0 0] 35)).drew) w3.heap.size (.slice none 0 0) (.bool false) (.slice none 0 0) (.bool false) (.slice none 0 0) from B5.new w3 (.slice none 0 0) (.bool false) (.slice none 0 0) (.bool false) (.slice none 0 0) 35).keep hb5)) | skip);clear hb5 hb7 hr5 hn5 x0 x1 x2 x3 x4) | (go_at_call 15;refine (rfAdd_zero _ s5 n1 n2 a1 a2 l1 c1 l2 c2 z1 z5 z2 z6 z3 z4 z7 z8 _ _ m f cs1 cs5 pa _ (by first | exact HQ1.out.keep HB5.out | exact HQ1.out.keep (HB5.out.alloc HB5.out.size _)) (by first | exact HR5.out | exact HR5.out.keep ((Below.refl _ _).alloc (Nat.le_refl _) _)) (by first | exact HCA.out.keep HB5.out (Nat.le_refl _) | exact HCA.out.keep (HB5.out.alloc HB5.out.size _) (Nat.le_refl _)) (by first | exact HN5.out | exact HN5.out.keep ((Below.refl _ _).alloc (Nat.le_refl _) _) (Nat.le_refl _)) HF.out.1 HT.out.1 HT.out.2.2.1 hm).mono ?_;rintro e w6 ⟨⟨sp,sc,cs6,o1,e1,f1,g1,o2,e2,f2,g2,rfl,hr6,hn6⟩,hb6⟩;have hb8:Below w3.heap.size w3 w6:=(by first | exact HB5.out.trans (hb6.mono HB5.out.size) | exact (HB5.out.alloc HB5.out.size _).trans (hb6.mono (by have:=HB5.out.size;simp;omega)));have HB6:=Lib.hid hb8;have HR6:=Lib.hid hr6;have HN6:=Lib.hid hn6;have hV:=(HBA.out.keep hb8).cell;obtain ⟨U0,U1,U2,U3,U4⟩:=hV;have hlt6:w.heap.size<w6.heap.size:=Nat.lt_of_lt_of_le hlt3 hb8.size;have hltB:w.heap.size<w5.heap.size:=Nat.lt_of_lt_of_le hlt3 HB5.out.size;(first | (have HX6:=Lib.hid (HX5.out.keep hb6);have HNE:=Lib.hid HX5.out.lt) | (have HX6:=Lib.hid ((B5.new w5 (.slice none 0 0) (.bool false) (.slice none 0 0) (.bool false) (.slice none 0 0) 35).keep hb6);have HNE:=Lib.hid (B5.new w5 (.slice none 0 0) (.bool false) (.slice none 0 0) (.bool false) (.slice none 0 0) 35).lt) | skip);(first | (obtain ⟨y0,y1,y2,y3,y4⟩:=HX6.out.cell;obtain ⟨r0,r1,r2,r3,r4⟩:=HX6.out.froz) | skip);(first | (have hZ:=HX5;clear hZ;have hO:=(((((Only.refl w3.heap.size w6).set 0 (.slice sp m sc)).set 1 (.bool o1)).set 2 (.slice e1 f1 g1)).set 3 (.bool o2)).set 4 (.slice e2 f2 g2);have V0:=(hO.cell w.heap.size 0 (Nat.ne_of_lt hlt3)).trans U0;have V1:=(hO.cell w.heap.size 1 (Nat.ne_of_lt hlt3)).trans U1;have V2:=(hO.cell w.heap.size 2 (Nat.ne_of_lt hlt3)).trans U2;have V3:=(hO.cell w.heap.size 3 (Nat.ne_of_lt hlt3)).trans U3;have V4:=(hO.cell w.heap.size 4 (Nat.ne_of_lt hlt3)).trans U4;clear hO) | (have hO:=(((((Only.refl w5.heap.size w6).set 0 (.slice sp m sc)).set 1 (.bool o1)).set 2 (.slice e1 f1 g1)).set 3 (.bool o2)).set 4 (.slice e2 f2 g2);have V0:=(hO.cell w.heap.size 0 (Nat.ne_of_lt hltB)).trans U0;have V1:=(hO.cell w.heap.size 1 (Nat.ne_of_lt hltB)).trans U1;have V2:=(hO.cell w.heap.size 2 (Nat.ne_of_lt hltB)).trans U2;have V3:=(hO.cell w.heap.size 3 (Nat.ne_of_lt hltB)).trans U3;have V4:=(hO.cell w.heap.size 4 (Nat.ne_of_lt hltB)).trans U4;clear hO));clear hb6 hb8 hr6 hn6))
  all_goals (go_wp2_with fail;go_meet;case rel=>first | exact ⟨_,_,cs6,_,o1,e1,f1,g1,o2,e2,f2,g2,rfl,Lib.hid (BF.put (ni_slice none 0 0) HX6.out HR6.out HN6.out (fun b hb=>by have:=(HR6.out.own.lt b hb).1;have:=HNE.out;omega)),Lib.hid (by have:=HB5.out.size;first | exact this | (simp;omega)),Lib.hid (HB6.out.trans ((((((Only.refl _ _).set 0 (.slice sp m sc)).set 1 (.bool o1)).set 2 (.slice e1 f1 g1)).set 3 (.bool o2)).set 4 (.slice e2 f2 g2) |>.below (by first | exact Nat.le_refl _ | exact HB5.out.size))),Lib.hid (by first | exact Nat.le_refl _ | exact HB5.out.size)⟩ | exact ⟨_,_,cs6,_,o1,e1,f1,g1,o2,e2,f2,g2,rfl,Lib.hid (BF.new _ HR6.out HN6.out),Lib.hid HB5.out.size,Lib.hid (HB6.out.alloc HB6.out.size _),Lib.hid HB6.out.size⟩)
 case rest =>
  obtain ⟨bp,s6,cs6,Bx,o1,e1,f1,g1,o2,e2,f2,g2,rfl,HBF,HBX,HWP,HBQ⟩:=hcut
  obtain ⟨sp,sc,hs6⟩:=HBF.out.row.slice
  rw [rowOf_length] at hs6
  subst hs6
  obtain ⟨k0,k1,k2,k3,k4⟩:=HBF.out.box.cell
  have hj0:(0:Int)≤j:=by omega
  clear x0 x1 x2 x3 x4
  go_upto_if 24 with fail
  go_cut [8] (fun pv wx=>∃ (cs:List C4),pv = .pointer (some ⟨bp,0,none⟩)∧Hid (BF Bx wx bp (.slice sp m sc) o1 e1 f1 g1 o2 e2 f2 g2 (rowOf (upd f (j:Int) 0) m) cs pa)∧Hid (Below w3.heap.size w3 wx))
  case first =>
   by_cases hjm:j<m
   · have hjm':(j:Int)<m:=by omega
     have hkM:j*4+3<m*4:=by omega
     obtain ⟨gr,capr,cr,ev,t0,t1,t2,t3,hrr⟩:=HBF.out.row.at j (by rw [rowOf_length];exact hjm)
     rw [rowOf_length] at ev
     simp only [Value.slice.injEq,true_and] at ev
     obtain ⟨rfl,rfl⟩:=ev
     have hgne:gr≠bp:=HBF.out.ne gr rfl
     have hgB:Bx≤gr:=(HBF.out.row.own.lt gr rfl).1
     have hSW:∀ W',Below wc.heap.size wc W'→W'.cell? ⟨bp,0,none⟩=some (.slice (some ⟨gr,0,none⟩) m sc):=fun W' hb=>(hb.cell HBF.out.box.lt).trans HBF.out.box.cell.1
     have HSW:=Lib.hid hSW
     have hS0:=HSW.out wc.drew (Below.refl _ wc).drew
     clear hSW hrr t0 t1 t2 t3
     go_wp2_with fail
     refine region_plainX (S:=fun W'=>W'.cell? ⟨bp,0,none⟩=some (.slice (some ⟨gr,0,none⟩) m sc)) (m:=5) (by kernel_rfl) ?_
     refine x_take (i:=0) (v := .pointer (some ⟨bp,0,none⟩)) rfl rfl (by kernel_rfl) (by kernel_rfl) (by kernel_rfl) (by kernel_rfl) (fun _ _ _ h=>h) (.inl ⟨by rfl,?_⟩) hS0 ?_
     · intro w hSw;(try dsimp only at hSw);go_simp
     simp only [Act.put,List.setIfInBounds_toArray,List.set_cons_zero,List.set_cons_succ]
     refine x_take (i:=1) (v := .slice (some ⟨gr,0,none⟩) m sc) rfl rfl (by kernel_rfl) (by kernel_rfl) (by kernel_rfl) (by kernel_rfl) (fun _ _ _ h=>h) (.inl ⟨by rfl,?_⟩) hS0 ?_
     · intro w hSw;(try dsimp only at hSw);go_simp
     simp only [Act.put,List.setIfInBounds_toArray,List.set_cons_zero,List.set_cons_succ]
     refine x_take (i:=2) (v := .int .i64 j) rfl rfl (by kernel_rfl) (by kernel_rfl) (by kernel_rfl) (by kernel_rfl) (fun _ _ _ h=>h) (.inl ⟨by rfl,?_⟩) hS0 ?_
     · intro w hSw;(try dsimp only at hSw);go_simp
     simp only [Act.put,List.setIfInBounds_toArray,List.set_cons_zero,List.set_cons_succ]
     refine x_one (i:=3) (by kernel_rfl) rfl (fun K' hK' => ?_)
     go_simp
     refine (rrInt_zero _).mono ?_
     rintro e w9 ⟨v9,rfl,hr9,hb9⟩
     have hby:Below wc.heap.size wc w9:=(Below.refl wc.heap.size wc).drew.trans (hb9.mono (Below.refl wc.heap.size wc).drew.size)
     obtain ⟨D1,D2,D3,D4,D5,D6,D7,D8,rfl,z1,z2⟩:=hr9
     have hr9:RRef w9 (agg4 (.bool D1,.slice D2 D3 D4,.bool D5,.slice D6 D7 D8)) 0:=⟨_,_,_,_,_,_,_,_,rfl,z1,z2⟩
     have hrow9:=HBF.out.row.keep hby
     obtain ⟨hrow10,hoff⟩:=hrow9.set j (by rw [rowOf_length];omega) hr9
     rw [rowOf_set] at hrow10
     dsimp only at hrow10 hoff
     have HBF10:=Lib.hid (BF.mk ((HBF.out.box.keep hby).same (heap_set4 w9 gr (j*4) (j*4+1) (j*4+2) (j*4+3) (.bool D1) (.slice D2 D3 D4) (.bool D5) (.slice D6 D7 D8) bp (fun e=>hgne e.symm))) hrow10 (hoff (HBF.out.num.keep hby (Nat.le_refl _))) HBF.out.ne)
     have HW10:=Lib.hid (below_set4 (HWP.out.trans (hby.mono HWP.out.size)) gr (j*4) (j*4+1) (j*4+2) (j*4+3) (.bool D1) (.slice D2 D3 D4) (.bool D5) (.slice D6 D7 D8) (by have:=HBX.out;omega))
     have hS9:=HSW.out _ hby
     have F0:=hrow9.froz (j*4)
     have F1:=hrow9.froz (j*4+1)
     have F2:=hrow9.froz (j*4+2)
     have F3:=hrow9.froz (j*4+3)
     obtain ⟨gr',capr',cr',ev',u0,u1,u2,u3,_⟩:=hrow9.at j (by rw [rowOf_length];omega)
     simp only [Value.slice.injEq,Option.some.injEq,Addr.mk.injEq,and_true] at ev'
     obtain ⟨rfl,hcapr⟩:=ev'
     clear hcapr
     dsimp only
     refine hK'.out _ _ (fun _=>hS9) ?_
     clear hK' K' z1 z2 hrow10 hoff hrow9 hr9
     refine x_one (i:=4) (by kernel_rfl) rfl (fun K' hK' => ?_)
     go_simp
     refine hK'.out _ _ (fun _=>hS9) ?_
     clear hK' K'
     refine x_one (i:=5) (by kernel_rfl) rfl (fun K' hK' => ?_)
     go_simp
     refine hK'.out _ _ (fun h=>absurd rfl h) ?_
     clear hK' K' hS9 F0 F1 F2 F3 hS0 u0 u1 u2 u3
     refine x_done (by kernel_rfl) ?_ _
     go_wp2_with fail
     go_meet
     case rel=>exact ⟨_,rfl,HBF10,HW10⟩
   · have hjm':¬ (j:Int)<m:=by omega
     have HBF10:Hid (BF Bx wc bp (.slice sp m sc) o1 e1 f1 g1 o2 e2 f2 g2 (rowOf (upd f (j:Int) 0) m) cs6 pa):=Lib.hid (by
      have he:rowOf (upd f (j:Int) 0) m=rowOf f m:=by
       unfold rowOf
       refine List.map_congr_left fun i hi => ?_
       rw [List.mem_range] at hi
       exact upd_other _ _ (by omega)
      rw [he];exact HBF.out)
     go_wp2_with fail
     go_meet
     case rel=>exact ⟨cs6,rfl,HBF10,HWP⟩
  case rest =>
   obtain ⟨cs7,rfl,HBF7,HW7⟩:=hcut
   obtain ⟨w7,hw7⟩:∃ w7,w7=wc:=⟨_,rfl⟩
   subst hw7
   have HBA7:=Lib.hid (HBA.out.keep HW7.out)
   have HBB7:=Lib.hid (HBB.out.keep HW7.out)
   have HQA7:=Lib.hid (HQ1.out.keep HW7.out)
   have HQB7:=Lib.hid (HQ2.out.keep HW7.out)
   have HCA7:=Lib.hid (HCA.out.keep HW7.out (Nat.le_refl _))
   have HCB7:=Lib.hid (HCB.out.keep HW7.out (Nat.le_refl _))
   have HCF:Hid ((if 0≤(j:Int)∧(j:Int)<(m:Int) then f j else 0)=f j):=Lib.hid (by
    by_cases h:(j:Int)<(m:Int)
    · rw [if_pos ⟨by omega,h⟩]
    · rw [if_neg (fun x=>h x.2),HF.out.1 _ (by omega)])
   have hltA:=HBA7.out.lt
   have hltB:=HBB7.out.lt
   obtain ⟨x0,x1,x2,x3,x4⟩:=HBA7.out.cell
   obtain ⟨q0,q1,q2,q3,q4⟩:=HBB7.out.cell
   clear k0 k1 k2 k3 k4
   go_wp2_with fail
   go_cut [9] (fun pv wx=>∃ (bq:Nat) (tp:Option Addr) (tc:Nat) (cs:List C4) (By:Nat) (O1:Bool) (E1:Option Addr) (F1 G1:Nat) (O2:Bool) (E2:Option Addr) (F2 G2:Nat),pv = .pointer (some ⟨bq,0,none⟩)∧Hid (BF By wx bq (.slice tp n tc) O1 E1 F1 G1 O2 E2 F2 G2 (rowOf (fun c=>g c*f j) n) cs (pb*f j))∧Hid (w7.heap.size≤By)∧Hid (Below w7.heap.size w7 wx)∧Hid (w7.heap.size≤bq))
   case first =>
    go_region_held3 (fun w'=>w'.cell? ⟨w.heap.size,0,none⟩=some (.slice p1 m cap1)∧w'.cell? ⟨w.heap.size,1,none⟩=some (.bool n1)∧w'.cell? ⟨w.heap.size,2,none⟩=some (.slice a1 l1 c1)∧w'.cell? ⟨w.heap.size,3,none⟩=some (.bool n2)∧w'.cell? ⟨w.heap.size,4,none⟩=some (.slice a2 l2 c2)∧w'.cell? ⟨w.heap.size+1,0,none⟩=some (.slice p2 n cap2)∧w'.cell? ⟨w.heap.size+1,1,none⟩=some (.bool m1)∧w'.cell? ⟨w.heap.size+1,2,none⟩=some (.slice b1 j1 d1)∧w'.cell? ⟨w.heap.size+1,3,none⟩=some (.bool m2)∧w'.cell? ⟨w.heap.size+1,4,none⟩=some (.slice b2 j2 d2)) (first | ((try dsimp only);(repeat' apply And.intro);all_goals with_reducible assumption) | go_keep) (first | (go_at_call 20;refine (rCoef_any _ n1 n2 a1 a2 l1 c1 l2 c2 _ m f cs1 j (f j) _ (by first | exact HQA7.out.keep (Below.refl _ _).drew | exact HQA7.out.keep (((Below.refl _ _).drew).alloc (Nat.le_refl _) _)) HCF).mono ?_;rintro e w8 ⟨v8,rfl,hv8,hb8⟩;obtain ⟨z1,z2,z3,z4,z5,z6,z7,z8,rfl,hz⟩:=hv8;have hn8:RRef w8 (.agg #[.bool z1,.slice z2 z3 z4,.bool z5,.slice z6 z7 z8]) (f j):=⟨_,_,_,_,_,_,_,_,rfl,hz⟩;have hb7:Below w7.heap.size w7 w8:=(by first | exact (Below.refl _ w7).drew.trans hb8 | exact (((Below.refl _ w7).drew).alloc (Nat.le_refl _) _).trans (hb8.mono (by simp)));obtain ⟨U0,U1,U2,U3,U4⟩:=(HBA7.out.keep hb7).cell;obtain ⟨U5,U6,U7,U8,U9⟩:=(HBB7.out.keep hb7).cell;have HB8:=Lib.hid hb7;have HN8:=Lib.hid hn8;(first | (have HX8:=Lib.hid ((show B5 ((w7.alloc (.cells #[.slice none 0 0,.bool false,.slice none 0 0,.bool false,.slice none 0 0] 35)).drew) w7.heap.size (.slice none 0 0) (.bool false) (.slice none 0 0) (.bool false) (.slice none 0 0) from B5.new w7 (.slice none 0 0) (.bool false) (.slice none 0 0) (.bool false) (.slice none 0 0) 35).keep hb8)) | skip);clear hb8 hb7 hn8 hz x0 x1 x2 x3 x4 q0 q1 q2 q3 q4) | (go_at_call 18;refine (rfScale_put _ m1 m2 b1 b2 j1 d1 j2 d2 z1 z5 z2 z6 z3 z4 z7 z8 _ n g cs2 pb (f j) _ (by first | exact HQB7.out.keep HB8.out | exact HQB7.out.keep (HB8.out.alloc HB8.out.size _)) (by first | exact HCB7.out.keep HB8.out (Nat.le_refl _) | exact HCB7.out.keep (HB8.out.alloc HB8.out.size _) (Nat.le_refl _)) (by first | exact HN8.out | exact HN8.out.keep ((Below.refl _ _).alloc (Nat.le_refl _) _) (Nat.le_refl _)) HT.out.2.1 (HT.out.1 _) HT.out.2.2.2 hn).mono ?_;rintro e w9 ⟨⟨tp,tc,cs9,O1,E1,F1,G1,O2,E2,F2,G2,rfl,hr9,hn9⟩,hb9⟩;have hb10:Below w7.heap.size w7 w9:=(by first | exact HB8.out.trans (hb9.mono HB8.out.size) | exact (HB8.out.alloc HB8.out.size _).trans (hb9.mono (by have:=HB8.out.size;simp;omega)));have HB9:=Lib.hid hb10;have HR9:=Lib.hid hr9;have HN9:=Lib.hid hn9;obtain ⟨U0,U1,U2,U3,U4⟩:=(HBA7.out.keep hb10).cell;obtain ⟨U5,U6,U7,U8,U9⟩:=(HBB7.out.keep hb10).cell;have hltA8:w.heap.size<w8.heap.size:=Nat.lt_of_lt_of_le hltA HB8.out.size;have hltB8:w.heap.size+1<w8.heap.size:=Nat.lt_of_lt_of_le hltB HB8.out.size;(first | (have HX9:=Lib.hid (HX8.out.keep hb9);have HNE:=Lib.hid HX8.out.lt) | (have HX9:=Lib.hid ((B5.new w8 (.slice none 0 0) (.bool false) (.slice none 0 0) (.bool false) (.slice none 0 0) 35).keep hb9);have HNE:=Lib.hid (B5.new w8 (.slice none 0 0) (.bool false) (.slice none 0 0) (.bool false) (.slice none 0 0) 35).lt) | skip);(first | (obtain ⟨y0,y1,y2,y3,y4⟩:=HX9.out.cell;obtain ⟨r0,r1,r2,r3,r4⟩:=HX9.out.froz) | skip);(first | (have hZ:=HX8;clear hZ;have hO:=(((((Only.refl w7.heap.size w9).set 0 (.slice tp n tc)).set 1 (.bool O1)).set 2 (.slice E1 F1 G1)).set 3 (.bool O2)).set 4 (.slice E2 F2 G2);have V0:=(hO.cell w.heap.size 0 (Nat.ne_of_lt hltA)).trans U0;have V1:=(hO.cell w.heap.size 1 (Nat.ne_of_lt hltA)).trans U1;have V2:=(hO.cell w.heap.size 2 (Nat.ne_of_lt hltA)).trans U2;have V3:=(hO.cell w.heap.size 3 (Nat.ne_of_lt hltA)).trans U3;have V4:=(hO.cell w.heap.size 4 (Nat.ne_of_lt hltA)).trans U4;have V5:=(hO.cell (w.heap.size+1) 0 (Nat.ne_of_lt hltB)).trans U5;have V6:=(hO.cell (w.heap.size+1) 1 (Nat.ne_of_lt hltB)).trans U6;have V7:=(hO.cell (w.heap.size+1) 2 (Nat.ne_of_lt hltB)).trans U7;have V8:=(hO.cell (w.heap.size+1) 3 (Nat.ne_of_lt hltB)).trans U8;have V9:=(hO.cell (w.heap.size+1) 4 (Nat.ne_of_lt hltB)).trans U9;clear hO) | (have hO:=(((((Only.refl w8.heap.size w9).set 0 (.slice tp n tc)).set 1 (.bool O1)).set 2 (.slice E1 F1 G1)).set 3 (.bool O2)).set 4 (.slice E2 F2 G2);have V0:=(hO.cell w.heap.size 0 (Nat.ne_of_lt hltA8)).trans U0;have V1:=(hO.cell w.heap.size 1 (Nat.ne_of_lt hltA8)).trans U1;have V2:=(hO.cell w.heap.size 2 (Nat.ne_of_lt hltA8)).trans U2;have V3:=(hO.cell w.heap.size 3 (Nat.ne_of_lt hltA8)).trans U3;have V4:=(hO.cell w.heap.size 4 (Nat.ne_of_lt hltA8)).trans U4;have V5:=(hO.cell (w.heap.size+1) 0 (Nat.ne_of_lt hltB8)).trans U5;have V6:=(hO.cell (w.heap.size+1) 1 (Nat.ne_of_lt hltB8)).trans U6;have V7:=(hO.cell (w.heap.size+1) 2 (Nat.ne_of_lt hltB8)).trans U7;have V8:=(hO.cell (w.heap.size+1) 3 (Nat.ne_of_lt hltB8)).trans U8;have V9:=(hO.cell (w.heap.size+1) 4 (Nat.ne_of_lt hltB8)).trans U9;clear hO));clear hb9 hb10 hr9 hn9))
    all_goals (go_wp2_with fail;go_meet;case rel=>first | exact ⟨_,tp,tc,cs9,_,O1,E1,F1,G1,O2,E2,F2,G2,rfl,Lib.hid (BF.put (ni_slice none 0 0) HX9.out HR9.out HN9.out (fun b hb=>by have:=(HR9.out.own.lt b hb).1;have:=HNE.out;omega)),Lib.hid (by have:=HB8.out.size;first | exact this | (simp;omega)),Lib.hid (HB9.out.trans ((((((Only.refl _ _).set 0 (.slice tp n tc)).set 1 (.bool O1)).set 2 (.slice E1 F1 G1)).set 3 (.bool O2)).set 4 (.slice E2 F2 G2) |>.below (by first | exact Nat.le_refl _ | exact HB8.out.size))),Lib.hid (by first | exact Nat.le_refl _ | exact HB8.out.size)⟩ | exact ⟨_,tp,tc,cs9,_,O1,E1,F1,G1,O2,E2,F2,G2,rfl,Lib.hid (BF.new _ HR9.out HN9.out),Lib.hid HB8.out.size,Lib.hid (HB9.out.alloc HB9.out.size _),Lib.hid HB9.out.size⟩)
   case rest =>
    obtain ⟨bq,tp,tc,cs9,By,O1,E1,F1,G1,O2,E2,F2,G2,rfl,HBG,HBY,HW9,HBR⟩:=hcut
    obtain ⟨w9,hw9⟩:∃ w9,w9=wc:=⟨_,rfl⟩
    subst hw9
    have HBF9:=Lib.hid (HBF7.out.keep HW9.out)
    obtain ⟨x0,x1,x2,x3,x4⟩:=HBG.out.box.cell
    obtain ⟨q0,q1,q2,q3,q4⟩:=HBF9.out.box.cell
    have hsh:∀ c,RT 400 (g c*f j):=fun c=>((HT.out.2.1 c).mul (HT.out.1 _)).mono (by omega)
    have HSH:=Lib.hid hsh
    clear hsh
    go_wp2_with fail
    obtain ⟨tx,htx⟩:∃ x,txt (pb*f j)=x:=⟨_,rfl⟩
    have HTX:=Lib.hid htx
    clear htx
    refine (rWrite_good _ O1 O2 E1 E2 F1 G1 F2 G2 _ n (fun c=>g c*f j) cs9 (pb*f j) tx _ HBG.out.row HBG.out.num (fun c=>(((HT.out.2.1 c).mul (HT.out.1 _)).mono (by omega):RT 400 _).short (Nat.le_refl _)) (((HT.out.2.2.2.mul (HT.out.1 _)).mono (by omega):RT 400 _).short (Nat.le_refl _)) hn HTX).mono ?_
    rintro e w10 ⟨⟨ad,nn,cap,rfl,-⟩,hb10⟩
    have HB10:=Lib.hid hb10
    have HBG10:=Lib.hid (HBG.out.keep hb10)
    have HBF10:=Lib.hid (HBF9.out.keep hb10)
    have hw10:=HW7.out.trans ((HW9.out.trans (hb10.mono HW9.out.size)).mono HW7.out.size)
    have HBZ10:=Lib.hid (HBZ.out.keep hw10)
    have HW10:=Lib.hid hw10
    clear hb10 hw10 x0 x1 x2 x3 x4 q0 q1 q2 q3 q4
    obtain ⟨x0,x1,x2,x3,x4⟩:=HBG10.out.box.cell
    obtain ⟨q0,q1,q2,q3,q4⟩:=HBF10.out.box.cell
    go_wp2_with fail
    clear x0 x1 x2 x3 x4 q0 q1 q2 q3 q4
    have HU:=Lib.hid (And.intro (show ∀ c,(m:Int)≤c→upd f (j:Int) 0 c=0 from fun c hc=>by
     by_cases e:c=(j:Int)
     · rw [e];exact upd_same _ _ _
     · rw [upd_other _ _ e];exact HF.out.1 c hc) (And.intro (show ∀ c,(n:Int)≤c→g c*f j=0 from fun c hc=>by rw [HF.out.2 c hc];exact Rat.zero_mul _) (show ∀ c,RT 400 (upd f (j:Int) 0 c) from fun c=>by
     by_cases e:c=(j:Int)
     · rw [e,upd_same];exact rt_nil
     · rw [upd_other _ _ e];exact (HT.out.1 c).mono (by omega))))
    refine (rfAdd_any _ _ o1 o2 e1 e2 f1 g1 f2 g2 O1 O2 E1 E2 F1 G1 F2 G2 _ _ m n (upd f (j:Int) 0) (fun c=>g c*f j) cs7 cs9 (pa+pb*f j) _ HBF10.out.row HBG10.out.row HU.out.1 HU.out.2.1 HU.out.2.2 HSH.out hm hn
     (fun W hb=>rrAdd_any _ _ pa (pb*f j) 400 (pa+pb*f j) W (HBF10.out.num.keep hb (Nat.le_refl _)) (HBG10.out.num.keep hb (Nat.le_refl _)) (HT.out.2.2.1.mono (by omega)) ((HT.out.2.2.2.mul (HT.out.1 _)).mono (by omega)) (Nat.le_refl _) (Lib.hid rfl))).mono ?_
    rintro e w11 ⟨⟨v11,rfl,hf11⟩,hb11⟩
    obtain ⟨v5,cs11,z1,z2,z3,z4,z5,z6,z7,z8,rfl,hr11,hn11⟩:=hf11.opened
    obtain ⟨vp,vc,hs11⟩:=hr11.slice
    rw [rowOf_length] at hs11
    subst hs11
    obtain ⟨M,hM⟩:∃ M,max m n=M:=⟨_,rfl⟩
    rw [hM] at hr11
    rw [hM]
    have hz11:=HBZ10.out.keep hb11
    obtain ⟨t0,t1,t2,t3,t4⟩:=hz11.cell
    obtain ⟨r0,r1,r2,r3,r4⟩:=hz11.froz
    have HZ11:=Lib.hid hz11
    have HR11:=Lib.hid hr11
    have HN11:=Lib.hid hn11
    have HW11:=Lib.hid (HW3.out.trans ((HW10.out.trans (hb11.mono HW10.out.size)).mono HW3.out.size))
    have HSZ:Hid (w.heap.size+1+1<w10.heap.size):=Lib.hid (by have:=HS3.out.2;have:=HW10.out.size;omega)
    have HMM:=Lib.hid hM
    clear hz11 hr11 hn11 hb11 hf11 hM
    go_wp2
    obtain ⟨l0,l1',l2',l3',l4'⟩:=(HZ11.out.store (.slice vp M vc) (.bool z1) (.slice z2 z3 z4) (.bool z5) (.slice z6 z7 z8)).cell
    refine bodyPost_ret (v := .tuple #[.agg #[.slice vp M vc,.bool z1,.slice z2 z3 z4,.bool z5,.slice z6 z7 z8],.bool true]) (by simp only [results,Tryz.results26];simp [go_sem,l0,l1',l2',l3',l4']) rfl ?_
    have hka3:Ka w10.heap.size _ (w.heap.size+1+1) (.slice vp M vc) (rowOf (fun c=>upd f (j:Int) 0 c+g c*f j) M) cs11 (.bool z1,.slice z2 z3 z4,.bool z5,.slice z6 z7 z8) (pa+pb*f j):=⟨HR11.out,HN11.out,HZ11.out.bn (ni5 (ni_slice _ _ _) _ _ _ _ _ _ _ _),fun b hb=>by have:=(HR11.out.own.lt b hb).1;have:=HSZ.out;omega⟩
    have hk5:=((((hka3.set 0 (ni_slice vp M vc)).set 1 (ni_bool z1)).set 2 (ni_slice z2 z3 z4)).set 3 (ni_bool z5)).set 4 (ni_slice z6 z7 z8)
    rw [HMM.out]
    exact ⟨⟨_,rfl,_,cs11,(.bool z1,.slice z2 z3 z4,.bool z5,.slice z6 z7 z8),rfl,hk5.row.base (by have:=HSZ.out;omega),hk5.num⟩,((((HW11.out.setCell (by dsimp only;omega) _).setCell (by dsimp only;omega) _).setCell (by dsimp only;omega) _).setCell (by dsimp only;omega) _).setCell (by dsimp only;omega) _⟩
end Go.Proofs.YtkhdocdddicgpaaGreatDoor
