/- Part 0: what the law's walk leans on. -/
import Derived.Test.YtkhdocdddicgpaaGreatDoorYt0
import Derived.Test.YtkhdocdddicgpaaGreatDoorYt1
import Derived.Test.YtkhdocdddicgpaaGreatDoorYt2
import Derived.Test.YtkhdocdddicgpaaGreatDoorYt3
import Derived.Test.YtkhdocdddicgpaaGreatDoorYt4
import Derived.Test.YtkhdocdddicgpaaGreatDoorYt5
import Derived.Test.YtkhdocdddicgpaaGreatDoorYt6
import Derived.Test.YtkhdocdddicgpaaGreatDoorYt7
import Derived.Test.YtkhdocdddicgpaaGreatDoorYt8
import Derived.Test.YtkhdocdddicgpaaGreatDoorYt9
import Derived.Test.YtkhdocdddicgpaaGreatDoorYt10
import Derived.Test.YtkhdocdddicgpaaGreatDoorYt11
import Derived.Test.YtkhdocdddicgpaaGreatDoorYt12
import Derived.Test.YtkhdocdddicgpaaGreatDoorYt13
import Derived.Test.YtkhdocdddicgpaaGreatDoorYt14
import Derived.Test.YtkhdocdddicgpaaGreatDoorYt15
import Derived.Test.YtkhdocdddicgpaaGreatDoorYt16
import Derived.Test.YtkhdocdddicgpaaGreatDoorYt17
import Derived.Test.YtkhdocdddicgpaaGreatDoorYt18
import Derived.Test.YtkhdocdddicgpaaGreatDoorYt19
import Derived.Test.YtkhdocdddicgpaaGreatDoorYt20
import Derived.Test.YtkhdocdddicgpaaGreatDoorYt21
import Derived.Test.YtkhdocdddicgpaaGreatDoorYt22
import Derived.Test.YtkhdocdddicgpaaGreatDoorYt23
import Derived.Test.YtkhdocdddicgpaaGreatDoorYt24
import Derived.Test.YtkhdocdddicgpaaGreatDoorYt25
import Derived.Test.YtkhdocdddicgpaaGreatDoorYt26
import Derived.Test.YtkhdocdddicgpaaGreatDoorYt27
import Derived.Test.YtkhdocdddicgpaaGreatDoorYt28
import Derived.Test.YtkhdocdddicgpaaGreatDoorYt29
import Derived.Test.YtkhdocdddicgpaaGreatDoorYt30
import Derived.WalkKit
import Derived.Deep.QuietTactic
import Derived.BigQuiet
import Derived.Lib.ItoaNum
import Derived.Test.YtkhdocdddicgpaaGreatDoorProg
import Derived.WalkSpells
import Derived.WalkLawsBesides
import Derived.IntWalk
import Derived.LoopTactic
import Derived.Lib.Hide
import Derived.Laws.CopyOwn
import Derived.StillTailTactics
import Derived.Deep.RegionHeld3
import Derived.Lib.AppendStr
import Derived.Lib.SliceRun
import Derived.Shelf.Small.Wraps
import Derived.Shelf.Strconv.Itoa4
import Derived.Shelf.Strconv.ErrVarAll
import Derived.Shelf.Strconv.ParseIntPublic10
import Derived.Shelf.Strings.Shaped
import Derived.Shelf.Strconv.AppendInt10
import Derived.Shelf.Bits.Mul64
import Derived.Lib.AtoiErrMem
import Derived.Lib.AppendIntMem
import Derived.Lib.SmallJoins
import Derived.Lib.ItoaLen
import Derived.Laws.IdiomStrings
import Derived.Lib.IndexMore
import Derived.Lib.IndexBytes
import Derived.Lib.IndexLaws
import Derived.Deep.Cut
import Derived.Deep.CutRange
import Derived.Deep.DeepCutAuto
import Derived.Deep.LoopGhost
import Derived.Deep.RegionWith
import Derived.RegionTactic
import Derived.Maps.OwnSet
import Derived.Maps.RangeWalk
import Derived.Maps.StringElems
import Derived.Sort.Statements
import Derived.Shelf.SlGeneric
import Derived.Shelf.SlicesQ.IndexFunc
import Derived.Ground.SlgfProg
import Derived.Shelf.SlSortCmp.WholeK
import Derived.Ground.SlsfProg
import Derived.Lib.OwnBridge
import Derived.Lib.AppendZeros
import Derived.Laws.AppendOwnNone
import Derived.Shelf.Strings.BuilderX
import Derived.Lib.Strings
import Derived.Lib.Slices
import Derived.Lib.Walk
import Derived.Lib.Builder
import Derived.Lib.UnsafeStr
import Derived.Laws.Externs
import Derived.Laws.IdiomCopy
import Derived.Shelf.Strings.BuilderK
import Derived.Laws.Concat
import Derived.RangeFuncNested
import Derived.RangeFuncBound
import Derived.RangeFuncCalls
import Derived.RangeFuncLeaves
import Derived.Shelf.Abstract
import Derived.Shelf.RegionOpen
import Derived.OwnWalkIn
import Derived.TacticsInMore
import Derived.LoopNIn
import Derived.LoopIn
import Derived.Maps.OwnIn
import Derived.Maps.AppendAt
import Derived.RangeFuncBox
import Derived.OrdersIn
import Derived.Deep.RegionHeld
import Derived.Laws.EntriesVeiled
import Derived.Deep.AppendLies
set_option linter.unusedVariables false
set_option linter.unusedSimpArgs false
namespace Go.Proofs.YtkhdocdddicgpaaGreatDoor
open Go.RowKit Go.Maps _root_.Go.Proofs.YtkhdocdddicgpaaGreatDoor.Nm
theorem Fo.same {q:List Qm} (h:Fo q):formOf (_root_.Go.Proofs.YtkhdocdddicgpaaGreatDoor.co q)=q:=by
 refine (formOf_eq h.2 fun x=>⟨fun hx => ?_,fun hx => ?_⟩).symm
 · obtain ⟨h1,h2,h3⟩:=h.1 x hx
   exact ⟨h1.1,h1.2,(co_mem q h.2 x hx).symm,h3⟩
 · obtain ⟨h1,h2,h3,h4⟩:=hx
   have:=co_ne q x.1 (by rw [← h3];exact h4)
   rw [← h3] at this;exact this
end Go.Proofs.YtkhdocdddicgpaaGreatDoor
set_option linter.unusedVariables false
set_option linter.unusedSimpArgs false
namespace Go.Proofs.YtkhdocdddicgpaaGreatDoor
open Go.RowKit Go.Maps _root_.Go.Proofs.YtkhdocdddicgpaaGreatDoor.Nm
theorem evalQ_some:∀ (q:List Qm) (t:Rat) (v:Int→Rat) (r:Rat),evalQ t q v=some r→r=t+val q v
 | [],t,v,r,h=>by
  unfold evalQ at h
  unfold val
  rw [Rat.add_zero];exact (Option.some.inj h).symm
 | p::q,t,v,r,h=>by
  unfold evalQ at h
  split at h
  · have:=evalQ_some q _ v r h
    rw [this]
    show t+p.2*v p.1+val q v=t+(p.2*v p.1+val q v)
    rw [Rat.add_assoc]
  · cases h
theorem evalQ_short:∀ (q:List Qm) (t:Rat) (v:Int→Rat) (r:Rat),rshort t=true→evalQ t q v=some r→rshort r=true
 | [],t,v,r,ht,h=>by
  unfold evalQ at h
  rw [← Option.some.inj h];exact ht
 | p::q,t,v,r,ht,h=>by
  unfold evalQ at h
  split at h
  · next h1 =>
    rw [Bool.and_eq_true] at h1
    exact evalQ_short q _ v r h1.2 h
  · cases h
theorem sumTo_congr:∀ (n:Nat) (g h:Int→Rat),(∀ c:Int,0≤c→c<n→g c=h c)→sumTo n g=sumTo n h
 | 0,_,_,_=>rfl
 | n+1,g,h,e=>by
  unfold sumTo
  rw [sumTo_congr n g h (fun c h1 h2=>e c h1 (by omega)),e n (by omega) (by omega)]
theorem sumTo_add:∀ (n:Nat) (g h:Int→Rat),sumTo n (fun c=>g c+h c)=sumTo n g+sumTo n h
 | 0,_,_=>by unfold sumTo;rw [Rat.add_zero]
 | n+1,g,h=>by
  unfold sumTo
  rw [sumTo_add n g h]
  grind
theorem sumTo_mul:∀ (n:Nat) (g:Int→Rat) (r:Rat),sumTo n (fun c=>g c*r)=sumTo n g*r
 | 0,_,_=>by unfold sumTo;rw [Rat.zero_mul]
 | n+1,g,r=>by
  unfold sumTo
  rw [sumTo_mul n g r,Rat.add_mul]
theorem sumTo_one:∀ (n:Nat) (g:Int→Rat) (c:Nat),c<n→sumTo n g=sumTo n (fun x=>if x=(c:Int) then 0 else g x)+g c
 | 0,_,c,h=>absurd h (Nat.not_lt_zero c)
 | n+1,g,c,h=>by
  by_cases e:c=n
  · subst e
    show sumTo c g+g c=(sumTo c (fun x=>if x=(c:Int) then 0 else g x)+if (c:Int)=c then 0 else g c)+g c
    rw [if_pos rfl,Rat.add_zero,sumTo_congr c (fun x=>if x=(c:Int) then 0 else g x) g (fun x h1 h2=>by rw [if_neg (by omega)])]
  · show sumTo n g+g n=(sumTo n (fun x=>if x=(c:Int) then 0 else g x)+if (n:Int)=c then 0 else g n)+g c
    rw [sumTo_one n g c (by omega),if_neg (by omega)]
    grind
theorem val_formOf (f v:Int→Rat):val (formOf f) v=sumTo 2048 fun c=>f c*v c:=val_range f v 2048
theorem val_fo {q:List Qm} (h:Fo q) (v:Int→Rat):val q v=sumTo 2048 fun c=>co q c*v c:=by
 rw [← val_formOf,h.same]
theorem val_sum {q1 q2:List Qm} (h1:Fo q1) (h2:Fo q2) (v:Int→Rat):val (formOf fun c=>co q1 c+co q2 c) v=val q1 v+val q2 v:=by
 rw [val_formOf,val_fo h1,val_fo h2, ← sumTo_add]
 exact sumTo_congr _ _ _ (fun c _ _=>Rat.add_mul _ _ _)
end Go.Proofs.YtkhdocdddicgpaaGreatDoor
set_option linter.unusedVariables false
set_option linter.unusedSimpArgs false
namespace Go.Proofs.YtkhdocdddicgpaaGreatDoor
open Go.RowKit Go.Maps _root_.Go.Proofs.YtkhdocdddicgpaaGreatDoor.Nm
theorem valsQ_ex:∀ (l:List ByteArray),l.any noNum=false→∃ vs:List Rat,l=valsQ vs∧∀ v∈vs,rshort v=true
 | [],_=>⟨[],rfl,by simp⟩
 | s::l,h=>by
  simp only [List.any_cons,Bool.or_eq_false_iff] at h
  obtain ⟨q,h1,h2⟩:=noNum_ex h.1
  obtain ⟨vs,h3,h4⟩:=valsQ_ex l h.2
  refine ⟨q::vs,by rw [h3,h1];rfl,fun v hv => ?_⟩
  rcases List.mem_cons.1 hv with rfl | hv
  · exact h2
  · exact h4 v hv
set_option maxRecDepth 100000 in
set_option maxHeartbeats 1600000 in
theorem Eval_bad (x:ByteArray) (l:List Tm) (ss:List ByteArray) (ad1 ad2:Option Addr) (n1 c1 n2 c2:Nat) (w:World) (hv:TsAt w (.slice ad1 n1 c1) l) (hv2:SsAt w (.slice ad2 n2 c2) ss) (hxs:x.size≤100000) (hls:∀ t∈l,t.2.size≤100000) (hll:l.length≤1000) (hss:∀ s∈ss,s.size≤100000) (hsl:ss.length≤1000) (hbad:checkErr x l≠0∨ss.any noNum=true) :
 Calls Tryz.prog 22 #[.agg #[.slice ad1 n1 c1,.string x],.slice ad2 n2 c2] w fun e w'=>e = .returned (.tuple #[.string ⟨#[]⟩,.int .i64 3])∧Below w.heap.size w w':=by
 have hA:=(Below.refl w.heap.size w).alloc (Nat.le_refl _) (.cells #[.slice ad1 n1 c1,.string x] 24)
 have HV:=Lib.hid (hv.keep hA (Nat.le_refl _))
 have HS:=Lib.hid hv2
 have HB:=Lib.hid (Bx.new w (.slice ad1 n1 c1) (.string x) 24)
 have HW:=Lib.hid hA
 have HLS:=Lib.hid hls
 have HSS:=Lib.hid hss
 obtain ⟨r1,hr1⟩:∃ r,checkErr x l=r:=⟨_,rfl⟩
 rw [hr1] at hbad
 have HR1:=Lib.hid hr1
 clear hA hv hv2 hls hss hr1
 go_enter Tryz.func22,Tryz.ntmps22
 by_cases hz:r1=0
 · have hz2:ss.any noNum=true:=hbad.resolve_left (fun h=>h hz)
   have hg1:(r1 != 0)=false:=by simp [hz]
   have HA:=Lib.hid hz2
   clear hbad hz hz2
   go_wp2_with fail
   refine (Check_any x ad1 n1 c1 l r1 _ HV.out hxs HLS.out hll HR1).mono ?_
   rintro e w1 ⟨rfl,hb⟩
   have HW1:=Lib.hid (HW.out.trans (hb.mono HW.out.size))
   clear hb
   go_wp2_with fail
   refine (containsNoNum_any _ ss true _ (HS.out.keep HW1.out (Nat.le_refl _)) HSS.out hsl HA).mono ?_
   rintro e w2 ⟨rfl,hb⟩
   have HW2:=Lib.hid (HW1.out.trans (hb.mono HW1.out.size))
   clear hb
   go_wp2
   go_ret2
   exact ⟨rfl,HW2.out⟩
 · have hg1:(r1 != 0)=true:=by simpa using hz
   clear hbad hz
   go_wp2_with fail
   refine (Check_any x ad1 n1 c1 l r1 _ HV.out hxs HLS.out hll HR1).mono ?_
   rintro e w1 ⟨rfl,hb⟩
   have HW1:=Lib.hid (HW.out.trans (hb.mono HW.out.size))
   clear hb
   go_wp2
   go_ret2
   exact ⟨rfl,HW1.out⟩
end Go.Proofs.YtkhdocdddicgpaaGreatDoor
set_option linter.unusedVariables false
set_option linter.unusedSimpArgs false
namespace Go.Proofs.YtkhdocdddicgpaaGreatDoor
open Go.RowKit Go.Maps _root_.Go.Proofs.YtkhdocdddicgpaaGreatDoor.Nm
theorem co_wo:∀ (q:List Qm) (c x:Int),co (wo q c) x=if x=c then 0 else co q x
 | [],c,x=>by simp [wo,co_nil]
 | p::q,c,x=>by
  have ih:=co_wo q c x
  by_cases h:p.1=c
  · have e:wo (p::q) c=wo q c:=by unfold wo;rw [List.filter_cons,if_neg (by simp [h])]
    rw [e,ih,co_cons]
    by_cases hx:x=c
    · rw [if_pos hx,if_pos hx]
    · rw [if_neg hx,if_neg hx,if_neg (by omega)]
  · have e:wo (p::q) c=p::wo q c:=by unfold wo;rw [List.filter_cons,if_pos (by simp [h])]
    rw [e,co_cons,co_cons,ih]
    by_cases hx:p.1=x
    · rw [if_pos hx,if_pos hx,if_neg (by omega)]
    · rw [if_neg hx,if_neg hx]
end Go.Proofs.YtkhdocdddicgpaaGreatDoor
set_option linter.unusedVariables false
set_option linter.unusedSimpArgs false
namespace Go.Proofs.YtkhdocdddicgpaaGreatDoor
open Go.RowKit Go.Maps _root_.Go.Proofs.YtkhdocdddicgpaaGreatDoor.Nm
end Go.Proofs.YtkhdocdddicgpaaGreatDoor
set_option linter.unusedVariables false
set_option linter.unusedSimpArgs false
namespace Go.Proofs.YtkhdocdddicgpaaGreatDoor
open Go.RowKit Go.Maps _root_.Go.Proofs.YtkhdocdddicgpaaGreatDoor.Nm
theorem val_wo {q:List Qm} (h:Fo q) (c:Nat) (hc:c<2048) (v:Int→Rat):val q v=val (wo q c) v+co q c*v c:=by
 rw [val_fo h,val_fo (h.wo c)]
 generalize 2048=n at hc ⊢
 rw [sumTo_one n _ c hc,sumTo_congr n (fun x=>if x=(c:Int) then 0 else co q x*v x) (fun x=>co (wo q c) x*v x) (fun x _ _=>by
  rw [co_wo]
  split
  · rw [Rat.zero_mul]
  · rfl)]
theorem val_wo_congr {q:List Qm} (h:Fo q) (c:Int) (v v':Int→Rat) (hv:∀ x,0≤x→x≠c→v x=v' x):val (wo q c) v=val (wo q c) v':=by
 rw [val_fo (h.wo c),val_fo (h.wo c)]
 exact sumTo_congr _ _ _ (fun x h0 _=>by
  rw [co_wo]
  split
  · rw [Rat.zero_mul,Rat.zero_mul]
  · next hx=>rw [hv x h0 hx])
theorem val_put {q1 q2:List Qm} (h1:Fo q1) (h2:Fo q2) (c:Int) (r:Rat) (v:Int→Rat):val (formOf fun x=>co (wo q1 c) x+co q2 x*r) v=val (wo q1 c) v+val q2 v*r:=by
 rw [val_formOf,val_fo (h1.wo c),val_fo h2, ← sumTo_mul, ← sumTo_add]
 exact sumTo_congr _ _ _ (fun x _ _=>by grind)
theorem mem_two {q1 q2:List Qm} {f:Int→Rat} {p:Qm} (hp:p∈formOf f) (hf:co q1 p.1=0→co q2 p.1=0→f p.1=0):(∃ x∈q1,x.1=p.1)∨∃ x∈q2,x.1=p.1:=by
 obtain ⟨_,_,h3,h4⟩:=mem_formOf.1 hp
 by_cases e1:co q1 p.1=0
 · by_cases e2:co q2 p.1=0
   · exact absurd (hf e1 e2) (by rw [← h3];exact h4)
   · exact .inr ⟨_,co_ne _ _ e2,rfl⟩
 · exact .inl ⟨_,co_ne _ _ e1,rfl⟩
end Go.Proofs.YtkhdocdddicgpaaGreatDoor
set_option linter.unusedVariables false
set_option linter.unusedSimpArgs false
namespace Go.Proofs.YtkhdocdddicgpaaGreatDoor
open Go.RowKit Go.Maps _root_.Go.Proofs.YtkhdocdddicgpaaGreatDoor.Nm
end Go.Proofs.YtkhdocdddicgpaaGreatDoor
set_option linter.unusedVariables false
set_option linter.unusedSimpArgs false
namespace Go.Proofs.YtkhdocdddicgpaaGreatDoor
open Go.RowKit Go.Maps _root_.Go.Proofs.YtkhdocdddicgpaaGreatDoor.Nm
theorem EvalIs.zero {qc:Rat} {q:List Qm} {vs:List Rat} {s:ByteArray} (h:EvalIs qc q vs s 0) (hc:rshort qc=true) :
 (∀ p∈q,p.1<(vs.length:Int))∧∃ r,s=txt r∧rshort r=true∧r=qc+val q (atQ vs):=by
 unfold EvalIs at h
 split at h
 · exact absurd h.2 (by decide)
 · next hn =>
   refine ⟨fun p hp => ?_,?_⟩
   · rcases Int.lt_or_le p.1 vs.length with h1 | h1
     · exact h1
     · exact absurd ⟨p,hp,h1⟩ hn
   · split at h
     · next t ht=>exact ⟨t,h.1,evalQ_short _ _ _ _ hc ht,evalQ_some _ _ _ _ ht⟩
     · exact absurd h.2 (by decide)
theorem EvalIs.fits {qc:Rat} {q:List Qm} {vs:List Rat} {s:ByteArray} {e:Int} (h:EvalIs qc q vs s e) (hin:∀ p∈q,p.1<(vs.length:Int)):e=0∨e=5:=by
 unfold EvalIs at h
 split at h
 · next hn=>obtain ⟨p,hp,h1⟩:=hn;have:=hin p hp;omega
 · split at h
   · exact .inl h.2
   · exact .inr h.2
theorem EvalIs.ex (qc:Rat) (q:List Qm) (vs:List Rat):∃ s e,EvalIs qc q vs s e:=by
 unfold EvalIs
 split
 · exact ⟨_,_,rfl,rfl⟩
 · split
   · exact ⟨_,_,rfl,rfl⟩
   · exact ⟨_,_,rfl,rfl⟩
theorem sum_in {p1 p2:Rat} {q1 q2:List Qm} {g:Int→Rat} {n:Int} (h1:Fo q1) (h2:Fo q2) (h:sumRes p1 p2 q1 q2=some g) (i1:∀ p∈q1,p.1<n) (i2:∀ p∈q2,p.1<n):∀ p∈formOf g,p.1<n:=by
 obtain ⟨_,rfl,_⟩:=sumRes_some h1 h2 h
 intro p hp
 rcases mem_two (q1:=q1) (q2:=q2) hp (fun e1 e2=>by rw [e1,e2];exact Rat.add_zero 0) with ⟨x,hx,e⟩ | ⟨x,hx,e⟩
 · rw [← e];exact i1 x hx
 · rw [← e];exact i2 x hx
theorem put_in {p1 p2:Rat} {q1 q2:List Qm} {c:Int} {g:Int→Rat} {n:Int} (h1:Fo q1) (h2:Fo q2) (h:putRes p1 p2 q1 q2 c=some g) (i1:∀ p∈q1,p.1<n) (i2:∀ p∈q2,p.1<n):∀ p∈formOf g,p.1<n:=by
 obtain ⟨_,rfl,_⟩:=putRes_some h1 h2 h
 intro p hp
 rcases mem_two (q1:=q1) (q2:=q2) hp (fun e1 e2=>by rw [co_wo,e1,e2,Rat.zero_mul];split <;> exact Rat.add_zero 0) with ⟨x,hx,e⟩ | ⟨x,hx,e⟩
 · rw [← e];exact i1 x hx
 · rw [← e];exact i2 x hx
theorem sum_value {p1 p2 r1 r2 r:Rat} {q1 q2:List Qm} {g:Int→Rat} {v:Int→Rat} (h1:Fo q1) (h2:Fo q2) (h:sumRes p1 p2 q1 q2=some g) (e1:r1=p1+val q1 v) (e2:r2=p2+val q2 v) (e:r=(p1+p2)+val (formOf g) v):r=r1+r2:=by
 obtain ⟨_,rfl,_⟩:=sumRes_some h1 h2 h
 rw [val_sum h1 h2] at e
 rw [e,e1,e2]
 grind
theorem atQ_first (y:Rat) (vs:List Rat) (x:Int) (h0:0≤x) (hx:x≠0):atQ vs x=atQ (y::vs.tail) x:=by
 unfold atQ
 obtain ⟨k,hk⟩:∃ k:Nat,x.toNat=k+1:=⟨x.toNat-1,by omega⟩
 rw [hk,List.getElem?_cons_succ,List.getElem?_tail]
theorem atQ_zero (y:Rat) (vs:List Rat):atQ (y::vs) 0=y:=by
 unfold atQ
 simp
theorem put_value {p1 p2 y r r':Rat} {q1 q2:List Qm} {g:Int→Rat} {vs:List Rat} (h1:Fo q1) (h2:Fo q2) (h:putRes p1 p2 q1 q2 0=some g) (ey:y=p2+val q2 (atQ vs))
 (e:r=(p1+p2*co q1 0)+val (formOf g) (atQ vs)) (e':r'=p1+val q1 (atQ (y::vs.tail))):r=r':=by
 obtain ⟨_,rfl,_⟩:=putRes_some h1 h2 h
 rw [val_put h1 h2] at e
 have hw:=val_wo h1 0 (by omega) (atQ (y::vs.tail))
 rw [Int.natCast_zero,atQ_zero, ← val_wo_congr h1 0 (atQ vs) _ (fun x hx0 hx=>atQ_first y vs x hx0 hx)] at hw
 rw [hw] at e'
 rw [e,e',ey]
 grind
def EvalRes (x:ByteArray) (l:List Tm) (ss:List ByteArray) (s:ByteArray) (e:Int):Prop :=
 ((checkErr x l≠0∨ss.any noNum=true)∧s=⟨#[]⟩∧e=3)∨∃ qc q vs,x=txt qc∧rshort qc=true∧l=tms q∧Fo q∧ss=valsQ vs∧(∀ v∈vs,rshort v=true)∧EvalIs qc q vs s e
theorem EvalRes.ex (x:ByteArray) (l:List Tm) (ss:List ByteArray):∃ s e,EvalRes x l ss s e:=by
 by_cases h:checkErr x l≠0∨ss.any noNum=true
 · exact ⟨_,_,.inl ⟨h,rfl,rfl⟩⟩
 · have h1:checkErr x l=0:=Decidable.byContradiction fun e=>h (.inl e)
   have h2:ss.any noNum=false:=by
    cases hb:ss.any noNum with
    | false=>rfl
    | true=>exact absurd (.inr hb) h
   obtain ⟨qc,q,e1,e2,e3,e4⟩:=checkErr_zero h1
   obtain ⟨vs,e5,e6⟩:=valsQ_ex ss h2
   obtain ⟨s,e,hh⟩:=EvalIs.ex qc q vs
   exact ⟨s,e,.inr ⟨qc,q,vs,e1,e2,e3,e4,e5,e6,hh⟩⟩
theorem EvalRes.size {x:ByteArray} {l:List Tm} {ss:List ByteArray} {s:ByteArray} {e:Int} (h:EvalRes x l ss s e):s.size≤1000:=by
 rcases h with ⟨_,rfl,_⟩ | ⟨qc,q,vs,_,h2,_,_,_,_,h⟩
 · exact Nat.zero_le _
 · unfold EvalIs at h
   split at h
   · rw [h.1];exact Nat.zero_le _
   · split at h
     · next t ht=>rw [h.1];exact txt_small (evalQ_short _ _ _ _ h2 ht)
     · rw [h.1];exact Nat.zero_le _
theorem EvalRes.good {x:ByteArray} {l:List Tm} {ss:List ByteArray} {s:ByteArray} (h:EvalRes x l ss s 0):∃ qc q vs,x=txt qc∧rshort qc=true∧l=tms q∧Fo q∧ss=valsQ vs∧(∀ v∈vs,rshort v=true)∧EvalIs qc q vs s 0:=by
 rcases h with ⟨_,_,h⟩ | h
 · exact absurd h (by decide)
 · exact h
theorem valsQ_inj:∀ {a b:List Rat},(∀ p∈a,rshort p=true)→(∀ p∈b,rshort p=true)→valsQ a=valsQ b→a=b
 | [],[],_,_,_=>rfl
 | [],q::b,_,_,h=>by cases h
 | p::a,[],_,_,h=>by cases h
 | p::a,q::b,ha,hb,h=>by
  have h1:txt p::valsQ a=txt q::valsQ b:=h
  rw [List.cons.injEq] at h1
  rw [valsQ_inj (fun x hx=>ha x (by simp [hx])) (fun x hx=>hb x (by simp [hx])) h1.2,txt_inj (ha p (by simp)) (hb q (by simp)) h1.1]
theorem EvalRes.is {qc:Rat} {q:List Qm} {vs:List Rat} {s:ByteArray} {e:Int} (h:EvalRes (txt qc) (tms q) (valsQ vs) s e) (hc:rshort qc=true) (hq:Fo q) (hv:∀ v∈vs,rshort v=true):EvalIs qc q vs s e:=by
 rcases h with ⟨h,_⟩ | ⟨qc',q',vs',e1,e2,e3,e4,e5,e6,h⟩
 · rcases h with h | h
   · exact absurd (checkErr_fo hc hq) h
   · rw [valsQ_any hv] at h;cases h
 · rw [txt_inj hc e2 e1,tms_inj (fun p hp=>(hq.1 p hp).2.1) (fun p hp=>(e4.1 p hp).2.1) e3,valsQ_inj hv e6 e5]
   exact h
theorem Eval_all (x:ByteArray) (l:List Tm) (ss:List ByteArray) (ad1 ad2:Option Addr) (n1 c1 n2 c2:Nat) (s:ByteArray) (e:Int) (w:World) (h:InF w ad1 n1 c1 x l) (hv2:SsAt w (.slice ad2 n2 c2) ss) (hss:∀ s∈ss,s.size≤100000) (hsl:ss.length≤1000) (htab:Tab w) (hr:Hid (EvalRes x l ss s e)) :
 Calls Tryz.prog 22 #[.agg #[.slice ad1 n1 c1,.string x],.slice ad2 n2 c2] w fun e' w'=>e' = .returned (.tuple #[.string s,.int .i64 e])∧Below w.heap.size w w':=by
 rcases hr.out with ⟨hb,rfl,rfl⟩ | ⟨qc,q,vs,rfl,h2,rfl,h4,rfl,h6,hh⟩
 · exact Eval_bad x l ss ad1 ad2 n1 c1 n2 c2 w h.at_ hv2 h.size h.sizes (by have:=h.len;omega) hss hsl hb
 · exact Eval_loop qc q vs ad1 ad2 n1 c1 n2 c2 s e w h.at_ hv2 h4 h2 h6 (by have:=h.len;simp [tms] at this;omega) (by simpa [valsQ] using hsl) htab (Lib.hid hh)
end Go.Proofs.YtkhdocdddicgpaaGreatDoor
set_option linter.unusedVariables false
set_option linter.unusedSimpArgs false
namespace Go.Proofs.YtkhdocdddicgpaaGreatDoor
open Go.RowKit Go.Maps _root_.Go.Proofs.YtkhdocdddicgpaaGreatDoor.Nm
def FG (G:List Tm→ByteArray→Prop) (w:World) (e:Ending) (w':World):Prop :=
 ∃ ad n cap s ec l,e = .returned (.tuple #[.agg #[.slice ad n cap,.string s],.int .i64 ec])∧InF w' ad n cap s l∧Below w.heap.size w w'∧((ec=5∧l=[]∧s=⟨#[]⟩)∨(ec=0∧G l s))
theorem FormRes.fg {o:Option (Int→Rat)} {c:ByteArray} {w w':World} {e:Ending} (h:FormRes o c w e w') (hc:c.size≤100000) (hg:∀ g,o=some g→Good g∧(formOf g).length≤500) :
 FG (fun l s=>∃ g,o=some g∧Good g∧s=c∧l=tms (formOf g)) w e w':=by
 obtain ⟨hb,h⟩:=h
 cases o with
 | none =>
  exact ⟨_,_,_,_,_,[],h,⟨TsAt.nil _ _ _,Nat.zero_le _,by simp,Nat.zero_le _,fun _=>rfl⟩,hb,.inl ⟨rfl,rfl,rfl⟩⟩
 | some f =>
  obtain ⟨ad,n,cap,he,hts,a,ha,hl⟩:=h
  obtain ⟨h1,h2⟩:=hg f rfl
  refine ⟨ad,n,cap,c,0,_,he,⟨hts,hc,fun t ht => ?_,by simpa [tms] using h2,fun h=>by rw [ha] at h;cases h⟩,hb,.inr ⟨rfl,f,rfl,h1,rfl,rfl⟩⟩
  obtain ⟨p,hp,rfl⟩:=List.mem_map.1 ht
  have:=txt_small ((formOf_fo h1).1 p hp).2.1
  dsimp only;omega
theorem sumRes_len {p1 p2:Rat} {q1 q2:List Qm} {g:Int→Rat} (h:sumRes p1 p2 q1 q2=some g):(formOf g).length≤q1.length+q2.length:=by
 unfold sumRes at h
 split at h
 · have:=acc_length0 h
   rwa [List.length_append] at this
 · cases h
theorem sclRes_len {p r:Rat} {q:List Qm} {g:Int→Rat} (h:sclRes p r q=some g):(formOf g).length≤q.length:=by
 unfold sclRes at h
 split at h
 · have:=acc_length0 h
   unfold scl at this
   rwa [List.length_map] at this
 · cases h
theorem putRes_len {p1 p2:Rat} {q1 q2:List Qm} {c:Int} {g:Int→Rat} (h:putRes p1 p2 q1 q2 c=some g):(formOf g).length≤q1.length+q2.length:=by
 unfold putRes at h
 cases ho:sclRes p2 (co q1 c) q2 with
 | none=>rw [ho] at h;cases h
 | some f =>
  rw [ho] at h
  have h1:=sclRes_len ho
  have h2:=sumRes_len (p1:=p1) (p2:=p2*co q1 c) (q1:=wo q1 c) (q2:=formOf f) (g:=g) h
  have h3:=wo_length q1 c
  omega
theorem Add_gen (p1 p2:Rat) (x1 x2:ByteArray) (ad1 ad2:Option Addr) (n1 c1 n2 c2:Nat) (q1 q2:List Qm) (w:World) (h1:InV w ad1 n1 c1 p1 x1 q1) (h2:InV w ad2 n2 c2 p2 x2 q2) (hl:q1.length+q2.length≤500) (htab:Tab w) :
 Calls Tryz.prog 13 #[.agg #[.slice ad1 n1 c1,.string x1],.agg #[.slice ad2 n2 c2,.string x2]] w (FG (fun l s=>∃ g,sumRes p1 p2 q1 q2=some g∧Good g∧s=txt (p1+p2)∧l=tms (formOf g)) w):=by
 refine (Add_good p1 p2 x1 x2 ad1 ad2 n1 c1 n2 c2 q1 q2 w h1 h2 htab).mono fun e w' h => ?_
 cases ho:sumRes p1 p2 q1 q2 with
 | none =>
  rw [ho] at h
  obtain ⟨hb,h⟩:=h
  exact ⟨_,_,_,_,_,[],h,⟨TsAt.nil _ _ _,Nat.zero_le _,by simp,Nat.zero_le _,fun _=>rfl⟩,hb,.inl ⟨rfl,rfl,rfl⟩⟩
 | some g =>
  rw [ho] at h
  obtain ⟨hs,_,hg⟩:=sumRes_some h1.fo h2.fo ho
  exact h.fg (by have:=txt_small hs;omega) (fun f hf=>by cases hf;exact ⟨hg,by have:=sumRes_len ho;omega⟩)
theorem Put_gen (p1 p2:Rat) (x1 x2:ByteArray) (ad1 ad2:Option Addr) (n1 c1 n2 c2:Nat) (q1 q2:List Qm) (c:Int) (w:World) (h1:InV w ad1 n1 c1 p1 x1 q1) (h2:InV w ad2 n2 c2 p2 x2 q2) (hcol:ColIn c) (hl:q1.length+q2.length≤500) (htab:Tab w) :
 Calls Tryz.prog 25 #[.agg #[.slice ad1 n1 c1,.string x1],.int .i64 c,.agg #[.slice ad2 n2 c2,.string x2]] w (FG (fun l s=>∃ g,putRes p1 p2 q1 q2 c=some g∧Good g∧s=txt (p1+p2*co q1 c)∧l=tms (formOf g)) w):=by
 refine (Put_good p1 p2 x1 x2 ad1 ad2 n1 c1 n2 c2 q1 q2 c w h1 h2 hcol htab).mono fun e w' h => ?_
 cases ho:putRes p1 p2 q1 q2 c with
 | none =>
  rw [ho] at h
  obtain ⟨hb,h⟩:=h
  exact ⟨_,_,_,_,_,[],h,⟨TsAt.nil _ _ _,Nat.zero_le _,by simp,Nat.zero_le _,fun _=>rfl⟩,hb,.inl ⟨rfl,rfl,rfl⟩⟩
 | some g =>
  rw [ho] at h
  obtain ⟨hs,_,hg⟩:=putRes_some h1.fo h2.fo ho
  exact h.fg (by have:=txt_small hs;omega) (fun f hf=>by cases hf;exact ⟨hg,by have:=putRes_len ho;omega⟩)
structure LV (w W:World) (x0:Option Addr) (n0 c0:Nat) (s0:ByteArray) (l0:List Tm) (x1:Option Addr) (n1 c1:Nat) (s1:ByteArray) (l1:List Tm) (x2:Option Addr) (n2 c2:Nat) (ss:List ByteArray):Prop where
 a:Bx W w.heap.size (.slice x0 n0 c0) (.string s0)
 b:Bx W (w.heap.size+1) (.slice x1 n1 c1) (.string s1)
 fa:TsAt W (.slice x0 n0 c0) l0
 fb:TsAt W (.slice x1 n1 c1) l1
 vs:SsAt W (.slice x2 n2 c2) ss
 tab:Tab W
 ers:Ers W
 below:Below w.heap.size w W
theorem LV.keep {w W W':World} {x0:Option Addr} {n0 c0:Nat} {s0:ByteArray} {l0:List Tm} {x1:Option Addr} {n1 c1:Nat} {s1:ByteArray} {l1:List Tm} {x2:Option Addr} {n2 c2:Nat} {ss:List ByteArray}
 (h:LV w W x0 n0 c0 s0 l0 x1 n1 c1 s1 l1 x2 n2 c2 ss) (hb:Below W.heap.size W W'):LV w W' x0 n0 c0 s0 l0 x1 n1 c1 s1 l1 x2 n2 c2 ss :=
 ⟨h.a.below hb h.a.lt,h.b.below hb h.b.lt,h.fa.keep hb (Nat.le_refl _),h.fb.keep hb (Nat.le_refl _),h.vs.keep hb (Nat.le_refl _),tab_keep h.tab hb,h.ers.keep hb (Nat.le_refl _),h.below.trans (hb.mono h.below.size)⟩
theorem LV.start (w:World) {x0:Option Addr} {n0 c0:Nat} {s0:ByteArray} {l0:List Tm} {x1:Option Addr} {n1 c1:Nat} {s1:ByteArray} {l1:List Tm} {x2:Option Addr} {n2 c2:Nat} {ss:List ByteArray}
 (ha:TsAt w (.slice x0 n0 c0) l0) (hb:TsAt w (.slice x1 n1 c1) l1) (hv:SsAt w (.slice x2 n2 c2) ss) (ht:Tab w) (he:Ers w) :
 LV w ((w.alloc (.cells #[.slice x0 n0 c0,.string s0] 24)).alloc (.cells #[.slice x1 n1 c1,.string s1] 24)) x0 n0 c0 s0 l0 x1 n1 c1 s1 l1 x2 n2 c2 ss:=by
 have hA:=(Below.refl w.heap.size w).alloc (Nat.le_refl _) (.cells #[.slice x0 n0 c0,.string s0] 24)
 have hA2:=hA.alloc (by simp) (.cells #[.slice x1 n1 c1,.string s1] 24)
 have hn:=Bx.new (w.alloc (.cells #[.slice x0 n0 c0,.string s0] 24)) (.slice x1 n1 c1) (.string s1) 24
 simp only [World.size_alloc] at hn
 exact ⟨(Bx.new w (.slice x0 n0 c0) (.string s0) 24).alloc _,hn,ha.keep hA2 (Nat.le_refl _),hb.keep hA2 (Nat.le_refl _),hv.keep hA2 (Nat.le_refl _),tab_keep ht hA2,he.keep hA2 (Nat.le_refl _),hA2⟩
end Go.Proofs.YtkhdocdddicgpaaGreatDoor
set_option linter.unusedVariables false
set_option linter.unusedSimpArgs false
namespace Go.Proofs.YtkhdocdddicgpaaGreatDoor
open Go.RowKit Go.Maps _root_.Go.Proofs.YtkhdocdddicgpaaGreatDoor.Nm
end Go.Proofs.YtkhdocdddicgpaaGreatDoor
