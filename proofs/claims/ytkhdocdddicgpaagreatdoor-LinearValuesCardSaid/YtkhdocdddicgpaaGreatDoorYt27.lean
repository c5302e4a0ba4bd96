/- Part 27: what the law's walk leans on. -/
import Derived.Test.YtkhdocdddicgpaaGreatDoorYt26
set_option linter.unusedVariables false
set_option linter.unusedSimpArgs false
namespace Go.Proofs.YtkhdocdddicgpaaGreatDoor
open Go.RowKit Go.Maps _root_.Go.Proofs.YtkhdocdddicgpaaGreatDoor.Nm
def rowOf (f:Int→Rat) (n:Nat):List Rat:=(List.range n).map fun (i:Nat)=>f (i:Int)
theorem rowOf_zero (n:Nat):rowOf (fun _=>0) n=List.replicate n 0:=by
 unfold rowOf
 rw [List.map_const',List.length_range]
def colsUp {α:Type} (m:Nat):List (Int × α)→Nat
 | []=>m
 | p::q=>colsUp (max m (p.1.toNat+1)) q
def colsOf (q:List Qm):Nat:=colsUp 0 q
theorem colsUp_tms:∀ (q:List Qm) (m:Nat),colsUp m (tms q)=colsUp m q
 | [],_=>rfl
 | _::q,m=>colsUp_tms q _
theorem colsUp_snoc {α:Type}:∀ (q:List (Int × α)) (m:Nat) (p:Int × α),colsUp m (q++[p])=max (colsUp m q) (p.1.toNat+1)
 | [],_,_=>rfl
 | _::q,m,p=>colsUp_snoc q _ p
theorem colsUp_le {α:Type}:∀ (q:List (Int × α)) (m:Nat),m≤colsUp m q
 | [],_=>Nat.le_refl _
 | p::q,m=>Nat.le_trans (Nat.le_max_left _ _) (colsUp_le q _)
theorem colsUp_mem {α:Type}:∀ (q:List (Int × α)) (m:Nat) (p:Int × α),p∈q→p.1.toNat+1≤colsUp m q
 | x::q,m,p,h=>by
  rcases List.mem_cons.1 h with rfl | h
  · exact Nat.le_trans (Nat.le_max_right _ _) (colsUp_le q _)
  · exact colsUp_mem q _ p h
theorem flat4_set:∀ (cs:List C4) (i:Nat) (c:C4),i<cs.length→flat4 (cs.set i c)=((((flat4 cs).set (i*4) c.1).set (i*4+1) c.2.1).set (i*4+2) c.2.2.1).set (i*4+3) c.2.2.2
 | [],i,c,h=>absurd h (Nat.not_lt_zero i)
 | p::q,0,c,_=>rfl
 | p::q,i+1,c,h=>by
  have ih:=flat4_set q i c (by simpa using h)
  have e1:(i+1)*4=i*4+1+1+1+1:=by omega
  rw [e1,List.set_cons_succ,show flat4 (p::q.set i c)=p.1::p.2.1::p.2.2.1::p.2.2.2::flat4 (q.set i c) from rfl,ih,show flat4 (p::q)=p.1::p.2.1::p.2.2.1::p.2.2.2::flat4 q from rfl]
  simp only [List.set_cons_succ]
theorem RRef.bn_set {W:World} {x:Value} {r:Rat} {g:Nat} (h:RRef W x r) (hb:BN W g) (o:Nat) (u:Value):RRef (W.setCell ⟨g,o,none⟩ u) x r:=h.grown_box hb.noInt (grown_set W g o u)
theorem RowQ.set {B:Nat} {W:World} {g n cap:Nat} {qs:List Rat} {cs:List C4} {c:C4} {r:Rat} (h:RowQ B W (.slice (some ⟨g,0,none⟩) n cap) qs cs) (i:Nat) (hi:i<qs.length) (hc:RRef W (agg4 c) r) :
 RowQ B ((((W.setCell ⟨g,i*4,none⟩ c.1).setCell ⟨g,i*4+1,none⟩ c.2.1).setCell ⟨g,i*4+2,none⟩ c.2.2.1).setCell ⟨g,i*4+3,none⟩ c.2.2.2) (.slice (some ⟨g,0,none⟩) n cap) (qs.set i r) (cs.set i c) ∧
 (∀ {x:Value} {y:Rat},RRef W x y→RRef ((((W.setCell ⟨g,i*4,none⟩ c.1).setCell ⟨g,i*4+1,none⟩ c.2.1).setCell ⟨g,i*4+2,none⟩ c.2.2.1).setCell ⟨g,i*4+3,none⟩ c.2.2.2) x y):=by
 have hni:=hc.ni
 have n0:NI c.1:=hni _ (by simp [cells4])
 have n1:NI c.2.1:=hni _ (by simp [cells4])
 have n2:NI c.2.2.1:=hni _ (by simp [cells4])
 have n3:NI c.2.2.2:=hni _ (by simp [cells4])
 have hb:BN W g:=by
  obtain ⟨cur,e,h1,h2⟩:=h.ni g rfl
  exact ⟨cur,e,h1,fun u hu=>by obtain ⟨j,hj,rfl⟩:=Array.mem_iff_getElem.1 hu;exact h2 j _ (Array.getElem?_eq_getElem hj)⟩
 have b1:=hb.set (i*4) n0
 have b2:=b1.set (i*4+1) n1
 have b3:=b2.set (i*4+2) n2
 have b4:=b3.set (i*4+3) n3
 have off:∀ {x:Value} {y:Rat},RRef W x y→RRef ((((W.setCell ⟨g,i*4,none⟩ c.1).setCell ⟨g,i*4+1,none⟩ c.2.1).setCell ⟨g,i*4+2,none⟩ c.2.2.1).setCell ⟨g,i*4+3,none⟩ c.2.2.2) x y :=
  fun hx=>(((hx.bn_set hb _ _).bn_set b1 _ _).bn_set b2 _ _).bn_set b3 _ _
 refine ⟨⟨?_,by rw [List.length_set,List.length_set];exact h.len,fun j h1 h2 => ?_,fun g' hg' => ?_⟩,off⟩
 · have hic:i<cs.length:=by rw [h.len];exact hi
   refine ⟨by rw [List.length_set,flat4_length,List.length_set,h.len],?_⟩
   rcases h.own.2 with ⟨e,_⟩ | ⟨g',cap',cur,e,hB,hg,h1,h2,h3,h4⟩
   · cases e
   · simp only [Value.slice.injEq,Option.some.injEq,Addr.mk.injEq] at e
     obtain ⟨⟨rfl,_⟩,e2,rfl⟩:=e
     refine .inr ⟨g,cap,_,by rw [List.length_set,e2],hB,set_at _ g _ _ _ _ (set_at _ g _ _ _ _ (set_at _ g _ _ _ _ (set_at W g _ _ _ _ hg))),by rw [List.length_set];exact h1,h2,by simp [h3],?_⟩
     simp only [Array.toList_setIfInBounds,List.length_set]
     rw [List.take_set,List.take_set,List.take_set,List.take_set,h4,flat4_set cs i c hic]
 · rw [List.length_set] at h1 h2
   rw [List.getElem_set,List.getElem_set]
   split
   · exact off hc
   · exact off (h.is_ j h1 h2)
 · have e:g=g':=by simpa [Value.ownBlock] using hg'
   subst e
   obtain ⟨cur,T,h1,h2⟩:=b4
   exact ⟨cur,T,h1,fun j u hu=>h2 u (Array.mem_of_getElem? hu)⟩
theorem RRef.expl {W:World} {c:C4} {q:Rat} (h:RRef W (agg4 c) q):∃ n1 a1 l1 c1 n2 a2 l2 c2,c=(.bool n1,.slice a1 l1 c1,.bool n2,.slice a2 l2 c2):=by
 obtain ⟨n1,a1,l1,c1,n2,a2,l2,c2,e,_,_⟩:=h
 obtain ⟨x0,x1,x2,x3⟩:=c
 unfold agg4 at e
 simp only [Value.agg.injEq,Array.mk.injEq,List.cons.injEq,and_true] at e
 obtain ⟨rfl,rfl,rfl,rfl⟩:=e
 exact ⟨n1,a1,l1,c1,n2,a2,l2,c2,rfl⟩
theorem RowQ.away {B:Nat} {W W':World} {v:Value} {qs:List Rat} {cs:List C4} {g:Nat} (h:RowQ B W v qs cs) (hg:W.grownBy W' (some g)) (hni:NoInt W g) (hne:∀ b,v.ownBlock=some b→b≠g):RowQ B W' v qs cs:=by
 refine ⟨h.own.kept hg ?_,h.len,fun i h1 h2=>(h.is_ i h1 h2).grown_box hni hg,h.ni.keep (fun b hb=>hg.block b (h.own.lt b hb).2 (by have:=hne b hb;simp;omega))⟩
 cases hv:v.ownBlock with
 | none=>exact .inl rfl
 | some b=>exact .inr (by have:=hne b hv;simp;exact this)
structure Ka (B:Nat) (W:World) (g:Nat) (v:Value) (qs:List Rat) (cs:List C4) (c:C4) (r:Rat):Prop where
 row:RowQ B W v qs cs
 num:RRef W (agg4 c) r
 bn:BN W g
 ne:∀ b,v.ownBlock=some b→b≠g
theorem Ka.set {B:Nat} {W:World} {g:Nat} {v:Value} {qs:List Rat} {cs:List C4} {c:C4} {r:Rat} (h:Ka B W g v qs cs c r) (o:Nat) {u:Value} (hu:NI u):Ka B (W.setCell ⟨g,o,none⟩ u) g v qs cs c r :=
 ⟨h.row.away (grown_set W g o u) h.bn.noInt h.ne,h.num.bn_set h.bn o u,h.bn.set o hu,h.ne⟩
theorem B5.put4 {W:World} {g:Nat} {s x0 x1 x2 x3:Value} (h:B5 W g s x0 x1 x2 x3) (y0 y1 y2 y3:Value):B5 ((((W.setCell ⟨g,1,none⟩ y0).setCell ⟨g,2,none⟩ y1).setCell ⟨g,3,none⟩ y2).setCell ⟨g,4,none⟩ y3) g s y0 y1 y2 y3:=by
 obtain ⟨T,h⟩:=h
 exact ⟨T,set_at _ g 4 _ T y3 (set_at _ g 3 _ T y2 (set_at _ g 2 _ T y1 (set_at W g 1 _ T y0 h)))⟩
theorem heap_set4 (W:World) (g a b c d:Nat) (x y z u:Value) (k:Nat) (h:k≠g):((((W.setCell ⟨g,a,none⟩ x).setCell ⟨g,b,none⟩ y).setCell ⟨g,c,none⟩ z).setCell ⟨g,d,none⟩ u).heap[k]?=W.heap[k]? :=
 (Below.heap_setCell _ _ _ k h).trans ((Below.heap_setCell _ _ _ k h).trans ((Below.heap_setCell _ _ _ k h).trans (Below.heap_setCell _ _ _ k h)))
theorem below_set4 {B:Nat} {w W:World} (hb:Below B w W) (g a b c d:Nat) (x y z u:Value) (h:B≤g):Below B w ((((W.setCell ⟨g,a,none⟩ x).setCell ⟨g,b,none⟩ y).setCell ⟨g,c,none⟩ z).setCell ⟨g,d,none⟩ u) :=
 (((hb.setCell h _).setCell h _).setCell h _).setCell h _
theorem rowOf_length (f:Int→Rat) (n:Nat):(rowOf f n).length=n:=by unfold rowOf;simp
theorem rowOf_get (f:Int→Rat) (n j:Nat) (h:j<(rowOf f n).length):(rowOf f n)[j]=f (j:Int):=by
 have h1:(rowOf f n)[j]?=some (f (j:Int)):=by
  have hj:j<n:=by rw [rowOf_length] at h;exact h
  unfold rowOf;simp [hj]
 rw [List.getElem?_eq_getElem h] at h1
 exact Option.some.inj h1
theorem rowOf_set (f:Int→Rat) (n j:Nat) (r:Rat):(rowOf f n).set j r=rowOf (upd f (j:Int) r) n:=by
 apply List.ext_getElem
 · simp [rowOf_length]
 · intro i h1 h2
   rw [List.getElem_set,rowOf_get,rowOf_get]
   split
   · next e=>subst e;rw [upd_same]
   · next e=>rw [upd_other _ _ (by omega)]
theorem RowQ.froz {B:Nat} {W:World} {g n cap:Nat} {qs:List Rat} {cs:List C4} (h:RowQ B W (.slice (some ⟨g,0,none⟩) n cap) qs cs) (o:Nat):W.frozen? ⟨g,o,none⟩=false:=by
 obtain ⟨cur,e,h1,_⟩:=h.ni g rfl
 simp [World.frozen?,h1]
theorem TsAt.at {W:World} {g off n cap:Nat} {l:List Tm} (h:TsAt W (.slice (some ⟨g,off,none⟩) n cap) l) (i:Nat) (t:Tm) (hl:l[i]?=some t):W.cell? ⟨g,off+i*2,none⟩=some (.int .i64 t.1)∧W.cell? ⟨g,off+i*2+1,none⟩=some (.string t.2)∧g<W.heap.size:=by
 obtain ⟨hi,rfl⟩:=List.getElem?_eq_some_iff.1 hl
 obtain ⟨ad,n',cap',e1,e2,h⟩:=h
 cases e1
 rcases h with h | ⟨g',off',e3,hg,hc⟩
 · omega
 · cases e3
   exact ⟨(hc i hi).1,(hc i hi).2,hg⟩
def ReadRes (c:ByteArray) (l:List Tm) (w:World) (e:Ending) (w':World):Prop :=
 Below w.heap.size w w'∧(if partsErr c l≠0 then e = .returned (.tuple #[.agg #[.slice none 0 0,.bool false,.slice none 0 0,.bool false,.slice none 0 0],.int .i64 (partsErr c l)]) else
  ∀ qc q,rshort qc=true→c=txt qc→l=tms q→(∀ p∈q,ColIn p.1∧rshort p.2=true)→match acc (fun _=>0) q with
   | none=>e = .returned (.tuple #[.agg #[.slice none 0 0,.bool false,.slice none 0 0,.bool false,.slice none 0 0],.int .i64 5])
   | some f=>∃ v,e = .returned (.tuple #[v,.int .i64 0])∧FormQ w' w.heap.size v (rowOf f (colsOf q)) qc)
theorem any_take {p:Tm→Bool} {l:List Tm} {k:Nat} (h:k<l.length) (hp:p l[k]=true):l.any p=true:=List.any_eq_true.2 ⟨l[k],List.getElem_mem h,hp⟩
theorem any_all {p:Tm→Bool} {l:List Tm} (h:∀ (i:Nat) (h:i<l.length),p l[i]=false):l.any p=false:=by
 rw [List.any_eq_false]
 intro x hx
 obtain ⟨i,hi,rfl⟩:=List.mem_iff_getElem.1 hx
 rw [h i hi];simp
set_option maxRecDepth 100000 in
set_option maxHeartbeats 12800000 in
theorem fRead_any (c:ByteArray) (ad:Option Addr) (n cap:Nat) (l:List Tm) (w:World) (hv:TsAt w (.slice ad n cap) l) (hc:c.size≤100000) (hl:∀ t∈l,t.2.size≤100000) (hn:l.length≤500) :
 Calls Tryz.prog 35 #[.string c,.slice ad n cap] w (ReadRes c l w):=by
 have hA:=(Below.refl w.heap.size w).alloc (Nat.le_refl _) (.cells #[.slice none 0 0,.bool false,.slice none 0 0,.bool false,.slice none 0 0] 35)
 have HR0:=Lib.hid (B5.new w (.slice none 0 0) (.bool false) (.slice none 0 0) (.bool false) (.slice none 0 0) 35)
 have HW0:=Lib.hid hA
 have HT0:=Lib.hid (hv.keep hA (Nat.le_refl _))
 have HL:=Lib.hid (And.intro hl hn)
 have HV0:=Lib.hid hv
 have hnl:n=l.length:=by obtain ⟨_,_,_,e1,e2,_⟩:=hv;cases e1;exact e2
 have hn5:n≤500:=by omega
 have HNL:=Lib.hid hnl
 obtain ⟨oc,hoc⟩:∃ oc,rval c.data.toList=oc:=⟨_,rfl⟩
 have HOC:=Lib.hid hoc
 clear hA hv hl hn hoc hnl
 go_enter Tryz.func35,Tryz.ntmps35
 go_wp2_with fail
 refine (rrValid_any c oc _ HOC hc).mono ?_
 rintro e w1 ⟨rfl,hb⟩
 have HR1:=Lib.hid (HR0.out.keep (hb.mono (Nat.le_refl _)))
 have HT1:=Lib.hid (HT0.out.keep hb (Nat.le_refl _))
 have HW1:=Lib.hid (HW0.out.trans (hb.mono HW0.out.size))
 clear hb
 cases oc with
 | none =>
  rw [show (none:Option Rat).isSome=false from rfl]
  have HE:Hid (partsErr c l=3):=Lib.hid (by unfold partsErr noNum;rw [HOC.out];rfl)
  obtain ⟨b0,b1,b2,b3,b4⟩:=HR1.out.cell
  obtain ⟨f0,f1,f2,f3,f4⟩:=HR1.out.froz
  go_wp2
  obtain ⟨e0,e1,e2,e3,e4⟩:=(HR1.out.store (.slice none 0 0) (.bool false) (.slice none 0 0) (.bool false) (.slice none 0 0)).cell
  refine bodyPost_ret (v := .tuple #[.agg #[.slice none 0 0,.bool false,.slice none 0 0,.bool false,.slice none 0 0],.int .i64 3]) (by simp only [results,Tryz.results35];simp [go_sem,e0,e1,e2,e3,e4]) rfl ?_
  exact ⟨((((HW1.out.setCell (Nat.le_refl _) _).setCell (Nat.le_refl _) _).setCell (Nat.le_refl _) _).setCell (Nat.le_refl _) _).setCell (Nat.le_refl _) _,by rw [HE.out,if_pos (by decide)]⟩
 | some qc =>
  rw [show (some qc:Option Rat).isSome=true from rfl]
  have HNC:Hid (noNum c=false):=Lib.hid (by unfold noNum;rw [HOC.out];rfl)
  go_wp2
  go_loopw [6] (fun i wr=>∃ k:Nat,k≤n∧i = .int .i64 k∧Hid (∀ (i:Nat) (h:i<l.length),i<k→noNum l[i].2=false)∧Hid (B5 wr w.heap.size (.slice none 0 0) (.bool false) (.slice none 0 0) (.bool false) (.slice none 0 0))∧Hid (TsAt wr (.slice ad n cap) l)∧Hid (Below w.heap.size w wr)) (fun i _=>n-(intOf i).toNat)
  case atStart=>exact ⟨0,Nat.zero_le _,rfl,Lib.hid (fun i _ h=>absurd h (Nat.not_lt_zero i)),HR1,HT1,HW1⟩
  case round =>
   obtain ⟨k,hk,rfl,HK,HR,HT,HW⟩:=hrel
   obtain ⟨ad',n',cap',e1,e2,hv⟩:=HT.out
   cases e1
   have HLEN:=Lib.hid (And.intro trivial e2)
   clear e2
   by_cases hlt:k<n
   · have hkl:k<l.length:=by rw [← HLEN.out.2];exact hlt
     obtain ⟨g,off,rfl,hg,hcc⟩:∃ g off,ad=some ⟨g,off,none⟩∧g<wr.heap.size∧∀ (i:Nat) (h:i<l.length),wr.cell? ⟨g,off+i*2,none⟩=some (.int .i64 l[i].1)∧wr.cell? ⟨g,off+i*2+1,none⟩=some (.string l[i].2):=by
      rcases hv with h | h
      · omega
      · exact h
     obtain ⟨hcell0,hcell1⟩:=hcc k hkl
     have h1:(0:Int)≤k:=by omega
     have h2:(k:Int)<n:=by omega
     clear hv hcc hg
     obtain ⟨y,hy⟩:∃ y,l[k].2=y:=⟨_,rfl⟩
     rw [hy] at hcell1
     obtain ⟨oy,hoy⟩:∃ oy,rval y.data.toList=oy:=⟨_,rfl⟩
     have HOY:=Lib.hid hoy
     have HY:=Lib.hid hy
     have hys:y.size≤100000:=by rw [← hy];exact HL.out.1 _ (List.getElem_mem hkl)
     clear hy hoy
     go_wp2_with fail
     refine (rrValid_any y oy _ HOY hys).mono ?_
     rintro e w2 ⟨rfl,hb⟩
     have HR2:=Lib.hid (HR.out.keep hb)
     have HT2:=Lib.hid (HT.out.keep hb (Nat.le_refl _))
     have HW2:=Lib.hid (HW.out.trans (hb.mono HW.out.size))
     clear hb hcell0 hcell1
     cases oy with
     | none =>
      rw [show (none:Option Rat).isSome=false from rfl]
      have hbad:noNum l[k].2=true:=by rw [HY.out];unfold noNum;rw [HOY.out];rfl
      have HE:Hid (partsErr c l=3):=Lib.hid (by unfold partsErr;rw [any_take (p:=fun t=>noNum t.2) hkl hbad,Bool.or_true];rfl)
      clear hbad
      obtain ⟨b0,b1,b2,b3,b4⟩:=HR2.out.cell
      obtain ⟨f0,f1,f2,f3,f4⟩:=HR2.out.froz
      go_wp2
      obtain ⟨e0,e1,e2,e3,e4⟩:=(HR2.out.store (.slice none 0 0) (.bool false) (.slice none 0 0) (.bool false) (.slice none 0 0)).cell
      refine bodyPost_ret (v := .tuple #[.agg #[.slice none 0 0,.bool false,.slice none 0 0,.bool false,.slice none 0 0],.int .i64 3]) (by simp only [results,Tryz.results35];simp [go_sem,e0,e1,e2,e3,e4]) rfl ?_
      exact ⟨((((HW2.out.setCell (Nat.le_refl _) _).setCell (Nat.le_refl _) _).setCell (Nat.le_refl _) _).setCell (Nat.le_refl _) _).setCell (Nat.le_refl _) _,by rw [HE.out,if_pos (by decide)]⟩
     | some qy =>
      rw [show (some qy:Option Rat).isSome=true from rfl]
      have HK2:Hid (∀ (i:Nat) (h:i<l.length),i<k+1→noNum l[i].2=false):=Lib.hid (fun i h hi=>by
       rcases Nat.lt_or_ge i k with h3 | h3
       · exact HK.out i h h3
       · obtain rfl:i=k:=by omega
         rw [HY.out];unfold noNum;rw [HOY.out];rfl)
      go_wp2
      go_roundw
      case rel=>exact ⟨k+1,by omega,by go_num,HK2,HR2,HT2,HW2⟩
      case measure=>simp [intOf];omega
   · obtain rfl:n=k:=by omega
     have HNA:Hid ((l.any fun t=>noNum t.2)=false):=Lib.hid (any_all (p:=fun t=>noNum t.2) (fun i h=>HK.out i h (by rw [HLEN.out.2];exact h)))
     have hnn:¬ (n:Int)<n:=by omega
     clear hv
     go_wp2
     go_loopw [8,7] (fun i t wr=>∃ (k m:Nat),k≤n∧i = .int .i64 k∧t = .int .i64 m∧Hid (m=colsUp 0 (l.take k))∧m≤2048∧Hid (∀ (i:Nat) (h:i<l.length),i<k→okCol l[i].1=true)∧Hid (B5 wr w.heap.size (.slice none 0 0) (.bool false) (.slice none 0 0) (.bool false) (.slice none 0 0))∧Hid (TsAt wr (.slice ad n cap) l)∧Hid (Below w.heap.size w wr)) (fun i _ _=>n-(intOf i).toNat)
     case atStart=>exact ⟨0,0,Nat.zero_le _,rfl,rfl,Lib.hid rfl,by omega,Lib.hid (fun i _ h=>absurd h (Nat.not_lt_zero i)),HR,HT,HW⟩
     case round =>
      obtain ⟨k,m,hk,rfl,rfl,HM,hm,HK2,HR,HT,HW⟩:=hrel
      obtain ⟨ad',n',cap',e1,e2,hv⟩:=HT.out
      cases e1
      have HLEN:=Lib.hid (And.intro trivial e2)
      clear e2
      by_cases hlt:k<n
      · have hkl:k<l.length:=by rw [← HLEN.out.2];exact hlt
        obtain ⟨g,off,rfl,hg,hcc⟩:∃ g off,ad=some ⟨g,off,none⟩∧g<wr.heap.size∧∀ (i:Nat) (h:i<l.length),wr.cell? ⟨g,off+i*2,none⟩=some (.int .i64 l[i].1)∧wr.cell? ⟨g,off+i*2+1,none⟩=some (.string l[i].2):=by
         rcases hv with h | h
         · omega
         · exact h
        obtain ⟨hcell0,hcell1⟩:=hcc k hkl
        have h1:(0:Int)≤k:=by omega
        have h2:(k:Int)<n:=by omega
        clear hv hcc hg
        obtain ⟨col,hcol⟩:∃ col,l[k].1=col:=⟨_,rfl⟩
        rw [hcol] at hcell0
        have HCOL:=Lib.hid hcol
        clear hcol hcell1
        by_cases hok:okCol col=true
        · have hci:=okCol_in.1 hok
          obtain ⟨j,rfl⟩:∃ j:Nat,col=(j:Int):=⟨col.toNat,(Int.toNat_of_nonneg hci.1).symm⟩
          have hj0:¬ (j:Int)<0:=by omega
          have hj1:¬ (2048:Int)≤j:=by have:=hci.2;omega
          have hmx:max (m:Int) ((j:Int)+1)=((max m (j+1):Nat):Int):=by omega
          have HM2:Hid (max m (j+1)=colsUp 0 (l.take (k+1))):=Lib.hid (by rw [List.take_succ_eq_append_getElem hkl,colsUp_snoc, ← HM.out,HCOL.out];rfl)
          have HK3:Hid (∀ (i:Nat) (h:i<l.length),i<k+1→okCol l[i].1=true):=Lib.hid (fun i h hi=>by
           rcases Nat.lt_or_ge i k with h3 | h3
           · exact HK2.out i h h3
           · obtain rfl:i=k:=by omega
             rw [HCOL.out];exact hok)
          have hm2:max m (j+1)≤2048:=by have:=hci.2;omega
          clear hok hci
          go_wp2
          go_roundw
          case rel=>exact ⟨k+1,max m (j+1),by omega,by go_num,rfl,HM2,hm2,HK3,HR,HT,HW⟩
          case measure=>simp [intOf];omega
        · have HE:Hid (partsErr c l=2):=Lib.hid (by
           unfold partsErr
           rw [HNC.out,HNA.out,any_take (p:=fun t => !okCol t.1) hkl (by rw [HCOL.out];simpa using hok)]
           rfl)
          have hor:col<0∨(¬ col<0∧(2048:Int)≤col):=by
           rcases Int.lt_or_le col 0 with h | h
           · exact .inl h
           · refine .inr ⟨by omega,?_⟩
             rcases Int.lt_or_le col 2048 with h3 | h3
             · exact absurd (okCol_in.2 ⟨h,h3⟩) hok
             · exact h3
          clear hok
          rcases hor with h3 | ⟨h3,h4⟩
          · have hx:=h3
            obtain ⟨b0,b1,b2,b3,b4⟩:=HR.out.cell
            obtain ⟨f0,f1,f2,f3,f4⟩:=HR.out.froz
            go_wp2
            obtain ⟨e0,e1,e2,e3,e4⟩:=(HR.out.store (.slice none 0 0) (.bool false) (.slice none 0 0) (.bool false) (.slice none 0 0)).cell
            refine bodyPost_ret (v := .tuple #[.agg #[.slice none 0 0,.bool false,.slice none 0 0,.bool false,.slice none 0 0],.int .i64 2]) (by simp only [results,Tryz.results35];simp [go_sem,e0,e1,e2,e3,e4]) rfl ?_
            exact ⟨((((HW.out.setCell (Nat.le_refl _) _).setCell (Nat.le_refl _) _).setCell (Nat.le_refl _) _).setCell (Nat.le_refl _) _).setCell (Nat.le_refl _) _,by rw [HE.out,if_pos (by decide)]⟩
          · have hx:=h3
            obtain ⟨b0,b1,b2,b3,b4⟩:=HR.out.cell
            obtain ⟨f0,f1,f2,f3,f4⟩:=HR.out.froz
            go_wp2
            obtain ⟨e0,e1,e2,e3,e4⟩:=(HR.out.store (.slice none 0 0) (.bool false) (.slice none 0 0) (.bool false) (.slice none 0 0)).cell
            refine bodyPost_ret (v := .tuple #[.agg #[.slice none 0 0,.bool false,.slice none 0 0,.bool false,.slice none 0 0],.int .i64 2]) (by simp only [results,Tryz.results35];simp [go_sem,e0,e1,e2,e3,e4]) rfl ?_
            exact ⟨((((HW.out.setCell (Nat.le_refl _) _).setCell (Nat.le_refl _) _).setCell (Nat.le_refl _) _).setCell (Nat.le_refl _) _).setCell (Nat.le_refl _) _,by rw [HE.out,if_pos (by decide)]⟩
      · obtain rfl:n=k:=by omega
        have HPE:Hid (partsErr c l=0):=Lib.hid (by
         unfold partsErr
         rw [HNC.out,HNA.out,any_all (p:=fun t => !okCol t.1) (fun i h=>by rw [HK2.out i h (by rw [HLEN.out.2];exact h)];rfl)]
         rfl)
        have hmm:m=colsUp 0 l:=by have h:=HM.out;rwa [List.take_of_length_le (by rw [← HLEN.out.2];exact Nat.le_refl _)] at h
        obtain ⟨qd,q,hcq,hsh,hlq,hq⟩:=partsErr_zero HPE.out
        subst hlq
        rw [colsUp_tms] at hmm
        have hqd:qd=qc:=by
         have h1:=txt_val hsh
         rw [← hcq,HOC.out] at h1
         exact (Option.some.inj h1).symm
        subst hqd
        have HMM:=Lib.hid (And.intro trivial hmm)
        have HQ:=Lib.hid (And.intro hcq (And.intro hsh hq))
        have hnq:n=q.length:=by have h:=HLEN.out.2;simpa [tms] using h
        have HNQ:=Lib.hid (And.intro trivial hnq)
        clear hv hmm hcq hsh hq HK2 hnn hnq
        go_wp2_with fail
        refine (rZero_any m _ (by omega)).mono ?_
        rintro e w5 ⟨⟨v,rfl,sv,cs,c4,rfl,hrow,hnum⟩,hb⟩
        obtain ⟨i1,j1,k1,l1,i2,j2,k2,l2,rfl⟩:=hnum.expl
        obtain ⟨asl,cas,hsv⟩:=hrow.slice
        rw [List.length_replicate] at hsv
        subst hsv
        have hC:Below w5.heap.size w5 (w5.alloc (.cells #[.slice asl m cas,.bool i1,.slice j1 k1 l1,.bool i2,.slice j2 k2 l2] 35)):=(Below.refl _ w5).alloc (Nat.le_refl _) _
        have hbC:=hb.trans (hC.mono hb.size)
        have HR5:=Lib.hid (HR.out.keep hbC)
        have HT5:=Lib.hid (HT.out.keep hbC (Nat.le_refl _))
        have HW5:=Lib.hid (HW.out.trans (hbC.mono HW.out.size))
        have HQ5:=Lib.hid (hrow.keep hC)
        have HB5:=Lib.hid (B5.new w5 (.slice asl m cas) (.bool i1) (.slice j1 k1 l1) (.bool i2) (.slice j2 k2 l2) 35)
        have HNE:Hid (∀ b,(Value.slice asl m cas).ownBlock=some b→b≠w5.heap.size):=Lib.hid (fun b hb=>by have:=(hrow.own.lt b hb).2;omega)
        have HLT:Hid (w.heap.size<w5.heap.size):=Lib.hid (Nat.lt_of_lt_of_le HR.out.lt hb.size)
        have HBS:Hid (w.heap.size<wr.heap.size):=Lib.hid HR.out.lt
        clear hrow hnum hb hC hbC
        go_wp2_with fail
        refine (rrOf_some c qd _ HOC hc).mono ?_
        rintro e w6 ⟨v6,rfl,hr6,hb6⟩
        obtain ⟨o1,p1,r1,s1,o2,p2,r2,s2,rfl,z1,z2⟩:=hr6
        have hnum:RRef w6 (agg4 (.bool o1,.slice p1 r1 s1,.bool o2,.slice p2 r2 s2)) qd:=⟨_,_,_,_,_,_,_,_,rfl,z1,z2⟩
        have hB6:=HB5.out.keep hb6
        have hR6:=HR5.out.keep hb6
        have hT6:=HT5.out.keep hb6 (Nat.le_refl _)
        have hW6:=HW5.out.trans (hb6.mono HW5.out.size)
        have hka:Ka wr.heap.size w6 w5.heap.size (.slice asl m cas) (List.replicate m 0) cs (.bool o1,.slice p1 r1 s1,.bool o2,.slice p2 r2 s2) qd:=⟨HQ5.out.keep hb6,hnum,hB6.bn (ni5 (ni_slice _ _ _) _ _ _ _ _ _ _ _),HNE.out⟩
        have HKA:=Lib.hid ((((hka.set 1 (ni_bool o1)).set 2 (ni_slice p1 r1 s1)).set 3 (ni_bool o2)).set 4 (ni_slice p2 r2 s2))
        obtain ⟨x0,x1,x2,x3,x4⟩:=hB6.cell
        obtain ⟨y0,y1,y2,y3,y4⟩:=hB6.froz
        have HB6:=Lib.hid hB6
        have HR6:=Lib.hid hR6
        have HT6:=Lib.hid hT6
        have HW6:=Lib.hid hW6
        have HKB:=Lib.hid (HKA.out.row.base (B':=w.heap.size+1) HBS.out)
        clear z1 z2 hnum hB6 hR6 hT6 hW6 hka hb6
        go_wp2
        go_loopw [10] (fun i W=>∃ (k:Nat) (f:Int→Rat) (cs:List C4),k≤n∧i = .int .i64 k∧Hid (acc (fun _=>0) (q.take k)=some f)∧Hid (RowQ (w.heap.size+1) W (.slice asl m cas) (rowOf f m) cs)∧Hid (B5 W w5.heap.size (.slice asl m cas) (.bool o1) (.slice p1 r1 s1) (.bool o2) (.slice p2 r2 s2))∧Hid (RRef W (agg4 (.bool o1,.slice p1 r1 s1,.bool o2,.slice p2 r2 s2)) qd)∧Hid (B5 W w.heap.size (.slice none 0 0) (.bool false) (.slice none 0 0) (.bool false) (.slice none 0 0))∧Hid (Below w.heap.size w W)) (fun i _=>n-(intOf i).toNat)
        case atStart=>exact ⟨0,fun _=>0,cs,Nat.zero_le _,rfl,Lib.hid rfl,Lib.hid (by rw [rowOf_zero];exact HKB.out),Lib.hid (HB6.out.put4 _ _ _ _),Lib.hid HKA.out.num,Lib.hid (HR6.out.same (heap_set4 _ _ _ _ _ _ _ _ _ _ _ (by have:=HLT.out;omega))),Lib.hid (below_set4 HW6.out _ _ _ _ _ _ _ _ _ (by have:=HLT.out;omega))⟩
        case round =>
         obtain ⟨k,f,cs,hk,rfl,HACC,HROW,HBX,HNUM,HRB,HW⟩:=hrel
         have HT:=Lib.hid (HV0.out.keep HW.out (Nat.le_refl _))
         by_cases hlt:k<n
         · have hkq:k<q.length:=by rw [← HNQ.out.2];exact hlt
           obtain ⟨p,hp⟩:∃ p,q[k]=p:=⟨_,rfl⟩
           have hmem:p∈q:=by rw [← hp];exact List.getElem_mem hkq
           obtain ⟨hci,hps⟩:=HQ.out.2.2 p hmem
           obtain ⟨j,hpj⟩:∃ j:Nat,p.1=(j:Int):=⟨p.1.toNat,(Int.toNat_of_nonneg hci.1).symm⟩
           have hjm:j<m:=by
            have h3:=colsUp_mem q 0 p hmem
            rw [hpj] at h3
            have h4:=HMM.out.2
            simp at h3;omega
           obtain ⟨z,hz⟩:∃ z,txt p.2=z:=⟨_,rfl⟩
           obtain ⟨ad',n',cap',e1,e2,hv⟩:=HT.out
           cases e1
           clear e2
           obtain ⟨g,off,rfl,hg,hcc⟩:∃ g off,ad=some ⟨g,off,none⟩∧g<wr.heap.size∧∀ (i:Nat) (h:i<(tms q).length),wr.cell? ⟨g,off+i*2,none⟩=some (.int .i64 (tms q)[i].1)∧wr.cell? ⟨g,off+i*2+1,none⟩=some (.string (tms q)[i].2):=by
            rcases hv with h | h
            · omega
            · exact h
           obtain ⟨hcell0,hcell1⟩:=hcc k (by simpa [tms] using hkq)
           have ek:(tms q)[k]'(by simpa [tms] using hkq)=(p.1,txt p.2):=by simp [tms,hp]
           rw [ek] at hcell0 hcell1
           dsimp only at hcell0 hcell1
           rw [hpj] at hcell0
           rw [hz] at hcell1
           obtain ⟨gr,capr,cr,ev,t0,t1,t2,t3,hrr⟩:=HROW.out.at j (by rw [rowOf_length];exact hjm)
           rw [rowOf_get] at hrr
           rw [rowOf_length] at ev
           simp only [Value.slice.injEq,true_and] at ev
           obtain ⟨rfl,rfl⟩:=ev
           obtain ⟨q1,q2,q3,q4,q5,q6,q7,q8,rfl⟩:=hrr.expl
           dsimp only at t0 t1 t2 t3
           have hgr:gr<wr.heap.size:=World.block_lt_of_cell? _ _ t0
           have hgne:gr≠w5.heap.size:=HNE.out gr rfl
           have hgne2:gr≠w.heap.size:=by have:=(HROW.out.own.lt gr rfl).1;omega
           have hgood:Good f:=acc_good (q.take k) _ f good_zero (fun x hx=>(HQ.out.2.2 x (List.mem_of_mem_take hx)).1) HACC.out
           obtain ⟨r,hr⟩:∃ r,f (j:Int)+p.2=r:=⟨_,rfl⟩
           have HRS:=Lib.hid hr
           have HZV:Hid (rval z.data.toList=some p.2):=Lib.hid (by rw [← hz];exact txt_val hps)
           have hzs:z.size≤100000:=by rw [← hz];have:=txt_small hps;omega
           have HFS:=Lib.hid (And.intro (hgood.short (j:Int)) hps)
           have HP:=Lib.hid (And.intro hp hpj)
           have HEK:Hid ((tms q)[k]?=some ((j:Int),z)):=Lib.hid (by rw [List.getElem?_eq_getElem (by simpa [tms] using hkq),ek,hpj,hz])
           have HRR:=Lib.hid hrr
           have hacc:acc (fun _=>0) (q.take (k+1))=if rshort r=true then some (upd f (j:Int) r) else none:=by
            rw [List.take_succ_eq_append_getElem hkq,hp,acc_snoc HACC.out,hpj,hr]
           have HACC2:=Lib.hid hacc
           have hSW:∀ W',Below wr.heap.size wr W'→W'.cell? ⟨w5.heap.size,0,none⟩=some (.slice (some ⟨gr,0,none⟩) m cas)∧W'.cell? ⟨g,off+k*2,none⟩=some (.int .i64 (j:Int))∧W'.cell? ⟨g,off+k*2+1,none⟩=some (.string z)∧W'.cell? ⟨gr,j*4,none⟩=some (.bool q1)∧W'.cell? ⟨gr,j*4+1,none⟩=some (.slice q2 q3 q4)∧W'.cell? ⟨gr,j*4+2,none⟩=some (.bool q5)∧W'.cell? ⟨gr,j*4+3,none⟩=some (.slice q6 q7 q8):=fun W' hb =>
            ⟨(hb.cell HBX.out.lt).trans HBX.out.cell.1,(hb.cell (p:=⟨g,off+k*2,none⟩) hg).trans hcell0,(hb.cell (p:=⟨g,off+k*2+1,none⟩) hg).trans hcell1,(hb.cell (p:=⟨gr,j*4,none⟩) hgr).trans t0,(hb.cell (p:=⟨gr,j*4+1,none⟩) hgr).trans t1,(hb.cell (p:=⟨gr,j*4+2,none⟩) hgr).trans t2,(hb.cell (p:=⟨gr,j*4+3,none⟩) hgr).trans t3⟩
           have HSW:=Lib.hid hSW
           have h1:(0:Int)≤k:=by omega
           have h2:(k:Int)<n:=by omega
           have h3:(0:Int)≤j:=by omega
           have h4:(j:Int)<m:=by omega
           have hS0:=HSW.out wr.drew (Below.refl _ wr).drew
           clear hv hcc ek hp hpj hz hr hps hci hmem hgood hrr hacc hSW
           go_wp2_with fail
           refine region_plainX (S:=fun W'=>W'.cell? ⟨w5.heap.size,0,none⟩=some (.slice (some ⟨gr,0,none⟩) m cas)∧W'.cell? ⟨g,off+k*2,none⟩=some (.int .i64 (j:Int))∧W'.cell? ⟨g,off+k*2+1,none⟩=some (.string z)∧W'.cell? ⟨gr,j*4,none⟩=some (.bool q1)∧W'.cell? ⟨gr,j*4+1,none⟩=some (.slice q2 q3 q4)∧W'.cell? ⟨gr,j*4+2,none⟩=some (.bool q5)∧W'.cell? ⟨gr,j*4+3,none⟩=some (.slice q6 q7 q8)) (m:=24) (by kernel_rfl) ?_
           refine x_take (i:=0) (v := .pointer (some ⟨w5.heap.size,0,none⟩)) rfl rfl (by kernel_rfl) (by kernel_rfl) (by kernel_rfl) (by kernel_rfl) (fun _ _ _ h=>h) (.inl ⟨by rfl,?_⟩) hS0 ?_
           · intro w hSw;(try dsimp only at hSw);go_simp
           simp only [Act.put,List.setIfInBounds_toArray,List.set_cons_zero,List.set_cons_succ]
           refine x_take (i:=1) (v := .slice (some ⟨gr,0,none⟩) m cas) rfl rfl (by kernel_rfl) (by kernel_rfl) (by kernel_rfl) (by kernel_rfl) (fun _ _ _ h=>h) (.inl ⟨by rfl,?_⟩) hS0 ?_
           · intro w hSw;(try dsimp only at hSw);go_simp
           simp only [Act.put,List.setIfInBounds_toArray,List.set_cons_zero,List.set_cons_succ]
           refine x_take (i:=2) (v := .slice (some ⟨g,off,none⟩) n cap) rfl rfl (by kernel_rfl) (by kernel_rfl) (by kernel_rfl) (by kernel_rfl) (fun _ _ _ h=>h) (.inl ⟨by rfl,?_⟩) hS0 ?_
           · intro w hSw;(try dsimp only at hSw);go_simp
           simp only [Act.put,List.setIfInBounds_toArray,List.set_cons_zero,List.set_cons_succ]
           refine x_take (i:=3) (v := .int .i64 k) rfl rfl (by kernel_rfl) (by kernel_rfl) (by kernel_rfl) (by kernel_rfl) (fun _ _ _ h=>h) (.inl ⟨by rfl,?_⟩) hS0 ?_
           · intro w hSw;(try dsimp only at hSw);go_simp
           simp only [Act.put,List.setIfInBounds_toArray,List.set_cons_zero,List.set_cons_succ]
           refine x_take (i:=4) (v := .pointer (some ⟨g,off+k*2,none⟩)) rfl rfl (by kernel_rfl) (by kernel_rfl) (by kernel_rfl) (by kernel_rfl) (fun _ _ _ h=>h) (.inl ⟨by rfl,?_⟩) hS0 ?_
           · intro w hSw;(try dsimp only at hSw);go_simp
           simp only [Act.put,List.setIfInBounds_toArray,List.set_cons_zero,List.set_cons_succ]
           refine x_take (i:=5) (v := .pointer (some ⟨g,off+k*2,none⟩)) rfl rfl (by kernel_rfl) (by kernel_rfl) (by kernel_rfl) (by kernel_rfl) (fun _ _ _ h=>h) (.inl ⟨by rfl,?_⟩) hS0 ?_
           · intro w hSw;(try dsimp only at hSw);go_simp
           simp only [Act.put,List.setIfInBounds_toArray,List.set_cons_zero,List.set_cons_succ]
           refine x_take (i:=6) (v := .int .i64 j) rfl rfl (by kernel_rfl) (by kernel_rfl) (by kernel_rfl) (by kernel_rfl) (fun _ _ _ h=>h) (.inl ⟨by rfl,?_⟩) hS0 ?_
           · intro w hSw;(try dsimp only at hSw);go_simp
           simp only [Act.put,List.setIfInBounds_toArray,List.set_cons_zero,List.set_cons_succ]
           refine x_take (i:=7) (v := .pointer (some ⟨w5.heap.size,0,none⟩)) rfl rfl (by kernel_rfl) (by kernel_rfl) (by kernel_rfl) (by kernel_rfl) (fun _ _ _ h=>h) (.inl ⟨by rfl,?_⟩) hS0 ?_
           · intro w hSw;(try dsimp only at hSw);go_simp
           simp only [Act.put,List.setIfInBounds_toArray,List.set_cons_zero,List.set_cons_succ]
           refine x_take (i:=8) (v := .slice (some ⟨gr,0,none⟩) m cas) rfl rfl (by kernel_rfl) (by kernel_rfl) (by kernel_rfl) (by kernel_rfl) (fun _ _ _ h=>h) (.inl ⟨by rfl,?_⟩) hS0 ?_
           · intro w hSw;(try dsimp only at hSw);go_simp
           simp only [Act.put,List.setIfInBounds_toArray,List.set_cons_zero,List.set_cons_succ]
           refine x_take (i:=9) (v := .slice (some ⟨g,off,none⟩) n cap) rfl rfl (by kernel_rfl) (by kernel_rfl) (by kernel_rfl) (by kernel_rfl) (fun _ _ _ h=>h) (.inl ⟨by rfl,?_⟩) hS0 ?_
           · intro w hSw;(try dsimp only at hSw);go_simp
           simp only [Act.put,List.setIfInBounds_toArray,List.set_cons_zero,List.set_cons_succ]
           refine x_take (i:=10) (v := .int .i64 k) rfl rfl (by kernel_rfl) (by kernel_rfl) (by kernel_rfl) (by kernel_rfl) (fun _ _ _ h=>h) (.inl ⟨by rfl,?_⟩) hS0 ?_
           · intro w hSw;(try dsimp only at hSw);go_simp
           simp only [Act.put,List.setIfInBounds_toArray,List.set_cons_zero,List.set_cons_succ]
           refine x_take (i:=11) (v := .pointer (some ⟨g,off+k*2,none⟩)) rfl rfl (by kernel_rfl) (by kernel_rfl) (by kernel_rfl) (by kernel_rfl) (fun _ _ _ h=>h) (.inl ⟨by rfl,?_⟩) hS0 ?_
           · intro w hSw;(try dsimp only at hSw);go_simp
           simp only [Act.put,List.setIfInBounds_toArray,List.set_cons_zero,List.set_cons_succ]
           refine x_take (i:=12) (v := .pointer (some ⟨g,off+k*2,none⟩)) rfl rfl (by kernel_rfl) (by kernel_rfl) (by kernel_rfl) (by kernel_rfl) (fun _ _ _ h=>h) (.inl ⟨by rfl,?_⟩) hS0 ?_
           · intro w hSw;(try dsimp only at hSw);go_simp
           simp only [Act.put,List.setIfInBounds_toArray,List.set_cons_zero,List.set_cons_succ]
           refine x_take (i:=13) (v := .int .i64 j) rfl rfl (by kernel_rfl) (by kernel_rfl) (by kernel_rfl) (by kernel_rfl) (fun _ _ _ h=>h) (.inl ⟨by rfl,?_⟩) hS0 ?_
           · intro w hSw;(try dsimp only at hSw);go_simp
           simp only [Act.put,List.setIfInBounds_toArray,List.set_cons_zero,List.set_cons_succ]
           refine x_take (i:=14) (v := .pointer (some ⟨gr,j*4,none⟩)) rfl rfl (by kernel_rfl) (by kernel_rfl) (by kernel_rfl) (by kernel_rfl) (fun _ _ _ h=>h) (.inl ⟨by rfl,?_⟩) hS0 ?_
           · intro w hSw;(try dsimp only at hSw);go_simp
           simp only [Act.put,List.setIfInBounds_toArray,List.set_cons_zero,List.set_cons_succ]
           refine x_take (i:=15) (v := .agg #[.bool q1,.slice q2 q3 q4,.bool q5,.slice q6 q7 q8]) rfl rfl (by kernel_rfl) (by kernel_rfl) (by kernel_rfl) (by kernel_rfl) (fun _ _ _ h=>h) (.inl ⟨by rfl,?_⟩) hS0 ?_
           · intro w hSw;(try dsimp only at hSw);go_simp
           simp only [Act.put,List.setIfInBounds_toArray,List.set_cons_zero,List.set_cons_succ]
           refine x_take (i:=16) (v := .slice (some ⟨g,off,none⟩) n cap) rfl rfl (by kernel_rfl) (by kernel_rfl) (by kernel_rfl) (by kernel_rfl) (fun _ _ _ h=>h) (.inl ⟨by rfl,?_⟩) hS0 ?_
           · intro w hSw;(try dsimp only at hSw);go_simp
           simp only [Act.put,List.setIfInBounds_toArray,List.set_cons_zero,List.set_cons_succ]
           refine x_take (i:=17) (v := .int .i64 k) rfl rfl (by kernel_rfl) (by kernel_rfl) (by kernel_rfl) (by kernel_rfl) (fun _ _ _ h=>h) (.inl ⟨by rfl,?_⟩) hS0 ?_
           · intro w hSw;(try dsimp only at hSw);go_simp
           simp only [Act.put,List.setIfInBounds_toArray,List.set_cons_zero,List.set_cons_succ]
           refine x_take (i:=18) (v := .pointer (some ⟨g,off+k*2,none⟩)) rfl rfl (by kernel_rfl) (by kernel_rfl) (by kernel_rfl) (by kernel_rfl) (fun _ _ _ h=>h) (.inl ⟨by rfl,?_⟩) hS0 ?_
           · intro w hSw;(try dsimp only at hSw);go_simp
           simp only [Act.put,List.setIfInBounds_toArray,List.set_cons_zero,List.set_cons_succ]
           refine x_take (i:=19) (v := .pointer (some ⟨g,off+k*2+1,none⟩)) rfl rfl (by kernel_rfl) (by kernel_rfl) (by kernel_rfl) (by kernel_rfl) (fun _ _ _ h=>h) (.inl ⟨by rfl,?_⟩) hS0 ?_
           · intro w hSw;(try dsimp only at hSw);go_simp
           simp only [Act.put,List.setIfInBounds_toArray,List.set_cons_zero,List.set_cons_succ]
           refine x_take (i:=20) (v := .string z) rfl rfl (by kernel_rfl) (by kernel_rfl) (by kernel_rfl) (by kernel_rfl) (fun _ _ _ h=>h) (.inl ⟨by rfl,?_⟩) hS0 ?_
           · intro w hSw;(try dsimp only at hSw);go_simp
           simp only [Act.put,List.setIfInBounds_toArray,List.set_cons_zero,List.set_cons_succ]
           refine x_one (i:=21) (by kernel_rfl) rfl (fun K' hK' => ?_)
           go_simp
           refine (rrOf_some z p.2 _ HZV hzs).mono ?_
           rintro e w8 ⟨v8,rfl,hr8,hb8⟩
           have hbx:Below wr.heap.size wr w8:=(Below.refl _ wr).drew.trans hb8
           obtain ⟨A1,A2,A3,A4,A5,A6,A7,A8,rfl,z1,z2⟩:=hr8
           have hr8:RRef w8 (.agg #[.bool A1,.slice A2 A3 A4,.bool A5,.slice A6 A7 A8]) p.2:=⟨_,_,_,_,_,_,_,_,rfl,z1,z2⟩
           dsimp only
           refine hK'.out _ _ (fun _=>HSW.out _ hbx) ?_
           clear hK' K' z1 z2
           refine x_one (i:=22) (by kernel_rfl) rfl (fun K' hK' => ?_)
           go_simp
           refine (rrAdd_any _ _ (f (j:Int)) p.2 400 r _ (HRR.out.keep hbx (Nat.le_refl _)) hr8 (RT.of HFS.out.1) (RT.of HFS.out.2) (Nat.le_refl _) HRS).mono ?_
           rintro e w9 ⟨v9,rfl,hr9,hb9⟩
           have hby:Below wr.heap.size wr w9:=hbx.trans (hb9.mono hbx.size)
           obtain ⟨D1,D2,D3,D4,D5,D6,D7,D8,rfl,z1,z2⟩:=hr9
           have hr9:RRef w9 (agg4 (.bool D1,.slice D2 D3 D4,.bool D5,.slice D6 D7 D8)) r:=⟨_,_,_,_,_,_,_,_,rfl,z1,z2⟩
           have hrow9:=HROW.out.keep hby
           obtain ⟨hrow10,hoff⟩:=hrow9.set j (by rw [rowOf_length];omega) hr9
           rw [rowOf_set] at hrow10
           dsimp only at hrow10 hoff
           have HROW10:=Lib.hid hrow10
           have HB10:=Lib.hid ((HBX.out.keep hby).same (heap_set4 w9 gr (j*4) (j*4+1) (j*4+2) (j*4+3) (.bool D1) (.slice D2 D3 D4) (.bool D5) (.slice D6 D7 D8) w5.heap.size (fun e=>hgne e.symm)))
           have HN10:=Lib.hid (hoff (HNUM.out.keep hby (Nat.le_refl _)))
           have HD10:=Lib.hid (hoff hr9)
           have HR10:=Lib.hid ((HRB.out.keep hby).same (heap_set4 w9 gr (j*4) (j*4+1) (j*4+2) (j*4+3) (.bool D1) (.slice D2 D3 D4) (.bool D5) (.slice D6 D7 D8) w.heap.size (fun e=>hgne2 e.symm)))
           have HW10:=Lib.hid (below_set4 (HW.out.trans (hby.mono HW.out.size)) gr (j*4) (j*4+1) (j*4+2) (j*4+3) (.bool D1) (.slice D2 D3 D4) (.bool D5) (.slice D6 D7 D8) (by have:=(HROW.out.own.lt gr rfl).1;omega))
           have HT10:=Lib.hid (HV0.out.keep HW10.out (Nat.le_refl _))
           obtain ⟨S0,S1,S2,S3,S4,S5,S6⟩:=HSW.out _ hby
           have F0:=hrow9.froz (j*4)
           have F1:=hrow9.froz (j*4+1)
           have F2:=hrow9.froz (j*4+2)
           have F3:=hrow9.froz (j*4+3)
           dsimp only
           refine hK'.out _ _ (fun _=>⟨S0,S1,S2,S3,S4,S5,S6⟩) ?_
           clear hK' K' z1 z2 hrow10 hoff hrow9 hr8 hr9 hb8 hb9 hbx hby
           refine x_one (i:=23) (by kernel_rfl) rfl (fun K' hK' => ?_)
           go_simp
           refine hK'.out _ _ (fun _=>⟨S0,S1,S2,S3,S4,S5,S6⟩) ?_
           clear hK' K'
           refine x_one (i:=24) (by kernel_rfl) rfl (fun K' hK' => ?_)
           go_simp
           refine hK'.out _ _ (fun h=>absurd rfl h) ?_
           clear hK' K' S0 S1 S2 S3 S4 S5 S6 F0 F1 F2 F3 hS0 t0 t1 t2 t3 hcell0 hcell1
           refine x_done (by kernel_rfl) ?_ _
           generalize ((((w9.setCell ⟨gr,j*4,none⟩ (.bool D1)).setCell ⟨gr,j*4+1,none⟩ (.slice D2 D3 D4)).setCell ⟨gr,j*4+2,none⟩ (.bool D5)).setCell ⟨gr,j*4+3,none⟩ (.slice D6 D7 D8))=W10 at HROW10 HB10 HN10 HD10 HR10 HW10 HT10 ⊢
           obtain ⟨s1,_,hgg⟩:=HT10.out.at k _ HEK.out
           dsimp only at s1
           obtain ⟨gr',capr',cr',ev,s2,s3,s4,s5,hrr⟩:=HROW10.out.at j (by rw [rowOf_length];omega)
           rw [rowOf_get,upd_same] at hrr
           simp only [Value.slice.injEq,Option.some.injEq,Addr.mk.injEq,and_true] at ev
           obtain ⟨rfl,hcapr⟩:=ev
           clear hcapr
           obtain ⟨G1,G2,G3,G4,G5,G6,G7,G8,rfl⟩:=hrr.expl
           dsimp only at s2 s3 s4 s5
           have hgl:gr<W10.heap.size:=World.block_lt_of_cell? _ _ s2
           have s0:=HB10.out.cell.1
           have HG:Hid (RRef W10 (.agg #[.bool G1,.slice G2 G3 G4,.bool G5,.slice G6 G7 G8]) r):=Lib.hid hrr
           clear hrr
           cases hlong:rshort r with
           | true =>
            have HLB:Hid (True∧(!rshort r)=false):=Lib.hid ⟨trivial,by rw [hlong];rfl⟩
            have HACC3:Hid (acc (fun _=>0) (q.take (k+1))=some (upd f (j:Int) r)):=Lib.hid (by rw [HACC2.out,if_pos hlong])
            clear hlong
            go_wp2_with fail
            go_region_held3 (fun w'=>w'.cell? ⟨w5.heap.size,0,none⟩=some (.slice (some ⟨gr,0,none⟩) m cas)∧w'.cell? ⟨g,off+k*2,none⟩=some (.int .i64 (j:Int))∧w'.cell? ⟨gr,j*4,none⟩=some (.bool G1)∧w'.cell? ⟨gr,j*4+1,none⟩=some (.slice G2 G3 G4)∧w'.cell? ⟨gr,j*4+2,none⟩=some (.bool G5)∧w'.cell? ⟨gr,j*4+3,none⟩=some (.slice G6 G7 G8)) (first | ((try dsimp only);(repeat' apply And.intro);all_goals with_reducible assumption) | go_keep) (first | (go_at_call 57;refine (rrLong_any _ r false _ (by exact HG.out) HLB).mono ?_;rintro e w11 ⟨rfl,hb⟩;have hb11:Below W10.heap.size W10 w11:=(Below.refl _ W10).drew.trans hb;have u0:=(hb11.cell HB10.out.lt).trans s0;have u1:=(hb11.cell (p:=⟨g,off+k*2,none⟩) hgg).trans s1;have u2:=(hb11.cell (p:=⟨gr,j*4,none⟩) hgl).trans s2;have u3:=(hb11.cell (p:=⟨gr,j*4+1,none⟩) hgl).trans s3;have u4:=(hb11.cell (p:=⟨gr,j*4+2,none⟩) hgl).trans s4;have u5:=(hb11.cell (p:=⟨gr,j*4+3,none⟩) hgl).trans s5;clear s0 s1 s2 s3 s4 s5))
            have HBB:=Lib.hid hb11
            clear hb11 hb u0 u1 u2 u3 u4 u5
            go_wp2
            go_roundw
            case rel=>exact ⟨k+1,upd f (j:Int) r,_,by omega,by go_num,HACC3,Lib.hid (HROW10.out.keep HBB.out),Lib.hid (HB10.out.keep HBB.out),Lib.hid (HN10.out.keep HBB.out (Nat.le_refl _)),Lib.hid (HR10.out.keep HBB.out),Lib.hid (HW10.out.trans (HBB.out.mono HW10.out.size))⟩
            case measure=>simp [intOf];omega
           | false =>
            have HLB:Hid (True∧(!rshort r)=true):=Lib.hid ⟨trivial,by rw [hlong];rfl⟩
            have HNO:Hid (acc (fun _=>0) q=none):=Lib.hid (by
             have h:=HACC2.out
             rw [hlong,if_neg (by simp)] at h
             have h2:=acc_none h (q.drop (k+1))
             rwa [List.take_append_drop] at h2)
            clear hlong
            go_wp2_with fail
            go_region_held3 (fun w'=>w'.cell? ⟨w5.heap.size,0,none⟩=some (.slice (some ⟨gr,0,none⟩) m cas)∧w'.cell? ⟨g,off+k*2,none⟩=some (.int .i64 (j:Int))∧w'.cell? ⟨gr,j*4,none⟩=some (.bool G1)∧w'.cell? ⟨gr,j*4+1,none⟩=some (.slice G2 G3 G4)∧w'.cell? ⟨gr,j*4+2,none⟩=some (.bool G5)∧w'.cell? ⟨gr,j*4+3,none⟩=some (.slice G6 G7 G8)) (first | ((try dsimp only);(repeat' apply And.intro);all_goals with_reducible assumption) | go_keep) (first | (go_at_call 57;refine (rrLong_any _ r true _ (by exact HG.out) HLB).mono ?_;rintro e w11 ⟨rfl,hb⟩;have hb11:Below W10.heap.size W10 w11:=(Below.refl _ W10).drew.trans hb;have u0:=(hb11.cell HB10.out.lt).trans s0;have u1:=(hb11.cell (p:=⟨g,off+k*2,none⟩) hgg).trans s1;have u2:=(hb11.cell (p:=⟨gr,j*4,none⟩) hgl).trans s2;have u3:=(hb11.cell (p:=⟨gr,j*4+1,none⟩) hgl).trans s3;have u4:=(hb11.cell (p:=⟨gr,j*4+2,none⟩) hgl).trans s4;have u5:=(hb11.cell (p:=⟨gr,j*4+3,none⟩) hgl).trans s5;clear s0 s1 s2 s3 s4 s5))
            have HBB:=Lib.hid hb11
            clear hb11 hb u0 u1 u2 u3 u4 u5
            have HRE:=Lib.hid (HR10.out.keep HBB.out)
            have HWE:=Lib.hid (HW10.out.trans (HBB.out.mono HW10.out.size))
            obtain ⟨b0,b1,b2,b3,b4⟩:=HRE.out.cell
            obtain ⟨f0,f1,f2,f3,f4⟩:=HRE.out.froz
            go_wp2
            obtain ⟨e0,e1,e2,e3,e4⟩:=(HRE.out.store (.slice none 0 0) (.bool false) (.slice none 0 0) (.bool false) (.slice none 0 0)).cell
            refine bodyPost_ret (v := .tuple #[.agg #[.slice none 0 0,.bool false,.slice none 0 0,.bool false,.slice none 0 0],.int .i64 5]) (by simp only [results,Tryz.results35];simp [go_sem,e0,e1,e2,e3,e4]) rfl ?_
            exact ⟨((((HWE.out.setCell (Nat.le_refl _) _).setCell (Nat.le_refl _) _).setCell (Nat.le_refl _) _).setCell (Nat.le_refl _) _).setCell (Nat.le_refl _) _,by rw [HPE.out,if_neg (by decide)];intro qc2 q2 a1 a2 a3 a4;rw [← tms_inj (fun x hx=>(HQ.out.2.2 x hx).2) (fun x hx=>(a4 x hx).2) a3,HNO.out]⟩
         · obtain rfl:n=k:=by omega
           have hacc:acc (fun _=>0) q=some f:=by
            have h:=HACC.out
            rwa [List.take_of_length_le (by rw [← HNQ.out.2];exact Nat.le_refl _)] at h
           have HAC:=Lib.hid hacc
           have hnn:¬ (n:Int)<n:=by omega
           obtain ⟨a0,a1,a2,a3,a4⟩:=HBX.out.cell
           obtain ⟨b0,b1,b2,b3,b4⟩:=HRB.out.cell
           obtain ⟨f0,f1,f2,f3,f4⟩:=HRB.out.froz
           clear hacc
           go_wp2
           obtain ⟨e0,e1,e2,e3,e4⟩:=(HRB.out.store (.slice asl m cas) (.bool o1) (.slice p1 r1 s1) (.bool o2) (.slice p2 r2 s2)).cell
           refine bodyPost_ret (v := .tuple #[.agg #[.slice asl m cas,.bool o1,.slice p1 r1 s1,.bool o2,.slice p2 r2 s2],.int .i64 0]) (by simp only [results,Tryz.results35];simp [go_sem,e0,e1,e2,e3,e4]) rfl ?_
           have hka:Ka (w.heap.size+1) wr w.heap.size (.slice asl m cas) (rowOf f m) cs (.bool o1,.slice p1 r1 s1,.bool o2,.slice p2 r2 s2) qd:=⟨HROW.out,HNUM.out,HRB.out.bn (ni5 (ni_slice _ _ _) _ _ _ _ _ _ _ _),fun b hb=>by have:=(HROW.out.own.lt b hb).1;omega⟩
           have hk5:=((((hka.set 0 (ni_slice asl m cas)).set 1 (ni_bool o1)).set 2 (ni_slice p1 r1 s1)).set 3 (ni_bool o2)).set 4 (ni_slice p2 r2 s2)
           refine ⟨((((HW.out.setCell (Nat.le_refl _) _).setCell (Nat.le_refl _) _).setCell (Nat.le_refl _) _).setCell (Nat.le_refl _) _).setCell (Nat.le_refl _) _,?_⟩
           rw [HPE.out,if_neg (by decide)]
           intro qc2 q2 u1 u2 u3 u4
           obtain rfl:q=q2:=tms_inj (fun x hx=>(HQ.out.2.2 x hx).2) (fun x hx=>(u4 x hx).2) u3
           obtain rfl:qd=qc2:=txt_inj HQ.out.2.1 u1 (HQ.out.1.symm.trans u2)
           rw [HAC.out]
           refine ⟨_,rfl,_,cs,(.bool o1,.slice p1 r1 s1,.bool o2,.slice p2 r2 s2),rfl,?_,hk5.num⟩
           have hmm:colsOf q=m:=HMM.out.2.symm
           rw [hmm]
           exact hk5.row.base (Nat.le_succ _)
end Go.Proofs.YtkhdocdddicgpaaGreatDoor
