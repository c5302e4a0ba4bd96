/- Part 26: what the law's walk leans on. -/
import Derived.Test.YtkhdocdddicgpaaGreatDoorYt25
import Derived.Laws.AppendOwn
import Derived.Lib.AppendZeros
import Derived.Test.YtkhdocdddicgpaaGreatDoorYt20
import Derived.Test.YtkhdocdddicgpaaGreatDoorYt19
set_option linter.unusedVariables false
set_option linter.unusedSimpArgs false
namespace Go.Proofs.YtkhdocdddicgpaaGreatDoor
open Go.RowKit _root_.Go.Proofs.YtkhdocdddicgpaaGreatDoor.Nm
set_option maxRecDepth 100000 in
set_option maxHeartbeats 1600000 in
theorem rSmall_zero (w:World):Calls Tryz.prog 84 #[.int .i64 0] w fun e w'=>e = .returned (.string ⟨#[48]⟩)∧w=w':=by
 go_enter Tryz.func84,Tryz.ntmps84
 go_wp2
 go_ret
 exact ⟨rfl,rfl⟩
set_option maxRecDepth 100000 in
set_option maxHeartbeats 1600000 in
theorem rrValid_any (s:ByteArray) (o:Option Rat) (w:World) (ho:Hid (rval s.data.toList=o)) (hs:s.size≤100000) :
 Calls Tryz.prog 73 #[.string s] w fun e w'=>e = .returned (.bool o.isSome)∧Below w.heap.size w w':=by
 go_enter Tryz.func73,Tryz.ntmps73
 go_wp2_with fail
 refine (rrRead_any s o _ ho hs).mono ?_
 rintro e w1 ⟨n1,a1,l1,c1,n2,a2,l2,c2,rfl,_,hb⟩
 have HW:=Lib.hid hb
 clear hb
 go_wp2
 go_ret
 exact ⟨rfl,HW.out.alloc HW.out.size _⟩
set_option maxRecDepth 100000 in
set_option maxHeartbeats 1600000 in
theorem rrInt_zero (w:World):Calls Tryz.prog 51 #[.int .i64 0] w (RRPost 0 w):=by
 have hA:=(Below.refl w.heap.size w).alloc (Nat.le_refl _) (.cells #[.bool false,.slice none 0 0,.bool false,.slice none 0 0] 33)
 have HB0:Hid (B4 (w.alloc (.cells #[.bool false,.slice none 0 0,.bool false,.slice none 0 0] 33)) w.heap.size (.bool false) (.slice none 0 0) (.bool false) (.slice none 0 0)):=Lib.hid (B4.new w _ _ _ _ _)
 have HW0:=Lib.hid hA
 clear hA
 go_enter Tryz.func51,Tryz.ntmps51
 go_wp2_with fail
 refine (rSmall_zero _).mono ?_
 rintro e w1 ⟨rfl,rfl⟩
 go_wp2_with fail
 refine (rO_to ⟨#[48]⟩ 0 (by decide +kernel) (Lib.hid ⟨trivial,by decide +kernel⟩) _).mono ?_
 rintro e w1 ⟨v1,rfl,hv1,hb⟩
 have HV1:=Lib.hid hv1
 have HB1:=Lib.hid (HB0.out.below hb HB0.out.lt)
 have HW1:=Lib.hid (HW0.out.trans (hb.mono HW0.out.size))
 clear hv1 hb
 go_wp2_with fail
 refine (rone_any _).mono ?_
 rintro e w2 ⟨v2,rfl,hv2,hb⟩
 have HV2:=Lib.hid (HV1.out.keep hb (Nat.le_refl _))
 have HU2:=Lib.hid hv2
 have HB2:=Lib.hid (HB1.out.below hb HB1.out.lt)
 have HW2:=Lib.hid (HW1.out.trans (hb.mono HW1.out.size))
 clear hv2 hb
 go_wp2_with fail
 refine (rNew_any _ _ 0 1 0 _ HV2.out HU2.out (by decide) (by decide +kernel) (by decide +kernel) (Lib.hid (by decide +kernel))).mono ?_
 rintro e w3 ⟨v3,rfl,hv3,hb⟩
 obtain ⟨m1,b1,j1,d1,m2,b2,j2,d2,rfl,hz1,hz2⟩:=hv3
 have HV:Hid (RRef w3 (.agg #[.bool m1,.slice b1 j1 d1,.bool m2,.slice b2 j2 d2]) 0):=Lib.hid ⟨_,_,_,_,_,_,_,_,rfl,hz1,hz2⟩
 have HR:=Lib.hid (HB2.out.below hb HB2.out.lt)
 have HW:=Lib.hid (HW2.out.trans (hb.mono HW2.out.size))
 clear hz1 hz2 hb
 obtain ⟨e0,e1,e2,e3⟩:=HR.out.cell
 obtain ⟨f0,f1,f2,f3⟩:=HR.out.froz
 go_wp2
 obtain ⟨l0,l1',l2',l3'⟩:=(HR.out.put (.bool m1) (.slice b1 j1 d1) (.bool m2) (.slice b2 j2 d2)).cell
 refine bodyPost_ret (v := .agg #[.bool m1,.slice b1 j1 d1,.bool m2,.slice b2 j2 d2]) (by simp only [results,Tryz.results51];simp [go_sem,l0,l1',l2',l3']) rfl ?_
 exact RRPost.boxed HV.out HR.out HW.out (by omega) _ _ _ _
set_option maxRecDepth 100000 in
set_option maxHeartbeats 1600000 in
theorem rrOf_some (s:ByteArray) (q:Rat) (w:World) (ho:Hid (rval s.data.toList=some q)) (hs:s.size≤100000):Calls Tryz.prog 64 #[.string s] w (RRPost q w):=by
 have hA:=(Below.refl w.heap.size w).alloc (Nat.le_refl _) (.cells #[.bool false,.slice none 0 0,.bool false,.slice none 0 0] 33)
 have HB0:Hid (B4 (w.alloc (.cells #[.bool false,.slice none 0 0,.bool false,.slice none 0 0] 33)) w.heap.size (.bool false) (.slice none 0 0) (.bool false) (.slice none 0 0)):=Lib.hid (B4.new w _ _ _ _ _)
 have HW0:=Lib.hid hA
 clear hA
 go_enter Tryz.func64,Tryz.ntmps64
 go_wp2_with fail
 refine (rrRead_any s (some q) _ ho hs).mono ?_
 rintro e w1 ⟨n1,a1,l1,c1,n2,a2,l2,c2,rfl,hq,hb⟩
 rw [show (some q:Option Rat).isSome=true from rfl]
 have hA:=(Below.refl w1.heap.size w1).alloc (Nat.le_refl _) (.cells #[.bool n1,.slice a1 l1 c1,.bool n2,.slice a2 l2 c2] 33)
 have HV:=Lib.hid ((hq q rfl).keep hA (Nat.le_refl _))
 have h1:=HB0.out.below hb HB0.out.lt
 have HR:=Lib.hid (h1.below hA h1.lt)
 have h2:=HW0.out.trans (hb.mono HW0.out.size)
 have HW:=Lib.hid (h2.trans (hA.mono h2.size))
 have hne:w.heap.size≠w1.heap.size:=by have:=h1.lt;omega
 have hne2:w1.heap.size≠w.heap.size:=fun e=>hne e.symm
 clear hq hb hA h1 h2
 obtain ⟨e0,e1,e2,e3⟩:=HR.out.cell
 obtain ⟨f0,f1,f2,f3⟩:=HR.out.froz
 go_wp2
 obtain ⟨l0,l1',l2',l3'⟩:=(HR.out.put (.bool n1) (.slice a1 l1 c1) (.bool n2) (.slice a2 l2 c2)).cell
 refine bodyPost_ret (v := .agg #[.bool n1,.slice a1 l1 c1,.bool n2,.slice a2 l2 c2]) (by simp only [results,Tryz.results64];simp [go_sem,l0,l1',l2',l3']) rfl ?_
 exact RRPost.boxed HV.out HR.out HW.out (by omega) _ _ _ _
end Go.Proofs.YtkhdocdddicgpaaGreatDoor
set_option linter.unusedVariables false
set_option linter.unusedSimpArgs false
namespace Go.Proofs.YtkhdocdddicgpaaGreatDoor
def RowP (p:Value→Prop) (W:World) (v:Value):Prop:=∀ g,v.ownBlock=some g→∃ cur e,W.heap[g]?=some (.cells cur e (0,0))∧∀ (j:Nat) u,cur[j]?=some u→p u
theorem mem_zeroCells {z:Array Value} {n:Nat} {u:Value} (h:u∈Builtin.zeroCells z n):u∈z:=by
 simp [Builtin.zeroCells] at h
 obtain ⟨i,hi,rfl⟩:=h
 have hz:0<z.size:=by
  rcases Nat.eq_zero_or_pos z.size with e | e
  · rw [e] at hi;simp at hi
  · exact e
 have hlt:=Nat.mod_lt i hz
 rw [getElem!_pos z _ hlt]
 exact Array.getElem_mem hlt
theorem rowP_of {p:Value→Prop} {W:World} {g n cap:Nat} {cur:Array Value} {e:TypeId} (h:W.heap[g]?=some (.cells cur e (0,0))) (hp:∀ u∈cur,p u):RowP p W (.slice (some ⟨g,0,none⟩) n cap):=by
 intro g' hg
 have e':g=g':=by simpa [Value.ownBlock] using hg
 subst e'
 exact ⟨cur,e,h,fun j u hu=>hp u (Array.mem_of_getElem? hu)⟩
theorem run_append_p {P:Program} (w:World) (p:Value→Prop) (base:Nat) (t ty e:TypeId) (i:TypeInfo) (z:Value) (size bytes:Nat) (ht:P.underlying t=some (.slice e)) (hi:P.info? e=some i) (hz:i.zero=some z)
 (hsize:i.size=size) (hby:i.bytes=bytes) (hzs:z.cells.size=size) (hsz:0<size)
 (v:Value) (n:Nat) (xs:List Value) (hown:w.ownsRow base e size v n xs)
 (a:Addr) (m c:Nat) (news:List Value) (hl:news.length=m*size) (hnews:∀ j u,news[j]?=some u→w.cell? (a.add j)=some u) (h1:∀ u∈news,u.oneCell'=true)
 (hm:0<m) (h63:n+m≤maxLen) (hbytes:(n+m)*bytes≤140737488355328) (hbase:base≤w.heap.size)
 (hp:RowP p w v) (hpx:∀ u∈xs,p u) (hpn:∀ u∈news,p u) (hpz:∀ u∈z.cells,p u) :
 ∃ g cap w',(Builtin.append_ #[t,t] ty #[v,.slice (some a) m c]).run P w = .ok (.slice (some ⟨g,0,none⟩) (n+m) cap) w'∧w'.ownsRow base e size (.slice (some ⟨g,0,none⟩) (n+m) cap) (n+m) (xs++news)∧w.grownBy w' v.ownBlock∧RowP p w' (.slice (some ⟨g,0,none⟩) (n+m) cap):=by
 obtain ⟨v',w',hr,h2,h3,_⟩:=run_append_own (P:=P) w base t ty e i z size bytes ht hi hz hsize hby hzs hsz v n xs hown a m c news hl hnews h1 h63 hbytes hbase
 subst hsize
 subst hby
 have hsmall:n+m≤9223372036854775807:=by simp only [maxLen] at h63;omega
 rcases hown.2 with ⟨rfl,rfl⟩ | ⟨g,cap,cur,rfl,hbg,hg,hnc,hcm,hcs,htake⟩
 · have hr2:=run_append_nil (P:=P) w t ty e i z ht hi hz a m c news hl hnews hm (by omega) (by have hb:=hbytes;simp only [Nat.zero_add] at hb;omega)
   have hq:=hr.symm.trans hr2
   simp only [Result.ok.injEq] at hq
   obtain ⟨rfl,rfl⟩:=hq
   simp only [Nat.zero_add] at h2 hr ⊢
   refine ⟨_,_,_,hr,h2,h3,rowP_of (heap_alloc_new w.drew _) fun u hu => ?_⟩
   rcases Array.mem_append.1 hu with hu | hu
   · exact hpn u (by simpa using hu)
   · exact hpz u (mem_zeroCells hu)
 · by_cases hroom:n+m≤cap
   · have hfit:n*i.size+news.length≤cur.size:=by rw [hl,hcs, ← Nat.add_mul];exact Nat.mul_le_mul_right _ hroom
     have hr2:=run_append_room (P:=P) w t ty e i ht hi g n cap cur hg a m c news hl hnews h1 hroom hfit
     have hq:=hr.symm.trans hr2
     simp only [Result.ok.injEq] at hq
     obtain ⟨rfl,rfl⟩:=hq
     refine ⟨_,_,_,hr,h2,h3,rowP_of (setRow_heap w g cur _ e _ hg) fun u hu => ?_⟩
     have hcur:∀ u∈cur,p u:=fun u hu=>by
      obtain ⟨cur',e',hh,hc⟩:=hp g rfl
      rw [hg] at hh
      cases hh
      obtain ⟨j,hj,rfl⟩:=Array.mem_iff_getElem.1 hu
      exact hc j _ (Array.getElem?_eq_getElem hj)
     simp only [List.mem_toArray,List.mem_append] at hu
     rcases hu with (hu | hu) | hu
     · exact hcur u (by simpa using List.mem_of_mem_take hu)
     · exact hpn u hu
     · exact hcur u (by simpa using List.mem_of_mem_drop hu)
   · have holds:∀ j u,xs[j]?=some u→w.cell? ((⟨g,0,none⟩:Addr).add j)=some u:=hown.cells (g:=g) rfl
     have hr2:=run_append_grow (P:=P) w t ty e i z ht hi hz ⟨g,0,none⟩ n cap xs hown.1 holds a m c news hl hnews (by omega) (by omega) (growslice_fits (by omega) hbytes)
     have hq:=hr.symm.trans hr2
     simp only [Result.ok.injEq] at hq
     obtain ⟨rfl,rfl⟩:=hq
     refine ⟨_,_,_,hr,h2,h3,rowP_of (heap_alloc_new w.drew _) fun u hu => ?_⟩
     simp only [Array.mem_append,List.mem_toArray] at hu
     rcases hu with (hu | hu) | hu
     · exact hpx u hu
     · exact hpn u hu
     · exact hpz u (mem_zeroCells hu)
theorem step_append_p {P:Program} (w:World) (p:Value→Prop) {ops:Array Oper} {o:Oper} {a:Act} {K:Act→World→Prop} {Q:Exit→Act→World→Prop} {E:Prop} (hgd:o.guard=none) (s x:Operand) (t:TypeId)
 (ho:o.op = .call { callee := .builtin .append,args:=#[s,x],argTypes:=#[t,t] })
 (base:Nat) (e:TypeId) (i:TypeInfo) (z:Value) (size bytes:Nat) (ht:P.underlying t=some (.slice e)) (hi:P.info? e=some i) (hz:i.zero=some z)
 (hsize:i.size=size) (hby:i.bytes=bytes) (hzs:z.cells.size=size) (hsz:0<size)
 (v:Value) (n:Nat) (xs:List Value) (hs:a.eval s=v) (hown:w.ownsRow base e size v n xs)
 (ad:Addr) (m c:Nat) (news:List Value) (hx:a.eval x = .slice (some ad) m c) (hl:news.length=m*size) (hnews:∀ j u,news[j]?=some u→w.cell? (ad.add j)=some u) (h1:∀ u∈news,u.oneCell'=true)
 (hm:0<m) (h63:n+m≤maxLen) (hbytes:(n+m)*bytes≤140737488355328) (hbase:base≤w.heap.size)
 (hp:RowP p w v) (hpx:∀ u∈xs,p u) (hpn:∀ u∈news,p u) (hpz:∀ u∈z.cells,p u)
 (h:∀ g cap w',w'.ownsRow base e size (.slice (some ⟨g,0,none⟩) (n+m) cap) (n+m) (xs++news)→w.grownBy w' v.ownBlock→RowP p w' (.slice (some ⟨g,0,none⟩) (n+m) cap)→K (a.put o.dst (.slice (some ⟨g,0,none⟩) (n+m) cap)) w') :
 if Region.wanted o (yielded ops a.tmps)=true then Oper.wp P o a w K Q else E:=by
 obtain ⟨g,cap,w',hr,h2,h3,h4⟩:=run_append_p (P:=P) w p base t o.type e i z size bytes ht hi hz hsize hby hzs hsz v n xs hown ad m c news hl hnews h1 hm h63 hbytes hbase hp hpx hpn hpz
 rw [if_pos (by simp [Region.wanted,hgd])]
 exact Lib.wp_append_run w s x t t ho _ _ hs hx _ _ hr (h g cap w' h2 h3 h4)
end Go.Proofs.YtkhdocdddicgpaaGreatDoor
set_option linter.unusedVariables false
set_option linter.unusedSimpArgs false
namespace Go.Proofs.YtkhdocdddicgpaaGreatDoor
open Go.RowKit _root_.Go.Proofs.YtkhdocdddicgpaaGreatDoor.Nm
def NI (v:Value):Prop:=∀ (k:IntKind) (x:Int),v ≠ .int k x
theorem ni_bool (b:Bool):NI (.bool b):=fun _ _ e=>by cases e
theorem ni_slice (a:Option Addr) (l c:Nat):NI (.slice a l c):=fun _ _ e=>by cases e
abbrev C4:=Value × Value × Value × Value
def cells4 (c:C4):List Value:=[c.1,c.2.1,c.2.2.1,c.2.2.2]
def agg4 (c:C4):Value := .agg #[c.1,c.2.1,c.2.2.1,c.2.2.2]
theorem RRef.four {W:World} {v:Value} {q:Rat} (h:RRef W v q):∃ c:C4,v=agg4 c∧∀ u∈cells4 c,NI u:=by
 obtain ⟨n1,a1,l1,c1,n2,a2,l2,c2,rfl,_,_⟩:=h
 refine ⟨(.bool n1,.slice a1 l1 c1,.bool n2,.slice a2 l2 c2),rfl,fun u hu => ?_⟩
 simp only [cells4,List.mem_cons,List.mem_nil_iff,or_false] at hu
 rcases hu with rfl | rfl | rfl | rfl
 · exact ni_bool _
 · exact ni_slice _ _ _
 · exact ni_bool _
 · exact ni_slice _ _ _
theorem RRef.ni {W:World} {c:C4} {q:Rat} (h:RRef W (agg4 c) q):∀ u∈cells4 c,NI u:=by
 obtain ⟨c',e,hc⟩:=h.four
 unfold agg4 at e
 simp only [Value.agg.injEq,Array.mk.injEq,List.cons.injEq,and_true] at e
 obtain ⟨e0,e1,e2,e3⟩:=e
 unfold cells4 at hc ⊢
 rw [e0,e1,e2,e3];exact hc
def NoInt (W:World) (g:Nat):Prop:=∀ (o:Nat) (k:IntKind) (x:Int),W.cell? ⟨g,o,none⟩≠some (.int k x)
theorem RowP.noInt {W:World} {v:Value} {g:Nat} (h:RowP NI W v) (hg:v.ownBlock=some g):NoInt W g:=by
 intro o k x e
 obtain ⟨cur,e',hh,hc⟩:=h g hg
 simp only [World.cell?,hh] at e
 exact hc o _ (by simpa using e) k x rfl
theorem Rd.off {W W':World} {v:Value} {xs:List Nat} {g:Nat} (h:Rd .i64 W v xs) (hni:NoInt W g) (hk:∀ k,k<W.heap.size→k≠g→W'.heap[k]?=W.heap[k]?) (hs:W.heap.size≤W'.heap.size):Rd .i64 W' v xs:=by
 obtain ⟨a,c,rfl,h1,h2,h3⟩:=h
 refine ⟨a,c,rfl,h1,h2,fun hx => ?_⟩
 obtain ⟨b,off,rfl,hb,hr⟩:=h3 hx
 have hne:b≠g:=by
  rintro rfl
  exact hni _ _ _ (hr 0 (List.length_pos_iff.2 hx))
 exact ⟨b,off,rfl,Nat.lt_of_lt_of_le hb hs,fun i hi=>by rw [World.cell?_of_block (w:=W) (hk b hb hne)];exact hr i hi⟩
theorem RRef.off {W W':World} {v:Value} {q:Rat} {g:Nat} (h:RRef W v q) (hni:NoInt W g) (hk:∀ k,k<W.heap.size→k≠g→W'.heap[k]?=W.heap[k]?) (hs:W.heap.size≤W'.heap.size):RRef W' v q:=by
 obtain ⟨n1,a1,l1,c1,n2,a2,l2,c2,h1,⟨sv1,e1,r1⟩,⟨sv2,e2,r2⟩⟩:=h
 exact ⟨n1,a1,l1,c1,n2,a2,l2,c2,h1,⟨sv1,e1,r1.off hni hk hs⟩,⟨sv2,e2,r2.off hni hk hs⟩⟩
def flat4 (cs:List C4):List Value:=cs.flatMap cells4
theorem flat4_snoc (cs:List C4) (c:C4):flat4 (cs++[c])=flat4 cs++cells4 c:=by simp [flat4]
theorem flat4_length (cs:List C4):(flat4 cs).length=cs.length*4:=by
 induction cs with
 | nil=>rfl
 | cons c l ih=>rw [show flat4 (c::l)=cells4 c++flat4 l from rfl,List.length_append,ih,List.length_cons];simp [cells4];omega
theorem flat4_get:∀ (cs:List C4) (i:Nat) (h:i<cs.length),(flat4 cs)[i*4]?=some cs[i].1∧(flat4 cs)[i*4+1]?=some cs[i].2.1∧(flat4 cs)[i*4+2]?=some cs[i].2.2.1∧(flat4 cs)[i*4+3]?=some cs[i].2.2.2
 | [],i,h=>absurd h (Nat.not_lt_zero i)
 | p::q,0,h=>⟨rfl,rfl,rfl,rfl⟩
 | p::q,i+1,h=>by
  have e1:(i+1)*4=i*4+1+1+1+1:=by omega
  have ih:=flat4_get q i (by simpa using h)
  rw [e1,show flat4 (p::q)=p.1::p.2.1::p.2.2.1::p.2.2.2::flat4 q from rfl]
  simpa using ih
theorem flat4_ni {W:World} {cs:List C4} {qs:List Rat} (hl:cs.length=qs.length) (h:∀ (i:Nat) (h:i<cs.length) (h':i<qs.length),RRef W (agg4 cs[i]) qs[i]):∀ u∈flat4 cs,NI u:=by
 intro u hu
 obtain ⟨c,hc,hu⟩:=List.mem_flatMap.1 hu
 obtain ⟨i,hi,rfl⟩:=List.mem_iff_getElem.1 hc
 exact (h i hi (by omega)).ni u hu
structure RowQ (B:Nat) (W:World) (v:Value) (qs:List Rat) (cs:List C4):Prop where
 own:W.ownsRow B 33 4 v qs.length (flat4 cs)
 len:cs.length=qs.length
 is_:∀ (i:Nat) (h:i<cs.length) (h':i<qs.length),RRef W (agg4 cs[i]) qs[i]
 ni:RowP NI W v
theorem RowQ.nil (B:Nat) (W:World):RowQ B W (.slice none 0 0) [] []:=⟨World.ownsRow_nil W B _ 4,rfl,fun i h=>absurd h (Nat.not_lt_zero i),fun g h=>by cases h⟩
theorem RowP.keep {p:Value→Prop} {W W':World} {v:Value} (h:RowP p W v) (hk:∀ g,v.ownBlock=some g→W'.heap[g]?=W.heap[g]?):RowP p W' v:=by
 intro g hg
 obtain ⟨cur,e,h1,h2⟩:=h g hg
 exact ⟨cur,e,(hk g hg).trans h1,h2⟩
theorem RowQ.keep {B:Nat} {W W':World} {v:Value} {qs:List Rat} {cs:List C4} (h:RowQ B W v qs cs) (hb:Below W.heap.size W W'):RowQ B W' v qs cs :=
 ⟨h.own.kept (grown_of hb none) (by cases v.ownBlock <;> simp),h.len,fun i h1 h2=>(h.is_ i h1 h2).keep hb (Nat.le_refl _),h.ni.keep (fun g hg=>hb.block g (h.own.lt g hg).2)⟩
theorem RowQ.niAll {B:Nat} {W:World} {v:Value} {qs:List Rat} {cs:List C4} (h:RowQ B W v qs cs):∀ u∈flat4 cs,NI u:=flat4_ni h.len h.is_
theorem RowQ.push {B:Nat} {W W':World} {v v':Value} {qs:List Rat} {cs:List C4} {q:Rat} {c:C4} (h:RowQ B W v qs cs) (hc:RRef W (agg4 c) q) (hown:W'.ownsRow B 33 4 v' (qs.length+1) (flat4 cs++cells4 c)) (hg:W.grownBy W' v.ownBlock) (hn:RowP NI W' v') :
 RowQ B W' v' (qs++[q]) (cs++[c]):=by
 have off:∀ {x:Value} {r:Rat},RRef W x r→RRef W' x r:=fun {x r} hx=>by
  cases hv:v.ownBlock with
  | none=>exact hx.keep (B:=W.heap.size) ⟨hg.os,hg.tape,hg.output,hg.size,fun k hk=>hg.block k hk (by rw [hv];simp)⟩ (Nat.le_refl _)
  | some g=>exact hx.off (h.ni.noInt hv) (fun k hk hne=>hg.block k hk (by rw [hv];simp;exact fun e=>hne e)) hg.size
 refine ⟨by rw [flat4_snoc,List.length_append];exact hown,by simp [h.len],fun i h1 h2 => ?_,hn⟩
 by_cases hi:i<cs.length
 · rw [List.getElem_append_left hi,List.getElem_append_left (by rw [← h.len];exact hi)]
   exact off (h.is_ i hi (by rw [← h.len];exact hi))
 · have e:i=cs.length:=by simp at h1;omega
   subst e
   rw [List.getElem_append_right (Nat.le_refl _)]
   have hlen:=h.len
   simp only [Nat.sub_self,List.getElem_cons_zero]
   have e2:(qs++[q])[cs.length]'h2=q:=by
    rw [List.getElem_append_right (by omega)];simp [hlen]
   rw [e2]
   exact off hc
theorem RowQ.at {B:Nat} {W:World} {v:Value} {qs:List Rat} {cs:List C4} (h:RowQ B W v qs cs) (i:Nat) (hi:i<qs.length) :
 ∃ g cap c,v = .slice (some ⟨g,0,none⟩) qs.length cap∧W.cell? ⟨g,i*4,none⟩=some c.1∧W.cell? ⟨g,i*4+1,none⟩=some c.2.1∧W.cell? ⟨g,i*4+2,none⟩=some c.2.2.1∧W.cell? ⟨g,i*4+3,none⟩=some c.2.2.2∧RRef W (agg4 c) qs[i]:=by
 have hic:i<cs.length:=by rw [h.len];exact hi
 rcases h.own.2 with ⟨_,h0⟩ | ⟨g,cap,cur,rfl,hB,hg,h1,h2,h3,h4⟩
 · omega
 · have hcell:∀ (j:Nat),j<qs.length*4→W.cell? ⟨g,j,none⟩=(flat4 cs)[j]?:=fun j hj=>by
    simp only [World.cell?,hg]
    rw [← h4,List.getElem?_take,if_pos hj];simp
   obtain ⟨e0,e1,e2,e3⟩:=flat4_get cs i hic
   exact ⟨g,cap,cs[i],rfl,(hcell _ (by omega)).trans e0,(hcell _ (by omega)).trans e1,(hcell _ (by omega)).trans e2,(hcell _ (by omega)).trans e3,h.is_ i hic hi⟩
theorem infoRat:(Tryz.prog.info? 33).map (fun i=>(i.zero,i.size,i.bytes))=some (some (.agg #[.bool false,.slice none 0 0,.bool false,.slice none 0 0]),4,64):=by kernel_rfl
theorem region_plainX {P:Program} {id m:Nat} {ops:Array Oper} {Q:Exit→Act→World→Prop} {S:World→Prop} {a:Act} {w:World} (hm:P.follows .mixedOrders=true)
 (h:wpAnyX P .any ops Q S m ops.size (Array.replicate ops.size false) a w.drew):(Code.region id ops true).wp P Q a w:=wp_region_any hm (any_of_x _ _ _ _ h)
end Go.Proofs.YtkhdocdddicgpaaGreatDoor
set_option linter.unusedVariables false
set_option linter.unusedSimpArgs false
namespace Go.Proofs.YtkhdocdddicgpaaGreatDoor
open Go.RowKit Go.Maps _root_.Go.Proofs.YtkhdocdddicgpaaGreatDoor.Nm
def B5 (W:World) (g:Nat) (s x0 x1 x2 x3:Value):Prop:=∃ T,W.heap[g]?=some (.cells #[s,x0,x1,x2,x3] T (0,0))
theorem B5.new (W:World) (s x0 x1 x2 x3:Value) (T:TypeId):B5 (W.alloc (.cells #[s,x0,x1,x2,x3] T)) W.heap.size s x0 x1 x2 x3:=⟨T,heap_alloc_new _ _⟩
theorem B5.cell {W:World} {g:Nat} {s x0 x1 x2 x3:Value} (h:B5 W g s x0 x1 x2 x3):W.cell? ⟨g,0,none⟩=some s∧W.cell? ⟨g,1,none⟩=some x0∧W.cell? ⟨g,2,none⟩=some x1∧W.cell? ⟨g,3,none⟩=some x2∧W.cell? ⟨g,4,none⟩=some x3:=by
 obtain ⟨T,h⟩:=h
 simp [World.cell?,h]
theorem B5.froz {W:World} {g:Nat} {s x0 x1 x2 x3:Value} (h:B5 W g s x0 x1 x2 x3):W.frozen? ⟨g,0,none⟩=false∧W.frozen? ⟨g,1,none⟩=false∧W.frozen? ⟨g,2,none⟩=false∧W.frozen? ⟨g,3,none⟩=false∧W.frozen? ⟨g,4,none⟩=false:=by
 obtain ⟨T,h⟩:=h
 simp [World.frozen?,h]
theorem B5.lt {W:World} {g:Nat} {s x0 x1 x2 x3:Value} (h:B5 W g s x0 x1 x2 x3):g<W.heap.size:=by
 obtain ⟨T,h⟩:=h
 exact (Array.getElem?_eq_some_iff.1 h).1
theorem B5.same {W W':World} {g:Nat} {s x0 x1 x2 x3:Value} (h:B5 W g s x0 x1 x2 x3) (hk:W'.heap[g]?=W.heap[g]?):B5 W' g s x0 x1 x2 x3:=by
 obtain ⟨T,h⟩:=h
 exact ⟨T,hk.trans h⟩
theorem B5.keep {W W':World} {g:Nat} {s x0 x1 x2 x3:Value} (h:B5 W g s x0 x1 x2 x3) (hb:Below W.heap.size W W'):B5 W' g s x0 x1 x2 x3:=h.same (hb.block g h.lt)
theorem set_at (W:World) (g o:Nat) (cur:Array Value) (T:TypeId) (v:Value) (h:W.heap[g]?=some (.cells cur T (0,0))):(W.setCell ⟨g,o,none⟩ v).heap[g]?=some (.cells (cur.setIfInBounds o v) T (0,0)):=by
 obtain ⟨hlt,hk⟩:=Array.getElem?_eq_some_iff.1 h
 show (W.heap.modify g _)[g]?=_
 rw [Array.getElem?_eq_getElem (by rw [Array.size_modify];exact hlt),Array.getElem_modify_self,hk]
 rfl
theorem B5.set0 {W:World} {g:Nat} {s x0 x1 x2 x3:Value} (h:B5 W g s x0 x1 x2 x3) (s':Value):B5 (W.setCell ⟨g,0,none⟩ s') g s' x0 x1 x2 x3:=by
 obtain ⟨T,h⟩:=h
 exact ⟨T,set_at W g 0 _ T s' h⟩
theorem RowQ.other {B:Nat} {W W':World} {v:Value} {qs:List Rat} {cs:List C4} {g:Nat} (h:RowQ B W v qs cs) (hg:W.grownBy W' (some g)) (hni:NoInt W g) (hgB:g<B):RowQ B W' v qs cs:=by
 have hne:∀ b,v.ownBlock=some b→b≠g:=fun b hb=>by have:=(h.own.lt b hb).1;omega
 refine ⟨h.own.kept hg ?_,h.len,fun i h1 h2=>(h.is_ i h1 h2).off hni (fun k hk hn=>hg.block k hk (by simp;omega)) hg.size,h.ni.keep (fun b hb=>hg.block b (h.own.lt b hb).2 (by have:=hne b hb;simp;omega))⟩
 cases hv:v.ownBlock with
 | none=>exact .inl rfl
 | some b=>exact .inr (by have:=hne b hv;simp;exact this)
def BN (W:World) (g:Nat):Prop:=∃ cur T,W.heap[g]?=some (.cells cur T (0,0))∧∀ u∈cur,NI u
theorem BN.noInt {W:World} {g:Nat} (h:BN W g):NoInt W g:=by
 intro o k x e
 obtain ⟨cur,T,h,hn⟩:=h
 simp only [World.cell?,h] at e
 exact hn _ (Array.mem_of_getElem? (show cur[o]?=some (.int k x) by simpa using e)) k x rfl
theorem BN.set {W:World} {g:Nat} (h:BN W g) (o:Nat) {u:Value} (hu:NI u):BN (W.setCell ⟨g,o,none⟩ u) g:=by
 obtain ⟨cur,T,h,hn⟩:=h
 refine ⟨_,T,set_at W g o cur T u h,fun x hx => ?_⟩
 rcases Array.mem_or_eq_of_mem_setIfInBounds hx with h1 | h1
 · exact hn x h1
 · rw [h1];exact hu
theorem B5.bn {W:World} {g:Nat} {s x0 x1 x2 x3:Value} (h:B5 W g s x0 x1 x2 x3) (hn:∀ u∈[s,x0,x1,x2,x3],NI u):BN W g:=by
 obtain ⟨T,h⟩:=h
 exact ⟨_,T,h,fun u hu=>hn u (by simpa using hu)⟩
theorem RowQ.slice {B:Nat} {W:World} {v:Value} {qs:List Rat} {cs:List C4} (h:RowQ B W v qs cs):∃ a cap,v = .slice a qs.length cap:=by
 rcases h.own.2 with ⟨h,h0⟩ | ⟨g,cap,cur,h,_⟩
 · exact ⟨none,0,by rw [h,h0]⟩
 · exact ⟨_,cap,h⟩
theorem RowQ.base {B B':Nat} {W:World} {v:Value} {qs:List Rat} {cs:List C4} (h:RowQ B W v qs cs) (hB:B'≤B):RowQ B' W v qs cs:=by
 refine ⟨⟨h.own.1,?_⟩,h.len,h.is_,h.ni⟩
 rcases h.own.2 with hn | ⟨g,cap,cur,e,hb,rest⟩
 · exact .inl hn
 · exact .inr ⟨g,cap,cur,e,Nat.le_trans hB hb,rest⟩
theorem RRef.grown_box {W W':World} {x:Value} {r:Rat} {g:Nat} (h:RRef W x r) (hni:NoInt W g) (hg:W.grownBy W' (some g)):RRef W' x r :=
 h.off hni (fun k hk hn=>hg.block k hk (by simp;exact fun e=>hn e)) hg.size
structure Kp (B:Nat) (W:World) (g:Nat) (v:Value) (qs:List Rat) (cs:List C4) (c:C4) (r:Rat):Prop where
 row:RowQ B W v qs cs
 num:RRef W (agg4 c) r
 bn:BN W g
theorem Kp.set {B:Nat} {W:World} {g:Nat} {v:Value} {qs:List Rat} {cs:List C4} {c:C4} {r:Rat} (h:Kp B W g v qs cs c r) (hB:g<B) (o:Nat) {u:Value} (hu:NI u):Kp B (W.setCell ⟨g,o,none⟩ u) g v qs cs c r :=
 ⟨h.row.other (grown_set W g o u) h.bn.noInt hB,h.num.grown_box h.bn.noInt (grown_set W g o u),h.bn.set o hu⟩
theorem B5.store {W:World} {g:Nat} {s x0 x1 x2 x3:Value} (h:B5 W g s x0 x1 x2 x3) (t y0 y1 y2 y3:Value):B5 (((((W.setCell ⟨g,0,none⟩ t).setCell ⟨g,1,none⟩ y0).setCell ⟨g,2,none⟩ y1).setCell ⟨g,3,none⟩ y2).setCell ⟨g,4,none⟩ y3) g t y0 y1 y2 y3:=by
 obtain ⟨T,h⟩:=h
 exact ⟨T,set_at _ g 4 _ T y3 (set_at _ g 3 _ T y2 (set_at _ g 2 _ T y1 (set_at _ g 1 _ T y0 (set_at W g 0 _ T t h))))⟩
theorem RowQ.niv {B:Nat} {W:World} {v:Value} {qs:List Rat} {cs:List C4} (h:RowQ B W v qs cs):NI v:=by
 obtain ⟨a,c,rfl⟩:=h.slice
 exact ni_slice _ _ _
theorem ni5 {s:Value} (h:NI s) (n1 n2:Bool) (a1 a2:Option Addr) (l1 c1 l2 c2:Nat):∀ u∈[s,.bool n1,.slice a1 l1 c1,.bool n2,.slice a2 l2 c2],NI u:=by
 intro u hu
 simp only [List.mem_cons,List.mem_nil_iff,or_false] at hu
 rcases hu with rfl | rfl | rfl | rfl | rfl
 · exact h
 · exact ni_bool _
 · exact ni_slice _ _ _
 · exact ni_bool _
 · exact ni_slice _ _ _
def FormQ (W:World) (B:Nat) (v:Value) (qs:List Rat) (r:Rat):Prop:=∃ s cs c,v = .agg #[s,c.1,c.2.1,c.2.2.1,c.2.2.2]∧RowQ B W s qs cs∧RRef W (agg4 c) r
theorem RowQ.others {B:Nat} {W W':World} {v:Value} {qs:List Rat} {cs:List C4} (h:RowQ B W v qs cs) (hg:W.grownBy W' v.ownBlock) {x:Value} {r:Rat} (hx:RRef W x r):RRef W' x r:=by
 cases hv:v.ownBlock with
 | none=>exact hx.keep (B:=W.heap.size) ⟨hg.os,hg.tape,hg.output,hg.size,fun k hk=>hg.block k hk (by rw [hv];simp)⟩ (Nat.le_refl _)
 | some g=>exact hx.off (h.ni.noInt hv) (fun k hk hne=>hg.block k hk (by rw [hv];simp;exact fun e=>hne e)) hg.size
theorem four_new (w:World) (x y z u:Value) (T:TypeId):∀ j t,[x,y,z,u][j]?=some t→(w.alloc (.cells #[x,y,z,u] T)).cell? ((⟨w.heap.size,0,none⟩:Addr).add j)=some t:=by
 intro j t ht
 have hn:=World.alloc_heap_new w (.cells #[x,y,z,u] T)
 rw [show ((⟨w.heap.size,0,none⟩:Addr).add j)=⟨w.heap.size,j,none⟩ from by unfold Addr.add;split <;> simp_all]
 simp only [World.cell?,hn]
 simpa using ht
set_option maxRecDepth 100000 in
set_option maxHeartbeats 6400000 in
theorem rZero_any (n:Nat) (w:World) (hn:n≤100000) :
 Calls Tryz.prog 39 #[.int .i64 (n:Nat)] w fun e w'=>(∃ v,e = .returned v∧FormQ w' w.heap.size v (List.replicate n 0) 0)∧Below w.heap.size w w':=by
 have hA:=(Below.refl w.heap.size w).alloc (Nat.le_refl _) (.cells #[.slice none 0 0,.bool false,.slice none 0 0,.bool false,.slice none 0 0] 35)
 have HR0:=Lib.hid (B5.new w (.slice none 0 0) (.bool false) (.slice none 0 0) (.bool false) (.slice none 0 0) 35)
 have HW0:=Lib.hid hA
 clear hA
 go_enter Tryz.func39,Tryz.ntmps39
 go_wp2_with fail
 refine (rrInt_zero _).mono ?_
 rintro e w1 ⟨v1,rfl,hr1,hb⟩
 obtain ⟨n1,a1,l1,c1,n2,a2,l2,c2,rfl,z1,z2⟩:=hr1
 have HC1:=Lib.hid (show RRef w1 (agg4 (.bool n1,.slice a1 l1 c1,.bool n2,.slice a2 l2 c2)) 0 from ⟨_,_,_,_,_,_,_,_,rfl,z1,z2⟩)
 have HR1:=Lib.hid (HR0.out.keep (hb.mono (Nat.le_refl _)))
 have HW1:=Lib.hid (HW0.out.trans (hb.mono HW0.out.size))
 clear z1 z2 hb
 go_wp2_with fail
 have hB3:=B5.new w1 (.slice none 0 0) (.bool n1) (.slice a1 l1 c1) (.bool n2) (.slice a2 l2 c2) 35
 have hA1:=(Below.refl w1.heap.size w1).alloc (Nat.le_refl _) (.cells #[.slice none 0 0,.bool n1,.slice a1 l1 c1,.bool n2,.slice a2 l2 c2] 35)
 have HB3:=Lib.hid hB3
 have HA1:=Lib.hid hA1
 have HG1:Hid (w.heap.size<w1.heap.size):=Lib.hid HR1.out.lt
 clear hB3 hA1
 go_loopw [4] (fun i wr=>∃ (k:Nat) (v:Value) (cs:List C4),k≤n∧i = .int .i64 k∧Hid (RowQ (w1.heap.size+1) wr v (List.replicate k 0) cs)∧Hid (B5 wr w1.heap.size v (.bool n1) (.slice a1 l1 c1) (.bool n2) (.slice a2 l2 c2))∧Hid (RRef wr (agg4 (.bool n1,.slice a1 l1 c1,.bool n2,.slice a2 l2 c2)) 0)∧Hid (B5 wr w.heap.size (.slice none 0 0) (.bool false) (.slice none 0 0) (.bool false) (.slice none 0 0))∧Hid (Below w.heap.size w wr)) (fun i _=>n-(intOf i).toNat)
 case atStart=>exact ⟨0,.slice none 0 0,[],Nat.zero_le _,rfl,Lib.hid (RowQ.nil _ _),HB3,Lib.hid (HC1.out.keep HA1.out (Nat.le_refl _)),Lib.hid (HR1.out.keep HA1.out),Lib.hid (HW1.out.trans (HA1.out.mono HW1.out.size))⟩
 case round =>
  obtain ⟨k,v,cs,hk,rfl,HQ,HB,HC,HR,HW⟩:=hrel
  by_cases hlt:k<n
  · have h1:(k:Int)<n:=by omega
    have c1':wr.drew.cell? ⟨w1.heap.size,0,none⟩=some v:=HB.out.cell.1
    go_wp2_with fail
    refine region_plainX (S:=fun W'=>W'.cell? ⟨w1.heap.size,0,none⟩=some v) (m:=6) (by kernel_rfl) ?_
    refine x_take (i:=0) (v := .pointer (some ⟨w1.heap.size,0,none⟩)) rfl rfl (by kernel_rfl) (by kernel_rfl) (by kernel_rfl) (by kernel_rfl) (fun _ _ _ h=>h) (.inl ⟨by rfl,?_⟩) c1' ?_
    · intro w hSw;(try dsimp only at hSw);go_simp
    simp only [Act.put,List.setIfInBounds_toArray,List.set_cons_zero,List.set_cons_succ]
    refine x_take (i:=1) (v:=v) rfl rfl (by kernel_rfl) (by kernel_rfl) (by kernel_rfl) (by kernel_rfl) (fun _ _ _ h=>h) (.inl ⟨by rfl,?_⟩) c1' ?_
    · intro w hSw;(try dsimp only at hSw);go_simp
    simp only [Act.put,List.setIfInBounds_toArray,List.set_cons_zero,List.set_cons_succ]
    refine x_one (i:=2) (by kernel_rfl) rfl (fun K' hK' => ?_)
    go_simp
    refine (rrInt_zero _).mono ?_
    rintro e w2 ⟨v2,rfl,hr2,hb⟩
    obtain ⟨m1,b1,p1,d1,m2,b2,p2,d2,rfl,z1,z2⟩:=hr2
    have hb2:Below wr.heap.size wr w2:=(Below.refl _ wr).drew.trans hb
    have hrr:RRef w2 (agg4 (.bool m1,.slice b1 p1 d1,.bool m2,.slice b2 p2 d2)) 0:=⟨_,_,_,_,_,_,_,_,rfl,z1,z2⟩
    dsimp only
    refine hK'.out _ _ (fun _=>(hb2.cell (p:=⟨w1.heap.size,0,none⟩) HB.out.lt).trans HB.out.cell.1) ?_
    clear hK' K'
    refine x_one (i:=3) (by kernel_rfl) rfl (fun K' hK' => ?_)
    go_simp
    have hA2:Below w2.heap.size w2 (w2.alloc (.cells #[.bool m1,.slice b1 p1 d1,.bool m2,.slice b2 p2 d2] 33)):=(Below.refl _ w2).alloc (Nat.le_refl _) _
    have hbA:Below wr.heap.size wr (w2.alloc (.cells #[.bool m1,.slice b1 p1 d1,.bool m2,.slice b2 p2 d2] 33)):=hb2.trans (hA2.mono hb2.size)
    have hq3:=HQ.out.keep hbA
    have hr3:=hrr.keep hA2 (Nat.le_refl _)
    have hB3:=HB.out.keep hbA
    have hC3:=HC.out.keep hbA (Nat.le_refl _)
    have hR3:=HR.out.keep hbA
    have hW3:=HW.out.trans (hbA.mono HW.out.size)
    have hgl:w1.heap.size+1≤(w2.alloc (.cells #[.bool m1,.slice b1 p1 d1,.bool m2,.slice b2 p2 d2] 33)).heap.size:=hB3.lt
    obtain ⟨i0,hi,hz0,hz1,hz2⟩:=info_parts infoRat
    refine hK'.out _ _ (fun _=>hB3.cell.1) ?_
    clear hK' K'
    refine x_one (i:=4) (by kernel_rfl) rfl (fun K' hK' => ?_)
    refine step_append_p _ NI (by rfl) _ _ _ (by rfl) (w1.heap.size+1) 33 i0 (.agg #[.bool false,.slice none 0 0,.bool false,.slice none 0 0]) 4 64 Tryz.underlying28 hi hz0 hz1 hz2 rfl (by decide) v k (flat4 cs) rfl (by simpa using hq3.own) _ 1 1 (cells4 (.bool m1,.slice b1 p1 d1,.bool m2,.slice b2 p2 d2)) rfl rfl (four_new _ _ _ _ _ _) (by simp [cells4,Value.oneCell']) (by decide) (by unfold maxLen;omega) (by omega) hgl hq3.ni hq3.niAll hr3.ni (by simp [Value.cells,NI]) ?_
    intro g cap w4 hown hgrow hrp
    have hq4:=hq3.push hr3 (by simpa using hown) hgrow hrp
    rw [← List.replicate_succ'] at hq4
    have hne:v.ownBlock≠some w1.heap.size:=fun e=>by have:=(hq3.own.lt _ e).1;omega
    have hne2:v.ownBlock≠some w.heap.size:=fun e=>by have:=(hq3.own.lt _ e).1;have:=HG1.out;omega
    have hB4:=hB3.same (hgrow.block _ hB3.lt (fun e=>hne e.symm))
    have hR4:=hR3.same (hgrow.block _ hR3.lt (fun e=>hne2 e.symm))
    have hC4:=hq3.others hgrow hC3
    have hW4:=hW3.grown hgrow hW3.size (fun j e=>by have:=(hq3.own.lt j e).1;have:=HG1.out;omega)
    have hkp:Kp (w1.heap.size+1) w4 w1.heap.size (.slice (some ⟨g,0,none⟩) (k+1) cap) (List.replicate (k+1) 0) (cs++[(.bool m1,.slice b1 p1 d1,.bool m2,.slice b2 p2 d2)]) (.bool n1,.slice a1 l1 c1,.bool n2,.slice a2 l2 c2) 0 :=
     ⟨hq4,hC4,hB4.bn (ni5 HQ.out.niv _ _ _ _ _ _ _ _)⟩
    have HKP:=Lib.hid (hkp.set (Nat.lt_succ_self _) 0 (ni_slice (some ⟨g,0,none⟩) (k+1) cap))
    have HB5:=Lib.hid (hB4.set0 (.slice (some ⟨g,0,none⟩) (k+1) cap))
    have HR5:=Lib.hid (hR4.same (Below.heap_setCell w4 ⟨w1.heap.size,0,none⟩ (.slice (some ⟨g,0,none⟩) (k+1) cap) w.heap.size (by have:=HG1.out;dsimp only;omega)))
    have HW5:=Lib.hid (hW4.setCell (p:=⟨w1.heap.size,0,none⟩) (by have:=HG1.out;dsimp only;omega) (.slice (some ⟨g,0,none⟩) (k+1) cap))
    have d1:=hB4.cell.1
    have f1:=hB4.froz.1
    refine hK'.out _ _ (fun _=>d1) ?_
    clear hK' K' hq4 hne hne2 hB4 hR4 hC4 hW4 hkp hown hgrow hrp hq3 hr3 hB3 hC3 hR3 hW3 hgl hbA hA2 hb2 hrr hb c1'
    simp only [Act.put,List.setIfInBounds_toArray,List.set_cons_zero,List.set_cons_succ]
    refine x_one (i:=5) (by kernel_rfl) rfl (fun K' hK' => ?_)
    go_simp
    refine hK'.out _ _ (fun _=>d1) ?_
    clear hK' K'
    refine x_one (i:=6) (by kernel_rfl) rfl (fun K' hK' => ?_)
    go_simp
    refine hK'.out _ _ (fun h=>absurd rfl h) ?_
    clear hK' K' d1 f1
    refine x_done (by kernel_rfl) ?_ _
    go_wp2
    go_roundw
    case rel=>exact ⟨k+1,.slice (some ⟨g,0,none⟩) (k+1) cap,cs++[(.bool m1,.slice b1 p1 d1,.bool m2,.slice b2 p2 d2)],by omega,by go_num,Lib.hid HKP.out.row,HB5,Lib.hid HKP.out.num,HR5,HW5⟩
    case measure=>simp [intOf];omega
  · obtain rfl:k=n:=by omega
    obtain ⟨av,cav,hvv⟩:=HQ.out.slice
    rw [List.length_replicate] at hvv
    subst hvv
    obtain ⟨a0',a1',a2',a3',a4'⟩:=HB.out.cell
    obtain ⟨b0',b1',b2',b3',b4'⟩:=HR.out.cell
    obtain ⟨g0',g1',g2',g3',g4'⟩:=HR.out.froz
    have hnn:¬ (k:Int)<k:=by omega
    go_wp2
    obtain ⟨e0,e1,e2,e3,e4⟩:=(HR.out.store (.slice av k cav) (.bool n1) (.slice a1 l1 c1) (.bool n2) (.slice a2 l2 c2)).cell
    refine bodyPost_ret (v := .agg #[.slice av k cav,.bool n1,.slice a1 l1 c1,.bool n2,.slice a2 l2 c2]) (by simp only [results,Tryz.results39];simp [go_sem,e0,e1,e2,e3,e4]) rfl ?_
    have hgl:w.heap.size<w1.heap.size+1:=by have:=HG1.out;omega
    have hk:Kp (w1.heap.size+1) wr w.heap.size (.slice av k cav) (List.replicate k 0) cs (.bool n1,.slice a1 l1 c1,.bool n2,.slice a2 l2 c2) 0:=⟨HQ.out,HC.out,HR.out.bn (ni5 (ni_slice _ _ _) _ _ _ _ _ _ _ _)⟩
    have hk5:=((((hk.set hgl 0 (ni_slice av k cav)).set hgl 1 (ni_bool n1)).set hgl 2 (ni_slice a1 l1 c1)).set hgl 3 (ni_bool n2)).set hgl 4 (ni_slice a2 l2 c2)
    exact ⟨⟨_,rfl,_,cs,(.bool n1,.slice a1 l1 c1,.bool n2,.slice a2 l2 c2),rfl,hk5.row.base (by omega),hk5.num⟩,((((HW.out.setCell (Nat.le_refl _) _).setCell (Nat.le_refl _) _).setCell (Nat.le_refl _) _).setCell (Nat.le_refl _) _).setCell (Nat.le_refl _) _⟩
end Go.Proofs.YtkhdocdddicgpaaGreatDoor
