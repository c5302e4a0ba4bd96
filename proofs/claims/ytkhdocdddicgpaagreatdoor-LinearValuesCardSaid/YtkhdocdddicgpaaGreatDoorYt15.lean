/- Part 15: what the law's walk leans on. -/
import Derived.Test.YtkhdocdddicgpaaGreatDoorYt14
import Derived.Shelf.SlSortCmp.WholeK
import Derived.Lib.OwnBridge
import Derived.BigQuiet
set_option linter.unusedVariables false
set_option linter.unusedSimpArgs false
namespace Go.Proofs.YtkhdocdddicgpaaGreatDoor
open Go.RowKit Go.Maps _root_.Go.Proofs.YtkhdocdddicgpaaGreatDoor.Nm
theorem lookup_ok_str {H:Type} {P:Program} (w:World) {ops:Array Oper} {rest:List Oper} {o:Oper} {a:Act} {Q:Exit→Act→World→Prop} (hg:o.guard=none) (m x:Operand) (t:TypeId) (hop:o.op=Op.lookup t m x true)
 (k e:TypeId) (K:Keyed P k) (ht:P.underlying t=some (.map k e)) (he:P.underlying e=some .string) (hz:(zeroValue e).run P w = .ok (.string ⟨#[]⟩) w) (b n:Nat) (D:DataW H)
 (hm:a.eval m = .map (some b)) (hown:w.ownsMap P k (plainElem P e) b n D) (key:Value) (kl:Lit) (hx:a.eval x=key) (hkey:keyOf P k key=some kl) (r:Bool) (hr:has D kl=r)
 (hK:∀ s:ByteArray,D.atKey kl (.lit (.string [])) = .lit (.string s.data.toList)→wpList P ops Q rest (a.put o.dst (.tuple #[.string s,.bool r])) w) :
 wpList P ops Q (o::rest) a w :=
 wpList_lookup_own_ok w hg m x t hop k e K ht (plainElem P e) hz (.lit (.string [])) [] (plainElem_string he (by decide)) b n D hm hown key kl hx hkey (fun v ps hv=>by
  obtain ⟨s,rfl,hs,_⟩:=plainElem_string_inv he hv
  rw [hr]
  exact hK s (congrArg Prod.fst hs))
theorem lawInt:Keyed Tryz.prog 3:=int_keyed Tryz.underlying3
theorem zeroStr (w:World):(zeroValue 9).run Tryz.prog w = .ok (.string ⟨#[]⟩) w:=by kernel_rfl
theorem infoTm:(Tryz.prog.info? 68).map (fun i=>(i.zero,i.size,i.bytes))=some (some (.agg #[.int .i64 0,.string ⟨#[]⟩]),2,24):=by kernel_rfl
def encT (p:Qm):List Value:=[.int .i64 p.1,.string (txt p.2)]
def flatT (q:List Qm):List Value:=q.flatMap encT
theorem flatT_length (q:List Qm):(flatT q).length=q.length*2:=by
 induction q with
 | nil=>rfl
 | cons p q ih=>rw [show flatT (p::q)=encT p++flatT q from rfl,List.length_append,ih];simp [encT];omega
theorem flatT_snoc (q:List Qm) (p:Qm):flatT (q++[p])=flatT q++encT p:=by simp [flatT]
theorem flatT_get:∀ (q:List Qm) (i:Nat) (h:i<q.length),(flatT q)[i*2]?=some (.int .i64 q[i].1)∧(flatT q)[i*2+1]?=some (.string (txt q[i].2))
 | [],i,h=>absurd h (Nat.not_lt_zero i)
 | p::q,0,h=>⟨rfl,rfl⟩
 | p::q,i+1,h=>by
  have e1:(i+1)*2=i*2+1+1:=by omega
  have ih:=flatT_get q i (by simpa using h)
  rw [e1,show flatT (p::q) = .int .i64 p.1 :: .string (txt p.2)::flatT q from rfl]
  simpa using ih
theorem col_wf {c:Int} (h:ColIn c):(Lit.int .i64 c).wf=true:=by
 obtain ⟨h1,h2⟩:=h
 exact WalkArith.wf_i64 (by omega)
theorem txt_size {q:Rat} (h:rshort q=true):(txt q).size≤1000:=(txt_is h).size
theorem addRes {p q:Rat} (hp:rshort p=true) (hq:rshort q=true):(rshort (p+q)=true→OpRes fAdd gAdd (txt p) (txt q) (txt (p+q)) 0)∧(rshort (p+q)=false→OpRes fAdd gAdd (txt p) (txt q) ⟨#[]⟩ 5) :=
 ⟨fun h=>Add_res (txt_is hp) (txt_is hq) (txt_is h) rfl,fun h => .mk (txt_is hp) (txt_is hq) (.long (den_ne p q) (sum_div p q) h)⟩
theorem txt_is_zero {q:Rat} (h:rshort q=true):((txt q).data.toList==[48])=decide (q=0):=by
 have h1:=txt_zero h
 cases hb:((txt q).data.toList==[48])
 · rw [hb] at h1;have:q≠0:=by simpa using h1
   simp [this]
 · rw [hb] at h1;have:q=0:=by simpa using h1
   simp [this]
theorem Bx.grown {W W':World} {g:Nat} {x y:Value} {row:Option Nat} (h:Bx W g x y) (hg:W.grownBy W' row) (hr:row≠some g):Bx W' g x y:=by
 obtain ⟨T,hT⟩:=h
 exact ⟨T,(hg.block g (Array.getElem?_eq_some_iff.1 hT).1 (fun e=>hr e.symm)).trans hT⟩
end Go.Proofs.YtkhdocdddicgpaaGreatDoor
set_option linter.unusedVariables false
set_option linter.unusedSimpArgs false
namespace Go.Proofs.YtkhdocdddicgpaaGreatDoor
open Go.RowKit Go.Maps Go.Sort _root_.Go.Proofs.YtkhdocdddicgpaaGreatDoor.Nm
abbrev Bel:=@Go.RowKit.Below
set_option maxRecDepth 100000 in
set_option maxHeartbeats 1600000 in
theorem isNaN_any (x:Int) (w:World):Calls Tryz.prog 127 #[.int .i64 x] w fun e w'=>e = .returned (.bool false)∧w'=w:=by
 go_enter Tryz.func127,Tryz.ntmps127
 go_wp2
 go_ret
 exact ⟨by simp,rfl⟩
set_option maxRecDepth 100000 in
set_option maxHeartbeats 1600000 in
theorem cmpI_any (x y:Int) (w:World):Calls Tryz.prog 87 #[.int .i64 x,.int .i64 y] w fun e w'=>e = .returned (.int .i64 (Lib.compareInt x y))∧w'=w:=by
 unfold Lib.compareInt
 by_cases h1:x<y
 · rw [if_pos h1]
   go_enter Tryz.func87,Tryz.ntmps87
   go_wp2_with (first | (go_at_call 127;refine (isNaN_any _ _).mono ?_;rintro e w' ⟨rfl,rfl⟩))
   all_goals first | (exfalso;omega) | (go_ret;exact ⟨rfl,rfl⟩)
 · rw [if_neg h1]
   by_cases h2:y<x
   · rw [if_pos h2]
     go_enter Tryz.func87,Tryz.ntmps87
     go_wp2_with (first | (go_at_call 127;refine (isNaN_any _ _).mono ?_;rintro e w' ⟨rfl,rfl⟩))
     all_goals first | (exfalso;omega) | (go_ret;exact ⟨rfl,rfl⟩)
   · rw [if_neg h2]
     go_enter Tryz.func87,Tryz.ntmps87
     go_wp2_with (first | (go_at_call 127;refine (isNaN_any _ _).mono ?_;rintro e w' ⟨rfl,rfl⟩))
     all_goals first | (exfalso;omega) | (go_ret;exact ⟨rfl,rfl⟩)
set_option maxRecDepth 100000 in
set_option maxHeartbeats 1600000 in
theorem collect1_any (x y:Qm) (W:World):Calls Tryz.prog 114 #[.agg #[.int .i64 x.1,.string (txt x.2)],.agg #[.int .i64 y.1,.string (txt y.2)]] W fun e W'=>e = .returned (.int .i64 (Lib.compareInt x.1 y.1))∧∃ q os',W'=grow (W.drewN q) os':=by
 go_enter Tryz.func114,Tryz.ntmps114
 go_wp2_with (first | (go_at_call 87;refine (cmpI_any _ _ _).mono ?_;rintro e w' ⟨rfl,rfl⟩))
 go_ret
 exact ⟨rfl,0,_,by rw [alloc_eq_grow,alloc_eq_grow,grow_grow];rfl⟩
theorem ltCol (x y:Qm):ltOf (fun x y:Qm=>Lib.compareInt x.1 y.1) x y=decide (x.1<y.1):=by
 unfold ltOf Lib.compareInt
 by_cases h1:x.1<y.1
 · simp [h1]
 · by_cases h2:y.1<x.1 <;> simp [h1,h2]
theorem swoCol:SWO (ltOf fun x y:Qm=>Lib.compareInt x.1 y.1) where
 irrefl x:=by rw [ltCol];simp
 trans x y z h1 h2:=by rw [ltCol] at *;simp at *;omega
 ntrans x y z h1 h2:=by rw [ltCol] at *;simp at *;omega
theorem holds_row {W:World} {B blk cap:Nat} {q:List Qm} (h:W.ownsRow B 68 2 (.slice (some ⟨blk,0,none⟩) q.length cap) q.length (flatT q)):HoldsK encT 2 W blk 0 q.toArray∧blk<W.heap.size:=by
 obtain ⟨h1,h2⟩:=h
 rcases h2 with ⟨h,_⟩ | ⟨g,cap',cur,h3,h4,h5,h6,h7,h8,h9⟩
 · cases h
 · cases h3
   refine ⟨fun t ht => ?_,(Array.getElem?_eq_some_iff.1 h5).1⟩
   have ht':t<q.length*2:=by simpa [flatK] using ht
   have e1:(flatK encT 2 q.toArray)[t]! = (encT q.toArray[t/2]!)[t%2]! := get_flatK _ _ _ t (by simpa using ht')
   have hq:t/2<q.length:=by omega
   have e2:q.toArray[t/2]! = q[t/2]:=by simp [hq]
   have hg:=flatT_get q (t/2) hq
   have hcur:∀ (j:Nat),j<q.length*2→cur[j]?=(flatT q)[j]?:=fun j hj=>by
    rw [← h9,List.getElem?_take,if_pos hj];simp
   obtain ⟨y,hy⟩:∃ y,q[t/2]=y:=⟨_,rfl⟩
   rw [hy] at hg e2
   have hv:cur[t]?=some (encT y)[t%2]! := by
    rw [hcur t ht']
    rcases Nat.mod_two_eq_zero_or_one t with e | e
    · rw [e]
      have h:=hg.1
      rw [show t/2*2=t from by omega] at h
      exact h
    · rw [e]
      have h:=hg.2
      rw [show t/2*2+1=t from by omega] at h
      exact h
   rw [e1,e2,Nat.zero_add]
   refine ⟨?_,?_⟩
   · simp only [World.cell?,h5];simpa using hv
   · simp [World.frozen?,h5]
theorem terms_of_holds {W:World} {blk cap:Nat} {d:Array Qm} (h:HoldsK encT 2 W blk 0 d) (hb:blk<W.heap.size):TsAt W (.slice (some ⟨blk,0,none⟩) d.size cap) (tms d.toList):=by
 refine ⟨_,_,_,rfl,by simp [tms],.inr ⟨blk,0,rfl,hb,fun i hi => ?_⟩⟩
 have hi':i<d.size:=by simpa [tms] using hi
 have e3:(tms d.toList)[i]=(d[i].1,txt d[i].2):=by simp [tms]
 have h1:=(h (i*2) (by simp [flatK];omega)).1
 have h2:=(h (i*2+1) (by simp [flatK];omega)).1
 rw [get_flatK _ _ _ _ (by omega)] at h1 h2
 have e1:i*2/2=i:=by omega
 have e2:(i*2+1)/2=i:=by omega
 have e4:i*2%2=0:=by omega
 have e5:(i*2+1)%2=1:=by omega
 rw [e1,e4,getElem!_pos d i hi'] at h1
 rw [e2,e5,getElem!_pos d i hi'] at h2
 rw [e3]
 refine ⟨h1,?_⟩
 rw [← Nat.add_assoc] at h2
 exact h2
theorem only_sorted (W:World) (blk n:Nat) (d:Array Qm) (os:Array Obj) (k:Nat) (hk:k<W.heap.size) (hb:k≠blk):(sortWorldK encT 2 W blk 0 n d os).heap[k]?=W.heap[k]?:=by
 unfold sortWorldK putRowK putRow mapBlock grow
 simp only [Sort.ahead]
 rw [Array.getElem?_append_left (by rw [Array.size_modify];exact hk),Array.getElem?_modify,if_neg (Ne.symm hb)]
theorem below_sorted (W:World) (blk n:Nat) (d:Array Qm) (os:Array Obj) (C:Nat) (hC:C≤blk) (hs:C≤W.heap.size):Go.RowKit.Below C W (sortWorldK encT 2 W blk 0 n d os):=by
 refine ⟨rfl,rfl,rfl,?_,fun k hk=>only_sorted W blk n d os k (by omega) (by omega)⟩
 unfold sortWorldK putRowK putRow mapBlock grow
 simp [Sort.ahead]
set_option maxRecDepth 100000 in
set_option maxHeartbeats 1600000 in
theorem sort_any (B blk cap:Nat) (q:List Qm) (W:World) (hrow:W.ownsRow B 68 2 (.slice (some ⟨blk,0,none⟩) q.length cap) q.length (flatT q)) (hn:q.length≤100000) :
 Calls Tryz.prog 113 #[.slice (some ⟨blk,0,none⟩) q.length cap,.func (.func 114) #[] #[]] W fun e W'=>e = .returned (.tuple #[]) ∧
  ∃ d':Array Qm,PermIn 0 q.toArray.size q.toArray d'∧SortedIn (ltOf fun x y:Qm=>Lib.compareInt x.1 y.1) 0 q.toArray.size d'∧TsAt W' (.slice (some ⟨blk,0,none⟩) q.length cap) (tms d'.toList) ∧
   (∀ C,C≤blk→C≤W.heap.size→Go.RowKit.Below C W W')∧∀ k,k<W.heap.size→k≠blk→W'.heap[k]?=W.heap[k]?:=by
 obtain ⟨hH,hb⟩:=holds_row hrow
 have hcon:=Go.Proofs.AnyQ.slices_SortFunc Tryz.srtT 2 Tryz.isAgg68 Tryz.sizeOf68 encT (fun _=>rfl) (fun x v hv=>by simp [encT] at hv;rcases hv with rfl | rfl <;> rfl) (fun x y:Qm=>Lib.compareInt x.1 y.1) swoCol 114 #[] blk 0 cap q.toArray W
  (enters_of Tryz.func114 (by kernel_rfl) rfl) (fun _ _ _ _ x y=>collect1_any x y _) hH hb (by simp;omega)
 rw [show q.toArray.size=q.length from by simp] at hcon
 refine hcon.mono ?_
 rintro e W' ⟨rfl,d',n,os,hp,hs,rfl⟩
 have hsz:d'.size=q.length:=by simpa using hp.1
 have hH':=holdsK_sortWorldK encT 2 W blk 0 n q.toArray d' os hb hH (by simpa using hp.1)
 refine ⟨rfl,d',by simpa using hp,by simpa using hs,?_,fun C h1 h2=>below_sorted W blk n d' os C h1 h2,fun k hk hne=>only_sorted W blk n d' os k hk hne⟩
 have h:=terms_of_holds (cap:=cap) hH' (by
  have:=(below_sorted W blk n d' os 0 (Nat.zero_le _) (Nat.zero_le _)).size
  omega)
 rw [hsz] at h
 exact h
end Go.Proofs.YtkhdocdddicgpaaGreatDoor
set_option linter.unusedVariables false
set_option linter.unusedSimpArgs false
namespace Go.Proofs.YtkhdocdddicgpaaGreatDoor
open Go.RowKit Go.Maps _root_.Go.Proofs.YtkhdocdddicgpaaGreatDoor.Nm
def FormRes (o:Option (Int→Rat)) (c:ByteArray) (w:World) (e:Ending) (w':World):Prop :=
 Below w.heap.size w w'∧match o with
 | none=>e = .returned (.tuple #[.agg #[.slice none 0 0,.string ⟨#[]⟩],.int .i64 5])
 | some f=>∃ ad n cap,e = .returned (.tuple #[.agg #[.slice ad n cap,.string c],.int .i64 0])∧TsAt w' (.slice ad n cap) (tms (formOf f))∧∃ a,ad=some a∧w.heap.size≤a.block
theorem fresh_all {ad:Option Addr} {B:Nat} (h:∃ a,ad=some a∧B≤a.block):∀ a,ad=some a→B≤a.block:=by
 obtain ⟨b,h1,h2⟩:=h
 intro a ha
 rw [h1] at ha;cases ha;exact h2
theorem TsAt.set {W:World} {ad:Option Addr} {n cap B g i:Nat} {l:List Tm} {u:Value} (h:TsAt W (.slice ad n cap) l) (hf:∀ a,ad=some a→B≤a.block) (hg:g<B):TsAt (W.setCell ⟨g,i,none⟩ u) (.slice ad n cap) l:=by
 obtain ⟨ad',n',cap',e1,e2,h⟩:=h
 cases e1
 refine ⟨_,_,_,rfl,e2,?_⟩
 rcases h with h | ⟨b,o,e3,h1,h2⟩
 · exact .inl h
 · have hb:=hf _ e3
   dsimp only at hb
   refine .inr ⟨b,o,e3,by simpa [World.setCell] using h1,fun k hk=>⟨?_,?_⟩⟩
   · rw [World.cell?_of_block (w:=W) (Below.heap_setCell W ⟨g,i,none⟩ u b (by dsimp only;omega))];exact (h2 k hk).1
   · rw [World.cell?_of_block (w:=W) (Below.heap_setCell W ⟨g,i,none⟩ u b (by dsimp only;omega))];exact (h2 k hk).2
theorem grown_of {w w':World} (h:Below w.heap.size w w') (row:Option Nat):w.grownBy w' row:=⟨h.os,h.tape,h.output,h.size,fun k hk _=>h.block k hk⟩
theorem two_new (w:World) (x y:Value) (T:TypeId):∀ j u,[x,y][j]?=some u→(w.alloc (.cells #[x,y] T)).cell? ((⟨w.heap.size,0,none⟩:Addr).add j)=some u:=by
 intro j u hj
 have h:=(Bx.new w x y T).cell
 match j,hj with
 | 0,hj=>simp at hj;subst hj;exact h.1
 | 1,hj=>simp at hj;subst hj;exact h.2.1
 | j+2,hj=>simp at hj
theorem TsAt.only {W W':World} {blk off n cap g:Nat} {l:List Tm} (h:TsAt W (.slice (some ⟨blk,off,none⟩) n cap) l) (ho:Only g W W') (hne:blk≠g) (hs:W.heap.size≤W'.heap.size):TsAt W' (.slice (some ⟨blk,off,none⟩) n cap) l:=by
 obtain ⟨ad,n',cap',e1,e2,h⟩:=h
 cases e1
 refine ⟨_,_,_,rfl,e2,?_⟩
 rcases h with h | ⟨b,o,e3,h1,h2⟩
 · exact .inl h
 · cases e3
   exact .inr ⟨blk,off,rfl,Nat.lt_of_lt_of_le h1 hs,fun i hi=>⟨(ho.cell _ _ hne).trans (h2 i hi).1,(ho.cell _ _ hne).trans (h2 i hi).2⟩⟩
theorem acc_step {z f:Int→Rat} {q:List Qm} {k:Nat} {p:Qm} {col:Int} {s:Rat} (ha:acc z (q.take k)=some f) (ht:q.take (k+1)=q.take k++[p]) (hc:p.1=col) (hs:f col+p.2=s) (hr:rshort s=true):acc z (q.take (k+1))=some (upd f col s):=by
 rw [ht,acc_snoc ha,hc,hs,if_pos hr]
theorem acc_stop {z f:Int→Rat} {q:List Qm} {k:Nat} {p:Qm} {col:Int} {s:Rat} (ha:acc z (q.take k)=some f) (ht:q.take (k+1)=q.take k++[p]) (hc:p.1=col) (hs:f col+p.2=s) (hr:rshort s=false):acc z q=none:=by
 have h:acc z (q.take (k+1))=none:=by rw [ht,acc_snoc ha,hc,hs,if_neg (by rw [hr];simp)]
 rw [← List.take_append_drop (k+1) q]
 exact acc_none h _
theorem txt_test {q:Rat} (h:rshort q=true):((txt q).toList==[48])=decide (q=0):=by rw [Lib.toList_data];exact txt_is_zero h
set_option maxRecDepth 100000 in
set_option maxHeartbeats 6400000 in
theorem collect_any (c:ByteArray) (ad:Option Addr) (n cap:Nat) (q:List Qm) (w:World) (hv:TsAt w (.slice ad n cap) (tms q)) (hq:∀ p∈q,ColIn p.1∧rshort p.2=true) (hn:q.length≤1000) (htab:Tab w) :
 Calls Tryz.prog 72 #[.string c,.slice ad n cap] w (FormRes (acc (fun _=>0) q) c w):=by
 obtain ⟨ad',n',cap',e1,e2,hv⟩:=hv
 cases e1
 have hlen:n=q.length:=by simpa [tms] using e2
 clear e2
 have HV:=Lib.hid hv
 have HQ:=Lib.hid hq
 have HT:=Lib.hid htab
 have HLEN:=Lib.hid (And.intro trivial hlen)
 have HN:=Lib.hid (And.intro trivial hn)
 obtain ⟨i0,hi,hz0,hz1,hz2⟩:=info_parts infoTm
 have HI:=Lib.hid hi
 have HZ0:=Lib.hid hz0
 have HZ1:=Lib.hid hz1
 have HZ2:=Lib.hid hz2
 have HB0:Hid (Bx ((w.alloc (.cells #[.slice none 0 0,.string ⟨#[]⟩] 24)).alloc (.map #[] 0)) w.heap.size (.slice none 0 0) (.string ⟨#[]⟩)):=Lib.hid ((Bx.new w _ _ _).alloc _)
 have hm0:=World.ownsMap_made (w.alloc (.cells #[.slice none 0 0,.string ⟨#[]⟩] 24)) Tryz.prog 3 (plainElem (H:=Unit) Tryz.prog 9)
 rw [World.size_alloc] at hm0
 have HM0:=Lib.hid hm0
 have HW0:Hid (Below w.heap.size w ((w.alloc (.cells #[.slice none 0 0,.string ⟨#[]⟩] 24)).alloc (.map #[] 0))):=Lib.hid (((Below.refl _ _).alloc (Nat.le_refl _) _).alloc (by simp) _)
 clear hv hq htab hlen hn hi hz0 hz1 hz2 hm0
 have hmm:=@run_makeMap Tryz.prog
 go_enter Tryz.func72,Tryz.ntmps72
 go_wp2
 go_loopw [19] (fun i wr=>∃ (k:Nat) (f:Int→Rat) (D:DataW Unit),k≤n∧i = .int .i64 k∧Hid (acc (fun _=>0) (q.take k)=some f)∧Hid (MapIs D f)∧Hid (wr.ownsMap Tryz.prog 3 (plainElem Tryz.prog 9) (w.heap.size+1) k D)∧Hid (Bx wr w.heap.size (.slice none 0 0) (.string ⟨#[]⟩))∧Hid (Below w.heap.size w wr)) (fun i _=>n-(intOf i).toNat)
 case atStart=>exact ⟨0,_,_,Nat.zero_le _,rfl,Lib.hid rfl,Lib.hid MapIs.start,HM0,HB0,HW0⟩
 case round =>
  obtain ⟨k,f,D,hk,rfl,HACC,HMI,HM,HB,HW⟩:=hrel
  by_cases hlt:k<n
  · have hkq:k<q.length:=by rw [← HLEN.out.2];exact hlt
    obtain ⟨p,hp⟩:∃ p,q[k]=p:=⟨_,rfl⟩
    obtain ⟨hcol,hsh⟩:ColIn p.1∧rshort p.2=true:=by rw [← hp];exact HQ.out _ (List.getElem_mem hkq)
    have htk:q.take (k+1)=q.take k++[p]:=by rw [← hp];exact (List.take_append_getElem hkq).symm
    obtain ⟨g,off,rfl,hg,hc⟩:∃ g off,ad=some ⟨g,off,none⟩∧g<w.heap.size∧∀ (i:Nat) (h:i<(tms q).length),w.cell? ⟨g,off+i*2,none⟩=some (.int .i64 (tms q)[i].1)∧w.cell? ⟨g,off+i*2+1,none⟩=some (.string (tms q)[i].2):=by
     rcases HV.out with h | h
     · omega
     · exact h
    have hkt:k<(tms q).length:=by simpa [tms] using hkq
    have ek:(tms q)[k]=(p.1,txt p.2):=by simp [tms,hp]
    obtain ⟨hc0,hc1⟩:=hc k hkt
    rw [ek] at hc0 hc1
    have hcell0:=(HW.out.cell (p:=⟨g,off+k*2,none⟩) hg).trans hc0
    have hcell1:=(HW.out.cell (p:=⟨g,off+k*2+1,none⟩) hg).trans hc1
    obtain ⟨col,hcl⟩:∃ col,p.1=col:=⟨_,rfl⟩
    obtain ⟨x,hx⟩:∃ x,txt p.2=x:=⟨_,rfl⟩
    dsimp only at hcell0 hcell1
    rw [hcl] at hcell0 hcol
    rw [hx] at hcell1
    have HX:=Lib.hid hx
    have HCL:=Lib.hid hcl
    have HCOL:=Lib.hid hcol
    have HSH:=Lib.hid hsh
    have HTK:=Lib.hid htk
    have HG:=Lib.hid hg
    have HKQ:=Lib.hid hkq
    clear hx hp hcl hcol hsh htk hg hkq hc0 hc1 hkt ek hc
    have h1:(0:Int)≤k:=by omega
    have h2:(k:Int)<n:=by omega
    have hn1:n≤1000:=by rw [HLEN.out.2];exact HN.out.2
    have HLT:Hid (w.heap.size+1<wr.heap.size):=Lib.hid HM.out.lt
    have hwf:=col_wf HCOL.out
    have HWF:=Lib.hid hwf
    clear hwf
    by_cases hf:f col=0
    · have hhas:has D (.int .i64 col)=false:=by rw [(HMI.out.2 col).2.1];simp [hf]
      have HAS:=Lib.hid hhas
      have HS:Hid (f col+p.2=p.2):=Lib.hid (by rw [hf,Rat.zero_add])
      clear hhas hf
      by_cases hz:p.2=0
      · have hzt:(x.toList==[48])=true:=by rw [← HX.out,txt_test HSH.out];simp [hz]
        have HZ:=Lib.hid hz
        clear hz
        go_wp2_with (first | (at_lookup;refine lookup_ok_str _ rfl _ _ 154 rfl 3 9 lawInt Tryz.underlying154 Tryz.underlying9 (zeroStr _) (w.heap.size+1) k D rfl (HM.out.alloc _) _ _ rfl (keyOf_int_mk Tryz.underlying3 HWF.out) false HAS.out ?_;intro s _) | (at_delete;refine wpList_delete_own _ rfl _ _ 154 3 rfl 9 lawInt Tryz.underlying154 _ (w.heap.size+1) k D rfl (HM.out.alloc _) _ _ rfl (keyOf_int_mk Tryz.underlying3 HWF.out) ?_;intro w2 hown2 hturn2;refine hold ?_))
        have HM2:=Lib.hid (hown2.mono (Nat.le_succ _))
        have HB2:=Lib.hid (Bx.grown (HB.out.alloc _) hturn2.grown (by intro e;have:=Option.some.inj e;omega))
        have HW2:=Lib.hid ((HW.out.alloc HW.out.size _).grown hturn2.grown (Nat.le_trans HW.out.size (by simp)) (fun j hj=>by have:=Option.some.inj hj;omega))
        have HA2:=Lib.hid (acc_step HACC.out HTK.out HCL.out HS.out HSH.out)
        have HI2:=Lib.hid (by have h:=HMI.out.del (c:=col);rw [← HZ.out] at h;exact h)
        clear hown2 hturn2
        refine go_on ?_
        go_wp2
        go_roundw
        case rel=>exact ⟨k+1,_,_,by omega,by go_num,HA2,HI2,HM2,HB2,HW2⟩
        case measure=>simp [intOf];omega
      · have hzt:(x.toList==[48])=false:=by rw [← HX.out,txt_test HSH.out];simp [hz]
        have HZ:=Lib.hid hz
        have HSZ:Hid (x.size≤maxLen):=Lib.hid (by rw [← HX.out];have:=txt_size HSH.out;unfold maxLen;omega)
        clear hz
        go_wp2_with (first | (at_lookup;refine lookup_ok_str _ rfl _ _ 154 rfl 3 9 lawInt Tryz.underlying154 Tryz.underlying9 (zeroStr _) (w.heap.size+1) k D rfl (HM.out.alloc _) _ _ rfl (keyOf_int_mk Tryz.underlying3 HWF.out) false HAS.out ?_;intro s _) | (at_mapUpdate;refine wpList_mapUpdate_own _ rfl _ _ _ 154 rfl 3 9 lawInt Tryz.underlying154 _ (w.heap.size+1) k D rfl (HM.out.alloc _) (by unfold maxLen;omega) _ _ _ rfl rfl (keyOf_int_mk Tryz.underlying3 HWF.out) _ [] (plainElem_string Tryz.underlying9 HSZ.out) ?_;intro w2 hown2 hgrow2;refine hold ?_))
        have HM2:=Lib.hid hown2
        have HB2:=Lib.hid (Bx.grown (HB.out.alloc _) hgrow2 (by intro e;have:=Option.some.inj e;omega))
        have HW2:=Lib.hid ((HW.out.alloc HW.out.size _).grown hgrow2 (Nat.le_trans HW.out.size (by simp)) (fun j hj=>by have:=Option.some.inj hj;omega))
        have HA2:=Lib.hid (acc_step HACC.out HTK.out HCL.out HS.out HSH.out)
        have HI2:=Lib.hid (by have h:=HMI.out.put HCOL.out HZ.out HSH.out;rw [show rt p.2=x.data.toList from by rw [← HX.out];rfl] at h;exact h)
        clear hown2 hgrow2
        refine go_on ?_
        go_wp2
        go_roundw
        case rel=>exact ⟨k+1,_,_,by omega,by go_num,HA2,HI2,HM2,HB2,HW2⟩
        case measure=>simp [intOf];omega
    · have hhas:has D (.int .i64 col)=true:=by rw [(HMI.out.2 col).2.1];simp [hf]
      have HAS:=Lib.hid hhas
      have HSF:Hid (rshort (f col)=true∧∀ z,D.atKey (.int .i64 col) z = .lit (.string (rt (f col)))):=Lib.hid ⟨((HMI.out.2 col).1 hf).2,(HMI.out.2 col).2.2 hf⟩
      clear hhas hf
      obtain ⟨y,hy⟩:∃ y,f col+p.2=y:=⟨_,rfl⟩
      have HY:=Lib.hid hy
      clear hy
      by_cases hsh:rshort y=true
      · have HSH2:=Lib.hid hsh
        obtain ⟨x2,hx2⟩:∃ x2,txt y=x2:=⟨_,rfl⟩
        have HX2:=Lib.hid hx2
        clear hsh hx2
        go_wp2_with (first | (at_lookup;refine lookup_ok_str _ rfl _ _ 154 rfl 3 9 lawInt Tryz.underlying154 Tryz.underlying9 (zeroStr _) (w.heap.size+1) k D rfl (HM.out.alloc _) _ _ rfl (keyOf_int_mk Tryz.underlying3 HWF.out) true HAS.out ?_;intro s hat;refine hold ?_))
        have hs:s=txt (f col):=by
         rw [HSF.out.2] at hat
         have h:s.data.toList=rt (f col):=by simpa using hat.symm
         unfold txt;rw [← h]
        have HR:Hid (OpRes fAdd gAdd s x x2 0):=Lib.hid (by rw [hs, ← HX.out, ← HX2.out, ← HY.out];exact (addRes HSF.out.1 HSH.out).1 (by rw [HY.out];exact HSH2.out))
        have HS1:Hid (s.size≤100000):=Lib.hid (by rw [hs];have:=txt_size HSF.out.1;omega)
        have HS2:Hid (x.size≤100000):=Lib.hid (by rw [← HX.out];have:=txt_size HSH.out;omega)
        have HWA:=Lib.hid (HW.out.alloc HW.out.size (.cells #[.int .i64 col,.string x] 68))
        have HMA:=Lib.hid (HM.out.alloc (.cells #[.int .i64 col,.string x] 68))
        have HBA:=Lib.hid (HB.out.alloc (.cells #[.int .i64 col,.string x] 68))
        have HC0:Hid ((wr.alloc (.cells #[.int .i64 col,.string x] 68)).cell? ⟨wr.heap.size,0,none⟩=some (.int .i64 col)):=Lib.hid (Bx.new wr (.int .i64 col) (.string x) 68).cell.1
        clear hat hs
        refine go_on ?_
        go_wp2_with fail
        refine (qAdd_any s x x2 0 _ HR HS1.out HS2.out (tab_keep HT.out HWA.out)).mono ?_
        rintro e w1 ⟨rfl,hb⟩
        have hcB:=(hb.cell (p:=⟨wr.heap.size,0,none⟩) (by simp)).trans HC0.out
        have HMB:=Lib.hid (HMA.out.kept (grown_of hb none) (by simp))
        have HBB:=Lib.hid (HBA.out.below hb HBA.out.lt)
        have HWB:=Lib.hid (HWA.out.trans (hb.mono HWA.out.size))
        clear hb HC0
        by_cases hz:y=0
        · have hzt:(x2.toList==[48])=true:=by rw [← HX2.out,txt_test HSH2.out];simp [hz]
          have HZ:=Lib.hid hz
          clear hz
          go_wp2_with (first | (at_delete;refine wpList_delete_own _ rfl _ _ 154 3 rfl 9 lawInt Tryz.underlying154 _ (w.heap.size+1) k D rfl HMB.out _ _ rfl (keyOf_int_mk Tryz.underlying3 HWF.out) ?_;intro w2 hown2 hturn2;refine hold ?_))
          have HM2:=Lib.hid (hown2.mono (Nat.le_succ _))
          have HB2:=Lib.hid (Bx.grown HBB.out hturn2.grown (by intro e;have:=Option.some.inj e;omega))
          have HW2:=Lib.hid ((HWB.out).grown hturn2.grown HWB.out.size (fun j hj=>by have:=Option.some.inj hj;omega))
          have HA2:=Lib.hid (acc_step HACC.out HTK.out HCL.out HY.out HSH2.out)
          have HI2:=Lib.hid (by have h:=HMI.out.del (c:=col);rw [← HZ.out] at h;exact h)
          clear hown2 hturn2
          refine go_on ?_
          go_wp2
          go_roundw
          case rel=>exact ⟨k+1,_,_,by omega,by go_num,HA2,HI2,HM2,HB2,HW2⟩
          case measure=>simp [intOf];omega
        · have hzt:(x2.toList==[48])=false:=by rw [← HX2.out,txt_test HSH2.out];simp [hz]
          have HZ:=Lib.hid hz
          have HSZ:Hid (x2.size≤maxLen):=Lib.hid (by rw [← HX2.out];have:=txt_size HSH2.out;unfold maxLen;omega)
          clear hz
          go_wp2_with (first | (at_mapUpdate;refine wpList_mapUpdate_own _ rfl _ _ _ 154 rfl 3 9 lawInt Tryz.underlying154 _ (w.heap.size+1) k D rfl HMB.out (by unfold maxLen;omega) _ _ _ rfl rfl (keyOf_int_mk Tryz.underlying3 HWF.out) _ [] (plainElem_string Tryz.underlying9 HSZ.out) ?_;intro w2 hown2 hgrow2;refine hold ?_))
          have HM2:=Lib.hid hown2
          have HB2:=Lib.hid (Bx.grown HBB.out hgrow2 (by intro e;have:=Option.some.inj e;omega))
          have HW2:=Lib.hid ((HWB.out).grown hgrow2 HWB.out.size (fun j hj=>by have:=Option.some.inj hj;omega))
          have HA2:=Lib.hid (acc_step HACC.out HTK.out HCL.out HY.out HSH2.out)
          have HI2:=Lib.hid (by have h:=HMI.out.put HCOL.out HZ.out HSH2.out;rw [show rt y=x2.data.toList from by rw [← HX2.out];rfl] at h;exact h)
          clear hown2 hgrow2
          refine go_on ?_
          go_wp2
          go_roundw
          case rel=>exact ⟨k+1,_,_,by omega,by go_num,HA2,HI2,HM2,HB2,HW2⟩
          case measure=>simp [intOf];omega
      · have hsh:rshort y=false:=by simpa using hsh
        have HSH2:=Lib.hid hsh
        clear hsh
        go_wp2_with (first | (at_lookup;refine lookup_ok_str _ rfl _ _ 154 rfl 3 9 lawInt Tryz.underlying154 Tryz.underlying9 (zeroStr _) (w.heap.size+1) k D rfl (HM.out.alloc _) _ _ rfl (keyOf_int_mk Tryz.underlying3 HWF.out) true HAS.out ?_;intro s hat;refine hold ?_))
        have hs:s=txt (f col):=by
         rw [HSF.out.2] at hat
         have h:s.data.toList=rt (f col):=by simpa using hat.symm
         unfold txt;rw [← h]
        have HR:Hid (OpRes fAdd gAdd s x ⟨#[]⟩ 5):=Lib.hid (by rw [hs, ← HX.out];exact (addRes HSF.out.1 HSH.out).2 (by rw [HY.out];exact HSH2.out))
        have HS1:Hid (s.size≤100000):=Lib.hid (by rw [hs];have:=txt_size HSF.out.1;omega)
        have HS2:Hid (x.size≤100000):=Lib.hid (by rw [← HX.out];have:=txt_size HSH.out;omega)
        have HWA:=Lib.hid (HW.out.alloc HW.out.size (.cells #[.int .i64 col,.string x] 68))
        have HBA:=Lib.hid (HB.out.alloc (.cells #[.int .i64 col,.string x] 68))
        clear hat hs
        refine go_on ?_
        go_wp2_with fail
        refine (qAdd_any s x ⟨#[]⟩ 5 _ HR HS1.out HS2.out (tab_keep HT.out HWA.out)).mono ?_
        rintro e w1 ⟨rfl,hb⟩
        have HBB:=Lib.hid (HBA.out.below hb HBA.out.lt)
        have HWB:=Lib.hid (HWA.out.trans (hb.mono HWA.out.size))
        clear hb
        obtain ⟨b0,b1,b2,b3⟩:=HBB.out.cell
        go_wp2
        refine bodyPost_ret (v := .tuple #[.agg #[.slice none 0 0,.string ⟨#[]⟩],.int .i64 5]) (by simp only [results,Tryz.results72];simp [go_sem,b0,b1,b2,b3]) rfl ?_
        rw [acc_stop HACC.out HTK.out HCL.out HY.out HSH2.out]
        exact ⟨(HWB.out.setCell (Nat.le_refl _) _).setCell (Nat.le_refl _) _,rfl⟩
  · obtain rfl:k=n:=by omega
    have hall:acc (fun _=>0) q=some f:=by rw [← HACC.out,List.take_of_length_le (by rw [HLEN.out.2];exact Nat.le_refl _)]
    have HALL:=Lib.hid hall
    have hn1:k≤1000:=by rw [HLEN.out.2];exact HN.out.2
    obtain ⟨M,hM⟩:∃ M,Maps.size D=M:=⟨_,rfl⟩
    have HMS:Hid ((Maps.size D:Int)=(M:Int)):=Lib.hid (by rw [hM])
    have hM1:M≤k:=by rw [← hM];exact HM.out.size_le
    have HM1:=Lib.hid (And.intro trivial hM1)
    obtain ⟨wo,hwo⟩:∃ wo:World,wo=wr:=⟨_,rfl⟩
    rw [← hwo] at HM HB HW ⊢
    clear hall hM hwo hlt hM1 HACC
    go_wp2_with (first | (at_len;refine wpList_len_own _ rfl _ 154 rfl 3 9 Tryz.underlying154 _ (w.heap.size+1) k D rfl HM.out ?_;rw [HMS.out]) | (refine wpList_make_own _ rfl _ _ 22 rfl wo.heap.size 68 i0 (.agg #[.int .i64 0,.string ⟨#[]⟩]) 2 Tryz.underlying22 HI.out HZ0.out HZ1.out .i64 .i64 _ M rfl rfl rfl (by rw [HZ2.out];have:=HM1.out.2;omega) (by have:=HM1.out.2;unfold maxLen;omega) (Nat.le_refl _) ?_;intro w3 hown hgrow;refine hold ?_))
    have HB3:=Lib.hid (Bx.grown HB.out hgrow (by simp))
    have HM3:=Lib.hid (HM.out.kept hgrow (by simp))
    have HW3:=Lib.hid (HW.out.grown hgrow HW.out.size (by simp))
    have HR3:=Lib.hid hown
    have HSZ3:Hid (wo.heap.size<w3.heap.size∧w.heap.size+1<wo.heap.size):=Lib.hid ⟨by
     rcases hown.2 with ⟨h,_⟩ | ⟨g,cap',cur,h1,_,h2,_⟩
     · cases h
     · cases h1;exact (Array.getElem?_eq_some_iff.1 h2).1,HM.out.lt⟩
    clear hown hgrow
    refine go_on ?_
    go_wp2_with (first | (at_range;refine wpList_range_own _ rfl _ 154 rfl 3 9 lawInt Tryz.underlying154 _ (w.heap.size+1) k D rfl HM3.out ?_;intro w4 hrg4 hg4 hs4;refine hold ?_))
    have HB4:=Lib.hid (Bx.grown HB3.out hg4 (by simp))
    have HW4:=Lib.hid (HW3.out.grown hg4 HW3.out.size (by simp))
    have HR4:=Lib.hid (HR3.out.kept hg4 (.inr (by intro e;cases e)))
    have HRG4:=Lib.hid hrg4
    clear hrg4 hg4 hs4
    refine go_on ?_
    go_wp2
    go_loopw [13] (fun sv wr=>∃ (qs:List Qm) (left:Lit→Bool) (cnt:Nat),sv = .slice (some ⟨wo.heap.size,0,none⟩) qs.length M∧Hid (wr.ranges Tryz.prog 3 (plainElem Tryz.prog 9) (w.heap.size+1) w3.heap.size k D left cnt)∧Hid (Coll f left qs∧qs.length+cnt≤M)∧Hid (wr.ownsRow wo.heap.size 68 2 (.slice (some ⟨wo.heap.size,0,none⟩) qs.length M) qs.length (flatT qs))∧Hid (Bx wr w.heap.size (.slice none 0 0) (.string ⟨#[]⟩))∧Hid (Below w.heap.size w wr)) (fun _ wr=>wr.rangeLeft (w.heap.size+1) w3.heap.size)
    case atStart=>exact ⟨[],_,_,rfl,HRG4,Lib.hid ⟨Coll.start HMI.out,by have:=HMS.out;simp;omega⟩,HR4,HB4,HW4⟩
    case round =>
     obtain ⟨qs,left,cnt,rfl,HRG,HCO,HRW,HB,HW⟩:=hrel
     have hn1:M≤1000:=by have:=HM1.out.2;omega
     have hne:¬ w3.heap.size=wo.heap.size:=by have:=HSZ3.out.1;omega
     go_wp2_with (first | (at_next;refine wpList_next_ranges_is _ rfl _ rfl 3 9 .i64 lawInt Tryz.underlying3 Tryz.underlying9 (w.heap.size+1) w3.heap.size k _ _ _ rfl HRG.out ?_ ?_) | (fail))
     · intro _ hl0
       have hfin:∀ d':Array Qm,Go.Sort.PermIn 0 qs.toArray.size qs.toArray d'→Go.Sort.SortedIn (ltOf fun x y:Qm=>Lib.compareInt x.1 y.1) 0 qs.toArray.size d'→d'.toList=formOf f:=fun d' hp hs=>HCO.out.1.sorted hl0 (fun c hc=>((HMI.out.2 c).1 hc).1) ltCol hp hs
       have HFIN:=Lib.hid hfin
       have hq1:qs.length≤100000:=by have:=HCO.out.2;omega
       clear hl0 hfin
       go_wp2_with fail
       refine (sort_any wo.heap.size wo.heap.size M qs _ HRW.out hq1).mono ?_
       rintro e w6 ⟨rfl,d',hp,hs,hts,hbel,hoth⟩
       have HTS:=Lib.hid hts
       have HD:=Lib.hid (HFIN.out d' hp hs)
       have HB6:Hid (Bx w6 w.heap.size (.slice none 0 0) (.string ⟨#[]⟩)):=Lib.hid (by
        obtain ⟨T,hT⟩:=HB.out
        exact ⟨T,(hoth _ (Array.getElem?_eq_some_iff.1 hT).1 (by have:=HSZ3.out;omega)).trans hT⟩)
       have HW6:=Lib.hid (HW.out.trans (hbel w.heap.size (by have:=HSZ3.out;omega) HW.out.size))
       clear hp hs hts hbel hoth
       obtain ⟨b0,b1,b2,b3⟩:=HB6.out.cell
       go_wp2
       have hb':=((Bx.put HB6.out (.slice (some ⟨wo.heap.size,0,none⟩) qs.length M) (.string c))).cell
       obtain ⟨e0,e1,e2,e3⟩:=hb'
       refine bodyPost_ret (v := .tuple #[.agg #[.slice (some ⟨wo.heap.size,0,none⟩) qs.length M,.string c],.int .i64 0]) (by simp only [results,Tryz.results72];simp [go_sem,e0,e1]) rfl ?_
       rw [HALL.out]
       refine ⟨(HW6.out.setCell (Nat.le_refl _) _).setCell (Nat.le_refl _) _,_,_,_,rfl,?_,⟨_,rfl,by dsimp only;have:=HSZ3.out;omega⟩⟩
       rw [← HD.out]
       exact HTS.out.only (((Only.refl w.heap.size w6).set 0 _).set 1 _) (by have:=HSZ3.out;omega) (by simp [World.setCell])
     · intro col x w5 cnt5 hwx hwc hlx hat hrg5 hlt5 hg5 hs5 hen
       obtain ⟨hx,hf,hcol,hsh,hco⟩:=HCO.out.1.step HMI.out hlx hat
       clear hs5 hwx hwc hat
       have HX:=Lib.hid hx
       have HRG5:=Lib.hid hrg5
       have HCO5:Hid (Coll f _ (qs++[(col,f col)])∧(qs++[(col,f col)]).length+cnt5≤M):=Lib.hid ⟨hco,by have:=HCO.out.2;simp;omega⟩
       have hlenq:qs.length+1≤M:=by have:=HCO.out.2;omega
       have HRW5:=Lib.hid (HRW.out.kept hg5 (.inr (by intro e;have:=Option.some.inj e;simp at this;omega)))
       have HB5:=Lib.hid (Bx.grown HB.out hg5 (by intro e;have:=Option.some.inj e;have:=HSZ3.out;omega))
       have HW5:=Lib.hid (HW.out.grown hg5 HW.out.size (by intro j hj;have:=Option.some.inj hj;have:=HSZ3.out;omega))
       have hcnt:wr.rangeLeft (w.heap.size+1) w3.heap.size=cnt:=HRG.out.left_eq
       have HCNT:=Lib.hid hcnt
       have HLT5:=Lib.hid hlt5
       clear hx hf hcol hsh hco hlx hrg5 hg5 hcnt hlt5
       go_wp2_with (first | (at_builtin;refine wpList_append_fits _ rfl _ _ 22 rfl wo.heap.size 68 i0 2 Tryz.underlying22 HI.out HZ1.out wo.heap.size qs.length M (flatT qs) rfl (HRW5.out.alloc _) ⟨w5.heap.size,0,none⟩ 1 1 [.int .i64 col,.string x] rfl rfl (two_new _ _ _ _) (by intro u hu;simp at hu;rcases hu with rfl | rfl <;> rfl) hlenq ?_;intro w6 hown6 hgrow6;refine hold ?_) | (fail))
       have HW6:=Lib.hid ((HW5.out.alloc HW5.out.size (.cells #[.int .i64 col,.string x] 68)).grown hgrow6 (Nat.le_trans HW5.out.size (by simp)) (by intro j hj;have:=Option.some.inj hj;have:=HSZ3.out;omega))
       have HB6:=Lib.hid (Bx.grown (HB5.out.alloc (.cells #[.int .i64 col,.string x] 68)) hgrow6 (by intro e;have:=Option.some.inj e;have:=HSZ3.out;omega))
       have HRG6:=Lib.hid ((HRG5.out.alloc (.cells #[.int .i64 col,.string x] 68)).kept hgrow6 (by intro e;have:=Option.some.inj e;have:=HSZ3.out;omega) (by intro e;have:=Option.some.inj e;have:=HSZ3.out;omega))
       have HRW6:Hid (w6.ownsRow wo.heap.size 68 2 (.slice (some ⟨wo.heap.size,0,none⟩) (qs++[(col,f col)]).length M) (qs++[(col,f col)]).length (flatT (qs++[(col,f col)]))):=Lib.hid (by rw [List.length_append,flatT_snoc];rw [HX.out] at hown6;exact hown6)
       clear hown6 hgrow6
       refine go_on ?_
       go_wp2
       go_roundw
       case rel=>exact ⟨qs++[(col,f col)],_,cnt5,by simp,HRG6,HCO5,HRW6,HB6,HW6⟩
       case measure=>rw [HRG6.out.left_eq,HCNT.out];exact HLT5.out
end Go.Proofs.YtkhdocdddicgpaaGreatDoor
set_option linter.unusedVariables false
set_option linter.unusedSimpArgs false
namespace Go.Proofs.YtkhdocdddicgpaaGreatDoor
open Go.RowKit Go.Maps _root_.Go.Proofs.YtkhdocdddicgpaaGreatDoor.Nm
theorem asc_iff:∀ (l:List Tm),asc l=true↔∀ (i:Nat) (h:i<l.length),(l[i].2.data.toList==[48])=false∧∀ (h0:0<i),l[i-1].1<l[i].1
 | []=>by simp [asc]
 | t::l=>by
  have ih:=asc_iff l
  unfold asc
  simp only [Bool.and_eq_true]
  rw [ih]
  constructor
  · rintro ⟨⟨h1,h2⟩,h3⟩ i hi
    match i,hi with
    | 0,hi=>exact ⟨by simpa using h1,fun h=>absurd h (Nat.lt_irrefl 0)⟩
    | 1,hi =>
     refine ⟨(h3 0 (by simpa using hi)).1,fun _ => ?_⟩
     match l,hi with
     | u::l,hi=>simpa using h2
    | i+2,hi =>
     have:=h3 (i+1) (by simp at hi;omega)
     exact ⟨this.1,fun _=>this.2 (by omega)⟩
  · intro h
    refine ⟨⟨?_,?_⟩,fun i hi => ?_⟩
    · have:=(h 0 (by simp)).1
      simpa using this
    · match l with
      | []=>rfl
      | u::l=>have:=(h 1 (by simp)).2 (by omega);simpa using this
    · have:=h (i+1) (by simpa using hi)
      refine ⟨by simpa using this.1,fun h0 => ?_⟩
      have h2:=this.2 (by omega)
      obtain ⟨j,rfl⟩:∃ j,i=j+1:=⟨i-1,by omega⟩
      simpa using h2
theorem asc_bad {l:List Tm} (i:Nat) (h:i<l.length) (hb:(l[i].2.data.toList==[48])=true∨∃ h0:0<i,¬ l[i-1].1<l[i].1):asc l=false:=by
 cases ha:asc l
 · rfl
 · have:=(asc_iff l).1 ha i h
   rcases hb with hb | ⟨h0,hb⟩
   · rw [this.1] at hb;cases hb
   · exact absurd (this.2 h0) hb
theorem asc_all {l:List Tm} (hs:∀ (i:Nat) (h:i<l.length),i<l.length→(l[i].2.data.toList==[48])=false∧∀ (h0:0<i),l[i-1].1<l[i].1):asc l=true:=(asc_iff l).2 fun i h=>hs i h h
def AscUp (l:List Tm) (k:Nat):Prop:=∀ (i:Nat) (h:i<l.length),i<k→(l[i].2.data.toList==[48])=false∧∀ (h0:0<i),l[i-1].1<l[i].1
theorem Bel.drewN {B:Nat} {a w:World} (h:Below B a w) (n:Nat):Below B a (w.drewN n):=⟨h.os,h.tape,h.output,h.size,h.block⟩
theorem TsAt.drewN {W:World} {v:Value} {l:List Tm} (h:TsAt W v l) (n:Nat):TsAt (W.drewN n) v l:=h
set_option maxRecDepth 100000 in
set_option maxHeartbeats 6400000 in
theorem Check_any (c:ByteArray) (ad:Option Addr) (n cap:Nat) (l:List Tm) (r:Int) (w:World) (hv:TsAt w (.slice ad n cap) l) (hc:c.size≤100000) (hl:∀ t∈l,t.2.size≤100000) (hn:l.length≤1000) (hr:Hid (checkErr c l=r)) :
 Calls Tryz.prog 36 #[.agg #[.slice ad n cap,.string c]] w fun e w'=>e = .returned (.int .i64 r)∧Below w.heap.size w w':=by
 obtain ⟨pe,hpe⟩:∃ pe,partsErr c l=pe:=⟨_,rfl⟩
 have hr2:=hr.out
 unfold checkErr at hr2
 rw [hpe] at hr2
 have HPE:=Lib.hid hpe
 have HR:=Lib.hid hr2
 have HV:=Lib.hid (hv.keep ((Below.refl w.heap.size w).alloc (Nat.le_refl _) (.cells #[.slice ad n cap,.string c] 24)) (Nat.le_refl _))
 have HB0:=Lib.hid (Bx.new w (.slice ad n cap) (.string c) 24)
 have HW0:=Lib.hid ((Below.refl w.heap.size w).alloc (Nat.le_refl _) (.cells #[.slice ad n cap,.string c] 24))
 have HL:=Lib.hid hl
 have HN:=Lib.hid (And.intro trivial hn)
 clear hpe hr2 hr hl hn hv
 go_enter Tryz.func36,Tryz.ntmps36
 go_wp2_with fail
 refine (checkParts_any c ad n cap l pe _ HV.out hc HL.out (by have:=HN.out.2;omega) HPE).mono ?_
 rintro e w1 ⟨rfl,hb⟩
 have HV1:=Lib.hid (HV.out.keep hb (Nat.le_refl _))
 have HB1:=Lib.hid (HB0.out.below hb HB0.out.lt)
 have HW1:=Lib.hid (HW0.out.trans (hb.mono HW0.out.size))
 clear hb HV HB0 HW0
 by_cases hp:pe=0
 · subst hp
   obtain ⟨b0,b1,b2,b3⟩:=HB1.out.cell
   go_wp2
   clear b0 b1 b2 b3
   go_loopw [17] (fun i wr=>∃ k:Nat,k≤n∧i = .int .i64 k∧Hid (AscUp l k)∧Hid (Bx wr w.heap.size (.slice ad n cap) (.string c))∧Hid (TsAt wr (.slice ad n cap) l)∧Hid (Below w.heap.size w wr)) (fun i _=>n-(intOf i).toNat)
   case atStart=>exact ⟨0,Nat.zero_le _,rfl,Lib.hid (fun i _ h=>absurd h (Nat.not_lt_zero i)),HB1,HV1,HW1⟩
   case round =>
    obtain ⟨k,hk,rfl,HAS,HB,HV,HW⟩:=hrel
    obtain ⟨ad',n',cap',e1,e2,hv⟩:=HV.out
    cases e1
    have HLEN:=Lib.hid (And.intro trivial e2)
    have hn1:n≤1000:=by rw [e2];exact HN.out.2
    clear e2
    by_cases hlt:k<n
    · have hkl:k<l.length:=by rw [← HLEN.out.2];exact hlt
      obtain ⟨g,off,rfl,hg,hc⟩:∃ g off,ad=some ⟨g,off,none⟩∧g<wr.heap.size∧∀ (i:Nat) (h:i<l.length),wr.cell? ⟨g,off+i*2,none⟩=some (.int .i64 l[i].1)∧wr.cell? ⟨g,off+i*2+1,none⟩=some (.string l[i].2):=by
       rcases hv with h | h
       · omega
       · exact h
      obtain ⟨hcell0,hcell1⟩:=hc k hkl
      obtain ⟨col,hcol⟩:∃ col,l[k].1=col:=⟨_,rfl⟩
      obtain ⟨x,hx⟩:∃ x,l[k].2=x:=⟨_,rfl⟩
      rw [hcol] at hcell0
      rw [hx] at hcell1
      have HCOL:=Lib.hid hcol
      have HX:=Lib.hid hx
      have HCC:=Lib.hid hc
      have HG:=Lib.hid hg
      have HWA:=Lib.hid (HW.out.alloc HW.out.size (.cells #[.int .i64 col,.string x] 68))
      have HBA:=Lib.hid (HB.out.alloc (.cells #[.int .i64 col,.string x] 68))
      have HVA:=Lib.hid (HV.out.keep ((Below.refl wr.heap.size wr).alloc (Nat.le_refl _) (.cells #[.int .i64 col,.string x] 68)) (Nat.le_refl _))
      have HNE:=Lib.hid (Bx.new wr (.int .i64 col) (.string x) 68)
      clear hv hc hcol hx hg
      have h1:(0:Int)≤k:=by omega
      have h2:(k:Int)<n:=by omega
      by_cases hz:(x.toList==[48])=true
      · have hbad:asc l=false:=asc_bad k hkl (.inl (by rw [HX.out, ← Lib.toList_data];exact hz))
        have hr3:r=3:=by have:=HR.out;rw [hbad] at this;simpa using this.symm
        subst hr3
        clear hbad
        go_wp2_with fail
        obtain ⟨b0,b1,b2,b3⟩:=HBA.out.cell
        obtain ⟨d0,d1,d2,d3⟩:=HNE.out.cell
        go_quiet (fail)
        go_wp2
        go_ret
        exact ⟨rfl,Bel.drewN HWA.out _⟩
      · have hzf:(x.toList==[48])=false:=by simpa using hz
        have hok1:(l[k].2.data.toList==[48])=false:=by rw [HX.out, ← Lib.toList_data];exact hzf
        clear hz
        by_cases hk0:k=0
        · have hg0:decide (0<k)=false:=by rw [hk0];rfl
          have HAS2:Hid (AscUp l (k+1)):=Lib.hid (fun i h hik=>by
           obtain rfl:i=k:=by omega
           exact ⟨hok1,fun h0=>by omega⟩)
          clear hok1 hk0
          go_wp2_with fail
          obtain ⟨b0,b1,b2,b3⟩:=HBA.out.cell
          obtain ⟨d0,d1,d2,d3⟩:=HNE.out.cell
          go_quiet (fail)
          go_wp2
          go_roundw
          case rel=>exact ⟨k+1,by omega,by go_num,HAS2,Lib.hid (HBA.out.drewN _),Lib.hid (HVA.out.drewN _),Lib.hid (Bel.drewN HWA.out _)⟩
          case measure=>simp [intOf];omega
        · have hg0:decide (0<k)=true:=by simp;omega
          obtain ⟨j,hj⟩:∃ j,k=j+1:=⟨k-1,by omega⟩
          have hjl:j<l.length:=by omega
          have hprev:=(HCC.out j hjl).1
          obtain ⟨pc,hpc⟩:∃ pc,l[j].1=pc:=⟨_,rfl⟩
          rw [hpc] at hprev
          have hprev2:=(((Below.refl wr.heap.size wr).alloc (Nat.le_refl _) (.cells #[.int .i64 col,.string x] 68)).cell (p:=⟨g,off+j*2,none⟩) HG.out).trans hprev
          have hwj:IntKind.i64.wrap ((k:Int)-1)=(j:Int):=by rw [show (k:Int)-1=(j:Int) from by omega];exact IntWalk.i64_in _ (by omega)
          have hj1:(0:Int)≤j:=by omega
          have hj2:(j:Int)<n:=by omega
          have HKJ:=Lib.hid hj
          by_cases hge:col≤pc
          · have hgeb:decide (col≤pc)=true:=by simpa using hge
            have hbad:asc l=false:=asc_bad k hkl (.inr ⟨by omega,by
             have e:l[k-1].1=pc:=by rw [← hpc];congr 2;omega
             rw [e,HCOL.out];omega⟩)
            have hr3:r=3:=by have:=HR.out;rw [hbad] at this;simpa using this.symm
            subst hr3
            clear hbad hge hok1 hprev hj hk0 hpc
            go_wp2_with fail
            obtain ⟨b0,b1,b2,b3⟩:=HBA.out.cell
            obtain ⟨d0,d1,d2,d3⟩:=HNE.out.cell
            go_quiet (fail)
            go_wp2
            go_ret
            exact ⟨rfl,Bel.drewN HWA.out _⟩
          · have hgeb:decide (col≤pc)=false:=by simpa using hge
            have HAS2:Hid (AscUp l (k+1)):=Lib.hid (fun i h hik=>by
             rcases Nat.lt_or_ge i k with h2 | h2
             · exact HAS.out i h h2
             · obtain rfl:i=k:=by omega
               refine ⟨hok1,fun h0 => ?_⟩
               have e:l[i-1].1=pc:=by rw [← hpc];congr 2;omega
               rw [e,HCOL.out];omega)
            clear hge hok1 hprev hj hk0 hpc
            go_wp2_with fail
            obtain ⟨b0,b1,b2,b3⟩:=HBA.out.cell
            obtain ⟨d0,d1,d2,d3⟩:=HNE.out.cell
            go_quiet (fail)
            go_wp2
            go_roundw
            case rel=>exact ⟨k+1,by omega,by go_num,HAS2,Lib.hid (HBA.out.drewN _),Lib.hid (HVA.out.drewN _),Lib.hid (Bel.drewN HWA.out _)⟩
            case measure=>simp [intOf];omega
    · obtain rfl:k=n:=by omega
      have hall:asc l=true:=asc_all (fun i h h2=>HAS.out i h (by rw [HLEN.out.2];exact h2))
      have hr0:r=0:=by have:=HR.out;rw [hall] at this;simpa using this.symm
      subst hr0
      clear hv hall
      go_wp2
      go_ret
      exact ⟨rfl,HW.out⟩
 · have hr1:r=pe:=by have:=HR.out;rw [if_pos hp] at this;exact this.symm
   subst hr1
   have hpb:(r != 0)=true:=by simpa using hp
   clear hp
   obtain ⟨b0,b1,b2,b3⟩:=HB1.out.cell
   go_wp2
   go_ret
   exact ⟨rfl,HW1.out⟩
theorem FormRes.boxed {o:Option (Int→Rat)} {c:ByteArray} {w w1 w2:World} {ad:Option Addr} {n cap:Nat} {s:ByteArray} {ec:Int} (hb:Below w.heap.size w w1) (hlt:w.heap.size<w1.heap.size) (h:FormRes o c w1 (.returned (.tuple #[.agg #[.slice ad n cap,.string s],.int .i64 ec])) w2) :
 FormRes o c w (.returned (.tuple #[.agg #[.slice ad n cap,.string s],.int .i64 ec])) ((w2.setCell ⟨w.heap.size,0,none⟩ (.slice ad n cap)).setCell ⟨w.heap.size,1,none⟩ (.string s)):=by
 obtain ⟨h1,h2⟩:=h
 refine ⟨((hb.trans (h1.mono (Nat.le_of_lt hlt))).setCell (Nat.le_refl _) _).setCell (Nat.le_refl _) _,?_⟩
 cases o with
 | none=>exact h2
 | some f =>
  obtain ⟨ad',n',cap',e1,h3,h4⟩:=h2
  cases e1
  exact ⟨_,_,_,rfl,(h3.set (fresh_all h4) hlt).set (fresh_all h4) hlt,by obtain ⟨a,ha,hl⟩:=h4;exact ⟨a,ha,Nat.le_trans (Nat.le_of_lt hlt) hl⟩⟩
theorem FormRes.form {o:Option (Int→Rat)} {c:ByteArray} {w w2:World} {e:Ending} (h:FormRes o c w e w2):∃ ad n cap s ec,e = .returned (.tuple #[.agg #[.slice ad n cap,.string s],.int .i64 ec]):=by
 obtain ⟨_,h2⟩:=h
 cases o with
 | none=>exact ⟨_,_,_,_,_,h2⟩
 | some f=>obtain ⟨ad,n,cap,e1,_⟩:=h2;exact ⟨_,_,_,_,_,e1⟩
set_option maxRecDepth 100000 in
set_option maxHeartbeats 1600000 in
theorem Of_any (qc:Rat) (ad:Option Addr) (n cap:Nat) (q:List Qm) (w:World) (hv:TsAt w (.slice ad n cap) (tms q)) (hc:rshort qc=true) (hq:∀ p∈q,ColIn p.1∧rshort p.2=true) (hn:q.length≤1000) (htab:Tab w) :
 Calls Tryz.prog 33 #[.string (txt qc),.slice ad n cap] w (FormRes (acc (fun _=>0) q) (txt qc) w):=by
 obtain ⟨x,hx⟩:∃ x,txt qc=x:=⟨_,rfl⟩
 obtain ⟨o,ho⟩:∃ o,acc (fun _=>0) q=o:=⟨_,rfl⟩
 have hpe:partsErr x (tms q)=0:=by rw [← hx];exact partsErr_tms hc hq
 have HPE:=Lib.hid hpe
 have HO:=Lib.hid ho
 have hx1:x.size≤100000:=by rw [← hx];have:=txt_size hc;omega
 have hl:∀ t∈tms q,t.2.size≤100000:=fun t ht=>by
  obtain ⟨p,hp,rfl⟩:=List.mem_map.1 ht
  have:=txt_size (hq p hp).2
  dsimp only;omega
 have HL:=Lib.hid hl
 have HN:Hid ((tms q).length≤100000):=Lib.hid (by simp [tms];omega)
 have HQ:=Lib.hid hq
 have HNQ:=Lib.hid hn
 have HT:=Lib.hid htab
 have hA:=(Below.refl w.heap.size w).alloc (Nat.le_refl _) (.cells #[.slice none 0 0,.string ⟨#[]⟩] 24)
 have HV:=Lib.hid (hv.keep hA (Nat.le_refl _))
 have HB:=Lib.hid (Bx.new w (.slice none 0 0) (.string ⟨#[]⟩) 24)
 have HW:=Lib.hid hA
 rw [hx,ho]
 clear hpe hl hn hq hc hv hA hx ho htab
 go_enter Tryz.func33,Tryz.ntmps33
 go_wp2_with fail
 refine (checkParts_any x ad n cap (tms q) 0 _ HV.out hx1 HL.out HN.out HPE).mono ?_
 rintro e w1 ⟨rfl,hb⟩
 have HV1:=Lib.hid (HV.out.keep hb (Nat.le_refl _))
 have HB1:=Lib.hid (HB.out.below hb HB.out.lt)
 have HW1:=Lib.hid (HW.out.trans (hb.mono HW.out.size))
 clear hb
 go_wp2_with fail
 refine (collect_any x ad n cap q _ HV1.out HQ.out HNQ.out (tab_keep HT.out HW1.out)).mono ?_
 intro e w2 h
 rw [HO.out] at h
 obtain ⟨ad2,n2,cap2,s2,e2,rfl⟩:=h.form
 have HR:=Lib.hid (FormRes.boxed HW1.out HB1.out.lt h)
 have HB2:=Lib.hid (HB1.out.below h.1 HB1.out.lt)
 clear h
 obtain ⟨b0,b1,b2,b3⟩:=HB2.out.cell
 go_wp2
 obtain ⟨d0,d1,d2,d3⟩:=((Bx.put HB2.out (.slice ad2 n2 cap2) (.string s2))).cell
 refine bodyPost_ret (v := .tuple #[.agg #[.slice ad2 n2 cap2,.string s2],.int .i64 e2]) (by simp only [results,Tryz.results33];simp [go_sem,d0,d1]) rfl ?_
 exact HR.out
end Go.Proofs.YtkhdocdddicgpaaGreatDoor
