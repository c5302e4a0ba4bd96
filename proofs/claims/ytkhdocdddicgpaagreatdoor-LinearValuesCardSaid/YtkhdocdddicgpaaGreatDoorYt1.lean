/- Part 1: what the law's walk leans on. -/
import Derived.Test.YtkhdocdddicgpaaGreatDoorYt0
import Derived.Test.YtkhdocdddicgpaaGreatDoorProg
import Derived.WalkSpells
import Derived.WalkLawsBesides
import Derived.IntWalk
import Derived.LoopTactic
import Derived.Lib.Hide
import Derived.Laws.CopyOwn
import Derived.StillTailTactics
set_option linter.unusedVariables false
set_option linter.unusedSimpArgs false
namespace Go.Proofs.YtkhdocdddicgpaaGreatDoor
open Go.RowKit
def Stop (p:Prop):Prop:=p
theorem hold {p:Prop} (h:Stop p):p:=h
theorem go_on {p:Prop} (h:p):Stop p:=h
def NatPost (n:Nat) (w:World) (e:Ending) (w':World):Prop:=∃ v,e = .returned v∧Rd .u32 w' v (Nm.ds 1000000000 n)∧Fr w.heap.size v∧Below w.heap.size w w'
theorem trim_nil (a:Option Addr) (c:Nat) (w:World) :
 Calls Tryz.prog 160 #[.slice a 0 c] w fun e w'=>e = .returned (.slice a 0 c)∧w=w':=by
 go_enter Tryz.func160,Tryz.ntmps160
 go_wp2
 refine wp_loop_rounds 1 ?_
 rw [rounds_succ]
 go_wp2
 go_ret
 exact ⟨rfl,rfl⟩
theorem last_zero (b:Nat) (xs:List Nat) (j:Nat) (hj:j<xs.length) (h:xs[j]=0):Nm.vl b (xs.take (j+1))=Nm.vl b (xs.take j):=by
 rw [Nm.vl_take_succ b xs j hj,h];simp
theorem last_not (xs:List Nat) (j:Nat) (hj:j<xs.length) (h:xs[j]≠0):(xs.take (j+1)).getLast?≠some 0:=by
 rw [List.take_add_one,List.getElem?_eq_getElem hj,Option.toList_some,List.getLast?_concat]
 intro e
 exact h (Option.some.inj e)
set_option maxHeartbeats 400000 in
theorem trim_row (g off c:Nat) (xs:List Nat) (h0:0<xs.length) (hxc:xs.length≤c) (hc0:Cap xs.length c) (w:World) (hr:Row .u32 w g off xs) :
 Calls Tryz.prog 160 #[.slice (some ⟨g,off,none⟩) xs.length c] w fun e w'=>(∃ k:Nat,e = .returned (.slice (some ⟨g,off,none⟩) k c)∧k≤xs.length∧Nm.vl 1000000000 (xs.take k)=Nm.vl 1000000000 xs∧(xs.take k).getLast?≠some 0)∧w=w':=by
 have HR:=Lib.hid hr
 have hc:=hc0.1
 clear hr hc0
 go_enter Tryz.func160,Tryz.ntmps160
 go_wp2
 go_loop [0] (fun s=>∃ k:Nat,k≤xs.length∧s = .slice (some ⟨g,off,none⟩) k c∧Hid (Nm.vl 1000000000 (xs.take k)=Nm.vl 1000000000 xs)) (fun s=>match s with | .slice _ n _=>n | _=>0)
 case atStart=>exact ⟨xs.length,Nat.le_refl _,rfl,Lib.hid (by rw [List.take_length])⟩
 case round =>
  obtain ⟨k,hk,rfl,HV⟩:=hrel
  cases k with
  | zero =>
   go_wp2
   go_ret
   exact ⟨⟨0,rfl,by omega,HV.out,by simp⟩,rfl⟩
  | succ j =>
   have hc0:=HR.out j (by omega)
   by_cases hz:xs[j]=0
   · rw [hz] at hc0
     have HV':Hid (Nm.vl 1000000000 (xs.take j)=Nm.vl 1000000000 xs):=Lib.hid (by rw [← HV.out,last_zero _ _ _ (by omega) hz])
     clear hz
     go_wp2
     go_round
     case rel=>exact ⟨j,by omega,rfl,HV'⟩
     case measure=>simp
   · have hz':((xs[j]:Int)==0)=false:=by rw [beq_eq_false_iff_ne];omega
     go_wp2
     go_ret
     exact ⟨⟨j+1,rfl,hk,HV.out,last_not _ _ _ hz⟩,rfl⟩
theorem rd_trim {w:World} {g off c k:Nat} {xs:List Nat} (hx:∀ x∈xs,x<1000000000) (hxc:xs.length≤c) (hc:Cap xs.length c) (hg:g<w.heap.size) (hr:Row .u32 w g off xs)
 (hk:k≤xs.length) (hv:Nm.vl 1000000000 (xs.take k)=Nm.vl 1000000000 xs) (hl:(xs.take k).getLast?≠some 0):Rd .u32 w (.slice (some ⟨g,off,none⟩) k c) (Nm.ds 1000000000 (Nm.vl 1000000000 xs)):=by
 have e:=Nm.ds_vl 1000000000 (by omega) (xs.take k) (fun x h=>hx x (List.mem_of_mem_take h)) hl
 rw [← hv,e]
 have hl2:(xs.take k).length=k:=by rw [List.length_take];omega
 have hr2:Row .u32 w g off (xs.take k):=by
  intro i hi
  rw [List.length_take] at hi
  rw [hr i (by omega)]
  simp
 have:=Rd.mk (k := .u32) (w:=w) (g:=g) (off:=off) (c:=c) (xs:=xs.take k) (by omega) (hc.less (by omega)) hg hr2
 rwa [hl2] at this
theorem trim_any (v:Value) (xs:List Nat) (hx:∀ x∈xs,x<1000000000) (w:World) (h:Rd .u32 w v xs) :
 Calls Tryz.prog 160 #[v] w fun e w'=>(∃ v',e = .returned v'∧Rd .u32 w v' (Nm.ds 1000000000 (Nm.vl 1000000000 xs))∧Same v v')∧w=w':=by
 rcases h.cases with ⟨rfl,a,c,rfl,hc⟩ | ⟨h0,g,off,c,rfl,hxc,hc,hg,hr⟩
 · refine (trim_nil a c w).mono ?_
   rintro e w' ⟨rfl,rfl⟩
   refine ⟨⟨_,rfl,?_,fun ad n c' e=>⟨n,c',e⟩⟩,rfl⟩
   rw [show Nm.vl 1000000000 []=0 from rfl,Nm.ds_zero]
   exact Rd.nil _ _ _ _ hc
 · refine (trim_row g off c xs h0 hxc hc w hr).mono ?_
   rintro e w' ⟨⟨k,rfl,hk,hv,hl⟩,rfl⟩
   refine ⟨⟨_,rfl,rd_trim hx hxc hc hg hr hk hv hl,fun ad n c' e => ?_⟩,rfl⟩
   simp only [Value.slice.injEq,Option.some.injEq] at e
   obtain ⟨rfl,_,_⟩:=e
   exact ⟨_,_,rfl⟩
end Go.Proofs.YtkhdocdddicgpaaGreatDoor
set_option linter.unusedVariables false
set_option linter.unusedSimpArgs false
namespace Go.Proofs.YtkhdocdddicgpaaGreatDoor
open Go.RowKit
theorem info32:(Tryz.prog.info? 199).map (fun i=>(i.zero,i.size,i.bytes))=some (some (.int .u32 0),1,4):=by kernel_rfl
theorem size32:(Tryz.prog.info? 199).map (·.size)=some 1:=by kernel_rfl
theorem own_of_full {k:IntKind} {t:TypeId} {w:World} {B g n:Nat} {cs:List Nat} (hl:cs.length=n) (h:w.ownsRow B t 1 (.slice (some ⟨g,0,none⟩) n n) n (cs.map (fun x=>Value.int k (x:Nat)))):Own k t w g cs∧B≤g:=by
 rcases h.2 with ⟨hv,_⟩ | ⟨g',cap,cur,hv,hB,hg,h1,h2,h3,h4⟩
 · simp at hv
 · simp only [Value.slice.injEq,Option.some.injEq,Addr.mk.injEq] at hv
   obtain ⟨⟨rfl,_⟩,_,rfl⟩:=hv
   refine ⟨?_,hB⟩
   unfold Own
   rw [hg]
   congr 1
   congr 1
   rw [Nat.mul_one,List.take_of_length_le (by simp;omega)] at h4
   rw [← h4]
theorem addr_add (g off j:Nat):(⟨g,off,none⟩:Addr).add j=⟨g,off+j,none⟩:=by
 by_cases h:j=0
 · subst h;simp [Addr.add]
 · simp [Addr.add,h]
theorem made_zeros (k:IntKind) (n:Nat):(madeCells (Value.int k 0).cells (n*1)).toList=(List.replicate n 0).map (fun x=>Value.int k ((x:Nat):Int)):=by
 apply List.ext_getElem
 · simp [madeCells]
 · intro i h1 h2
   simp [madeCells,Value.cells] at h1 ⊢
   rw [Nat.mod_one]
   rfl
def ExtPost (xs:List Nat) (n:Nat) (w:World) (e:Ending) (w':World):Prop :=
 ∃ g,w.heap.size≤g∧e = .returned (.slice (some ⟨g,0,none⟩) n n)∧Own .u32 199 w' g (xs++List.replicate (n-xs.length) 0)∧Below w.heap.size w w'
theorem splice_zeros (k:IntKind) (xs:List Nat) (n:Nat) (h:xs.length≤n) :
 splice (List.replicate n (Value.int k 0)) 0 (xs.map (fun x=>Value.int k ((x:Nat):Int)))=(xs++List.replicate (n-xs.length) 0).map (fun x=>Value.int k ((x:Nat):Int)):=by
 simp [splice,List.drop_replicate]
set_option maxRecDepth 100000 in
set_option maxHeartbeats 800000 in
theorem extended_to (a:Option Addr) (c:Nat) (xs:List Nat) (m n:Nat) (hn:n≤60000) (hmn:(m<xs.length∧n=xs.length)∨(¬ m<xs.length∧n=m)) (w:World) (h:Rd .u32 w (.slice a xs.length c) xs) :
 Calls Tryz.prog 173 #[.slice a xs.length c,.int .i64 m] w (ExtPost xs n w):=by
 have hl:=h.length
 have H:=Lib.hid h
 clear h
 have hxn:xs.length≤n:=by omega
 obtain ⟨i0,hi,hz0,hz1,hz2⟩:=info_parts info32
 have HZ2:=Lib.hid hz2
 have HI:=Lib.hid hi
 have HZ0:=Lib.hid hz0
 have HZ1:=Lib.hid hz1
 clear hz2 hi hz0 hz1
 rcases hmn with ⟨hlt,rfl⟩ | ⟨hlt,rfl⟩
 · skip
   go_enter Tryz.func173,Tryz.ntmps173
   go_wp2_with (refine wpList_make_full _ rfl (.tmp 9) (.tmp 9) 176 rfl w.heap.size 199 i0 (.int .u32 0) 1 Tryz.underlying176 HI.out HZ0.out HZ1.out .i64 .i64 _ _ xs.length rfl rfl rfl rfl (by rw [HZ2.out];omega) (by unfold maxLen;omega) (Nat.le_refl _) ?_;intro w1 hown hgrow;refine hold ?_)
   rw [made_zeros] at hown
   obtain ⟨hO,_⟩:=own_of_full (by simp) hown
   have HO:=Lib.hid hO
   have HB:=Lib.hid ((Below.refl w.heap.size w).grown hgrow (Nat.le_refl _) (fun k hk=>by simp at hk))
   have HR:Hid (xs≠[]→∃ g off,a=some ⟨g,off,none⟩∧Row .u32 w1 g off xs):=Lib.hid (fun hx=>by
    obtain ⟨a',c',e,_,_,h3⟩:=H.out
    obtain ⟨rfl,rfl⟩:a=a'∧c=c':=by simpa using e
    obtain ⟨g,off,rfl,hg,hr⟩:=h3 hx
    exact ⟨g,off,rfl,hr.keep HB.out hg⟩)
   clear hown hgrow hO
   refine go_on ?_
   go_wp2_with (refine wpList_copy_splice rfl (.tmp 11) (.tmp 12) 176 176 rfl 199 Tryz.underlying176 size32 (some ⟨w.heap.size,0,none⟩) a xs.length xs.length xs.length c (by rfl) (by rfl) w.heap.size 0 ((List.replicate xs.length 0).map (fun x=>Value.int .u32 ((x:Nat):Int))) 199 HO.out (xs.map (fun x=>Value.int .u32 ((x:Nat):Int))) (by rw [List.length_map];exact (Nat.min_eq_left (by omega)).symm) ?_ (by rw [List.length_map,List.length_map,List.length_replicate];omega) (fun v hv=>by obtain ⟨x,_,rfl⟩:=List.mem_map.1 hv;rfl) w.heap.size w HB.out (Nat.le_refl _) ?_)
   · intro hpos
     obtain ⟨g,off,rfl,hr⟩:=HR.out (by rintro rfl;simp at hpos)
     refine ⟨_,rfl,fun j x hx => ?_⟩
     obtain ⟨hj,rfl⟩:=List.getElem?_eq_some_iff.1 hx
     rw [addr_add];exact hr j hj
   · intro w2 HG hb2
     rw [splice_zeros _ _ _ (by omega)] at HG
     have HB2:=Lib.hid hb2
     clear hb2
     go_wp2
     go_ret
     exact ⟨_,Nat.le_refl _,rfl,HG.out,HB2.out⟩
 · skip
   go_enter Tryz.func173,Tryz.ntmps173
   go_wp2_with (refine wpList_make_full _ rfl (.tmp 9) (.tmp 9) 176 rfl w.heap.size 199 i0 (.int .u32 0) 1 Tryz.underlying176 HI.out HZ0.out HZ1.out .i64 .i64 _ _ n rfl rfl rfl rfl (by rw [HZ2.out];omega) (by unfold maxLen;omega) (Nat.le_refl _) ?_;intro w1 hown hgrow;refine hold ?_)
   rw [made_zeros] at hown
   obtain ⟨hO,_⟩:=own_of_full (by simp) hown
   have HO:=Lib.hid hO
   have HB:=Lib.hid ((Below.refl w.heap.size w).grown hgrow (Nat.le_refl _) (fun k hk=>by simp at hk))
   have HR:Hid (xs≠[]→∃ g off,a=some ⟨g,off,none⟩∧Row .u32 w1 g off xs):=Lib.hid (fun hx=>by
    obtain ⟨a',c',e,_,_,h3⟩:=H.out
    obtain ⟨rfl,rfl⟩:a=a'∧c=c':=by simpa using e
    obtain ⟨g,off,rfl,hg,hr⟩:=h3 hx
    exact ⟨g,off,rfl,hr.keep HB.out hg⟩)
   clear hown hgrow hO
   refine go_on ?_
   go_wp2_with (refine wpList_copy_splice rfl (.tmp 11) (.tmp 12) 176 176 rfl 199 Tryz.underlying176 size32 (some ⟨w.heap.size,0,none⟩) a n n xs.length c (by rfl) (by rfl) w.heap.size 0 ((List.replicate n 0).map (fun x=>Value.int .u32 ((x:Nat):Int))) 199 HO.out (xs.map (fun x=>Value.int .u32 ((x:Nat):Int))) (by rw [List.length_map];exact (Nat.min_eq_left (by omega)).symm) ?_ (by rw [List.length_map,List.length_map,List.length_replicate];omega) (fun v hv=>by obtain ⟨x,_,rfl⟩:=List.mem_map.1 hv;rfl) w.heap.size w HB.out (Nat.le_refl _) ?_)
   · intro hpos
     obtain ⟨g,off,rfl,hr⟩:=HR.out (by rintro rfl;simp at hpos)
     refine ⟨_,rfl,fun j x hx => ?_⟩
     obtain ⟨hj,rfl⟩:=List.getElem?_eq_some_iff.1 hx
     rw [addr_add];exact hr j hj
   · intro w2 HG hb2
     rw [splice_zeros _ _ _ (by omega)] at HG
     have HB2:=Lib.hid hb2
     clear hb2
     go_wp2
     go_ret
     exact ⟨_,Nat.le_refl _,rfl,HG.out,HB2.out⟩
theorem extended_any (v:Value) (xs:List Nat) (m n:Nat) (hn:n≤60000) (hmn:n=max m xs.length) (w:World) (h:Rd .u32 w v xs) :
 Calls Tryz.prog 173 #[v,.int .i64 m] w (ExtPost xs n w):=by
 obtain ⟨a,c,rfl,_⟩:=id h
 exact extended_to a c xs m n hn (by omega) w h
end Go.Proofs.YtkhdocdddicgpaaGreatDoor
set_option linter.unusedVariables false
set_option linter.unusedSimpArgs false
namespace Go.Proofs.YtkhdocdddicgpaaGreatDoor
open Go.RowKit
def cur (pre xs post zs:List Nat):List Nat:=pre++(zs++xs.drop zs.length)++post
theorem cur_at (pre xs post zs:List Nat) (h:zs.length<xs.length):(cur pre xs post zs)[pre.length+zs.length]?=some xs[zs.length]:=by
 unfold cur
 rw [List.append_assoc,List.getElem?_append_right (by omega),show pre.length+zs.length-pre.length=zs.length from by omega,List.append_assoc,List.getElem?_append_right (by omega),Nat.sub_self]
 rw [List.getElem?_append_left (by rw [List.length_drop];omega)]
 simp
theorem cur_set (pre xs post zs:List Nat) (z:Nat) (h:zs.length<xs.length):(cur pre xs post zs).set (pre.length+zs.length) z=cur pre xs post (zs++[z]):=by
 unfold cur
 rw [List.append_assoc,List.set_append_right _ _ (by omega),show pre.length+zs.length-pre.length=zs.length from by omega,List.append_assoc,List.set_append_right _ _ (by omega),Nat.sub_self]
 have e:xs.drop zs.length=xs[zs.length]::xs.drop (zs.length+1):=(List.drop_eq_getElem_cons h)
 rw [e,List.cons_append,List.set_cons_zero,List.length_append,List.length_singleton]
 simp only [List.append_assoc,List.cons_append,List.nil_append]
theorem cur_length (pre xs post zs:List Nat) (h:zs.length≤xs.length):(cur pre xs post zs).length=pre.length+xs.length+post.length:=by
 unfold cur;simp;omega
theorem wrap_in (n:Int) (h1 : -9000000000000000000≤n) (h2:n≤9000000000000000000):wrap64 n=n:=by unfold wrap64;omega
theorem am_step (t:Int) (h1 : -2000000000000000000≤t) (h2:t≤2000000000000000000) :
 (wrap64 (t.tmod 1000000000+1000000000)).tmod 1000000000=t%1000000000 ∧
 wrap64 ((wrap64 (t-t%1000000000)).tdiv 1000000000)=t/1000000000∧(t%1000000000)%4294967296=((t%1000000000).toNat:Int):=by
 have hm : -1000000000<t.tmod 1000000000∧t.tmod 1000000000<1000000000:=by
  have:=Int.tmod_lt_of_pos t (b:=1000000000) (by omega)
  have h3:=Int.lt_tmod_of_pos t (b:=1000000000) (by omega)
  omega
 refine ⟨?_,?_,by omega⟩
 · rw [wrap_in _ (by omega) (by omega),Nm.tmod_emod]
 · rw [wrap_in (t-t%1000000000) (by omega) (by omega),Nm.quo_ediv,wrap_in _ (by omega) (by omega)]
def AmPost (g:Nat) (pre xs post ys:List Nat) (count:Int) (w:World) (e:Ending) (w':World):Prop :=
 ∃ (zs:List Nat) (carry:Int),e = .returned (.int .i64 carry)∧zs.length=xs.length∧(∀ z∈zs,z<1000000000) ∧
  (Nm.vl 1000000000 zs:Int)+((1000000000 ^ xs.length:Nat):Int)*carry=Nm.vl 1000000000 xs+count*Nm.vl 1000000000 ys ∧
  Own .u32 199 w' g (pre++zs++post)∧Only g w w'
theorem am_early (xs ys zs:List Nat) (count:Int) (h:Nm.AmInv xs ys count zs 0) (hy:ys.length≤zs.length) (hx:∀ x∈xs,x<1000000000) :
 (zs++xs.drop zs.length).length=xs.length∧(∀ z∈zs++xs.drop zs.length,z<1000000000) ∧
 (Nm.vl 1000000000 (zs++xs.drop zs.length):Int)+((1000000000 ^ xs.length:Nat):Int)*0=Nm.vl 1000000000 xs+count*Nm.vl 1000000000 ys:=by
 obtain ⟨h1,h2,h3⟩:=h
 refine ⟨by rw [List.length_append,List.length_drop];omega,?_,?_⟩
 · intro z hz
   rcases List.mem_append.1 hz with hz | hz
   · exact h1 z hz
   · exact hx z (List.mem_of_mem_drop hz)
 · have e:Nm.vl 1000000000 xs=Nm.vl 1000000000 (xs.take zs.length)+1000000000 ^ zs.length*Nm.vl 1000000000 (xs.drop zs.length):=by
    conv=>lhs;rw [← List.take_append_drop zs.length xs]
    rw [Nm.vl_append,List.length_take,Nat.min_eq_left h2]
   rw [Nm.vl_append,e]
   rw [List.take_of_length_le hy] at h3
   generalize 1000000000 ^ zs.length*Nm.vl 1000000000 (xs.drop zs.length)=t
   simp only [Int.natCast_add,Int.mul_zero,Int.add_zero] at *
   omega
theorem am_end (xs ys zs:List Nat) (count carry:Int) (h:Nm.AmInv xs ys count zs carry) (hz:zs.length=xs.length) (hy:ys.length≤xs.length) :
 (∀ z∈zs,z<1000000000)∧(Nm.vl 1000000000 zs:Int)+((1000000000 ^ xs.length:Nat):Int)*carry=Nm.vl 1000000000 xs+count*Nm.vl 1000000000 ys:=by
 obtain ⟨h1,h2,h3⟩:=h
 rw [hz,List.take_length,List.take_of_length_le hy] at h3
 exact ⟨h1,h3⟩
set_option maxRecDepth 100000 in
set_option maxHeartbeats 1600000 in
theorem addMultiple_row (g h off2 c c2:Nat) (pre xs post ys:List Nat) (count:Int) (w:World) (hc : -1000000000≤count∧count≤1000000000)
 (hxs:0<xs.length) (hys:0<ys.length) (hyx:ys.length≤xs.length) (hx:∀ x∈xs,x<1000000000) (hy:∀ y∈ys,y<1000000000) (hl:pre.length+xs.length≤60000)
 (hO:Own .u32 199 w g (pre++xs++post)) (hr:Row .u32 w h off2 ys) (hgh:h≠g) :
 Calls Tryz.prog 159 #[.slice (some ⟨g,pre.length,none⟩) xs.length c,.slice (some ⟨h,off2,none⟩) ys.length c2,.int .i64 count] w (AmPost g pre xs post ys count w):=by
 have HO:=Lib.hid hO
 have HR:=Lib.hid hr
 have HX:=Lib.hid hx
 have HY:=Lib.hid hy
 clear hO hr hx hy
 go_enter Tryz.func159,Tryz.ntmps159
 go_wp2
 go_loopw [7,8,9,10,13] (fun cv i t l j wr=>∃ (zs:List Nat) (carry:Int),zs.length≤xs.length∧j = .int .i64 zs.length∧cv = .int .i64 carry ∧ -1000000001≤carry∧carry≤1000000001 ∧
  Hid (Nm.AmInv xs ys count zs carry)∧Hid (Own .u32 199 wr g (cur pre xs post zs))∧Hid (Only g w wr)) (fun _ _ _ _ j _=>xs.length-(intOf j).toNat)
 case atStart=>exact ⟨[],0,by simp,rfl,rfl,by omega,by omega,Lib.hid (Nm.AmInv.start _ _ _),Lib.hid (by simpa [cur] using HO.out),Lib.hid (Only.refl _ _)⟩
 case round =>
  obtain ⟨zs,carry,hz,rfl,rfl,hk1,hk2,HI,HW,HN⟩:=hrel
  by_cases hlt:zs.length<xs.length
  · have hlt':(zs.length:Int)<xs.length:=by omega
    have hx1:=HX.out _ (List.getElem_mem hlt)
    have hcl:(cur pre xs post zs).length=pre.length+xs.length+post.length:=cur_length _ _ _ _ hz
    have hc1:wr.cell? ⟨g,pre.length+zs.length,none⟩=some (.int .u32 (xs[zs.length]:Nat)):=by
     rw [HW.out.cell (pre.length+zs.length) (by omega)]
     have:=cur_at pre xs post zs hlt
     rw [List.getElem?_eq_getElem (by omega)] at this
     rw [Option.some.inj this]
    have hf1:wr.frozen? ⟨g,pre.length+zs.length,none⟩=false:=HW.out.free _
    clear hcl
    by_cases hly:zs.length<ys.length
    · have hly':(zs.length:Int)<ys.length:=by omega
      have hy1:=HY.out _ (List.getElem_mem hly)
      have hc2:wr.cell? ⟨h,off2+zs.length,none⟩=some (.int .u32 (ys[zs.length]:Nat)):=(HN.out.cell h _ hgh).trans (HR.out _ hly)
      obtain ⟨p,hp⟩:∃ p:Int,p=(ys[zs.length]:Int)*count:=⟨_,rfl⟩
      have HS:=Lib.hid (Nm.carry_step xs[zs.length] ys[zs.length] hx1 hy1 count carry hc ⟨hk1,hk2⟩)
      rw [← hp] at HS
      have hp1 : -1000000000000000000≤p:=HS.out.2.2.2.2.1
      have hp2:p≤1000000000000000000:=HS.out.2.2.2.2.2
      have hp3:IntKind.i64.wrap ((ys[zs.length]:Int)*count)=p:=by rw [← hp];exact IntWalk.i64_in _ (by omega)
      have HP:=Lib.hid hp
      clear hp
      have HA:=Lib.hid (am_step ((xs[zs.length]:Int)+carry+p) (by have:=HS.out.1;omega) (by have:=HS.out.2.1;omega))
      have HI':=Lib.hid (HI.out.step hlt ((xs[zs.length]:Int)+carry+p) (by rw [HP.out,Nm.yat,List.getElem?_eq_getElem hly];rfl))
      go_wp2
      rw [HA.out.1,HA.out.2.1,HA.out.2.2]
      refine ⟨⟨zs++[(((xs[zs.length]:Int)+carry+p)%1000000000).toNat],_,?_,?_,rfl,HS.out.2.2.1,HS.out.2.2.2.1,HI',?_,?_⟩,?_⟩
      · rw [List.length_append,List.length_singleton];omega
      · rw [List.length_append,List.length_singleton];go_num
      · exact Lib.hid (by rw [← cur_set _ _ _ _ _ hlt];exact HW.out.set _ _)
      · exact Lib.hid (HN.out.set _ _)
      · simp [intOf];omega
    · have hly':¬ (zs.length:Int)<ys.length:=by omega
      have hyat:Nm.yat ys zs.length=0:=by rw [Nm.yat,List.getElem?_eq_none (by omega)];rfl
      have HYA:=Lib.hid hyat
      clear hyat
      by_cases hc0:carry=0
      · have hcb:(carry==0)=true:=by simp [hc0]
        have HE:=Lib.hid (am_early xs ys zs count (by rw [← hc0];exact HI.out) (by omega) HX.out)
        clear hc0
        go_wp2
        go_ret
        exact ⟨_,_,rfl,HE.out.1,HE.out.2.1,HE.out.2.2,HW.out,HN.out⟩
      · have hcb:(carry==0)=false:=by simp [hc0]
        clear hc0
        have HS:=Lib.hid (Nm.carry_step xs[zs.length] 0 hx1 (by omega) count carry hc ⟨hk1,hk2⟩)
        rw [show ((0:Nat):Int)*count=0 from by simp,Int.add_zero] at HS
        have HA:=Lib.hid (am_step ((xs[zs.length]:Int)+carry) (by have:=HS.out.1;omega) (by have:=HS.out.2.1;omega))
        have HI':=Lib.hid (HI.out.step hlt ((xs[zs.length]:Int)+carry) (by rw [HYA.out];simp))
        go_wp2
        rw [HA.out.1,HA.out.2.1,HA.out.2.2]
        refine ⟨⟨zs++[(((xs[zs.length]:Int)+carry)%1000000000).toNat],_,?_,?_,rfl,HS.out.2.2.1,HS.out.2.2.2.1,HI',?_,?_⟩,?_⟩
        · rw [List.length_append,List.length_singleton];omega
        · rw [List.length_append,List.length_singleton];go_num
        · exact Lib.hid (by rw [← cur_set _ _ _ _ _ hlt];exact HW.out.set _ _)
        · exact Lib.hid (HN.out.set _ _)
        · simp [intOf];omega
  · have hze:zs.length=xs.length:=by omega
    have HE:=Lib.hid (am_end xs ys zs count carry HI.out hze hyx)
    have HW':Hid (Own .u32 199 wr g (pre++zs++post)):=Lib.hid (by
     have:=HW.out
     unfold cur at this
     rwa [hze,List.drop_length,List.append_nil] at this)
    have HZ:=Lib.hid hze
    have hge:¬ (zs.length:Int)<xs.length:=by omega
    clear hze
    go_wp2
    go_ret
    exact ⟨zs,carry,rfl,HZ.out,HE.out.1,HE.out.2,HW'.out,HN.out⟩
end Go.Proofs.YtkhdocdddicgpaaGreatDoor
set_option linter.unusedVariables false
set_option linter.unusedSimpArgs false
namespace Go.Proofs.YtkhdocdddicgpaaGreatDoor
open Go.RowKit
theorem addMultiple_none (a:Option Addr) (c:Nat) (v:Value) (a2:Option Addr) (n2 c2:Nat) (count:Int) (w:World) :
 Calls Tryz.prog 159 #[.slice a 0 c,.slice a2 n2 c2,.int .i64 count] w fun e w'=>e = .returned (.int .i64 0)∧w=w':=by
 go_enter Tryz.func159,Tryz.ntmps159
 go_wp2
 refine wp_loop_rounds 1 ?_
 rw [rounds_succ]
 go_wp2
 go_ret
 exact ⟨rfl,rfl⟩
set_option maxRecDepth 100000 in
set_option maxHeartbeats 400000 in
theorem addMultiple_zero (g c:Nat) (pre xs post:List Nat) (a2:Option Addr) (c2:Nat) (count:Int) (w:World) (hxs:0<xs.length) (hl:pre.length+xs.length≤60000)
 (hO:Own .u32 199 w g (pre++xs++post)) (hx:∀ x∈xs,x<1000000000) :
 Calls Tryz.prog 159 #[.slice (some ⟨g,pre.length,none⟩) xs.length c,.slice a2 0 c2,.int .i64 count] w fun e w'=>e = .returned (.int .i64 0)∧w=w':=by
 have hx1:=hx _ (List.getElem_mem hxs)
 have hc1:w.cell? ⟨g,pre.length,none⟩=some (.int .u32 (xs[0]:Nat)):=by
  rw [hO.cell pre.length (by simp;omega)]
  have:(pre++xs++post)[pre.length]?=some xs[0]:=by
   rw [List.append_assoc,List.getElem?_append_right (Nat.le_refl _),Nat.sub_self,List.getElem?_append_left hxs,List.getElem?_eq_getElem hxs]
  rw [List.getElem?_eq_getElem (by simp;omega)] at this
  rw [Option.some.inj this]
 have hxs':(0:Int)<xs.length:=by omega
 clear hO hx
 go_enter Tryz.func159,Tryz.ntmps159
 go_wp2
 refine wp_loop_rounds 1 ?_
 rw [rounds_succ]
 go_wp2
 go_ret
 exact ⟨rfl,rfl⟩
theorem addMultiple_any (g c:Nat) (pre xs post ys:List Nat) (v:Value) (count:Int) (w:World) (hc : -1000000000≤count∧count≤1000000000)
 (hyx:ys.length≤xs.length) (hx:∀ x∈xs,x<1000000000) (hy:∀ y∈ys,y<1000000000) (hl:pre.length+xs.length≤60000)
 (hO:Own .u32 199 w g (pre++xs++post)) (hr:Rd .u32 w v ys) (hap:0<ys.length→∀ a n c',v = .slice (some a) n c'→a.block≠g) :
 Calls Tryz.prog 159 #[.slice (some ⟨g,pre.length,none⟩) xs.length c,v,.int .i64 count] w (AmPost g pre xs post ys count w):=by
 rcases hr.cases with ⟨rfl,a2,c2,rfl,_⟩ | ⟨h0,h,off2,c2,rfl,_,_,_,hrow⟩
 · by_cases hx0:xs.length=0
   · have hxe:=List.length_eq_zero_iff.1 hx0
     subst hxe
     refine (addMultiple_none _ _ (.int .i64 0) a2 0 c2 count w).mono ?_
     rintro e w' ⟨rfl,rfl⟩
     exact ⟨[],0,rfl,rfl,by simp,by simp [Nm.vl],hO,Only.refl _ _⟩
   · refine (addMultiple_zero g c pre xs post a2 c2 count w (by omega) hl hO hx).mono ?_
     rintro e w' ⟨rfl,rfl⟩
     exact ⟨xs,0,rfl,rfl,hx,by simp [Nm.vl],hO,Only.refl _ _⟩
 · exact addMultiple_row g h off2 c c2 pre xs post ys count w hc (by omega) h0 hyx hx hy hl hO hrow (hap h0 _ _ _ rfl)
theorem Rd.apart {w:World} {v:Value} {ys:List Nat} {g:Nat} (h:Rd .u32 w v ys) (hg:w.heap.size≤g):0<ys.length→∀ a n c',v = .slice (some a) n c'→a.block≠g:=by
 intro hy a n c' hv
 rcases h.cases with ⟨rfl,_⟩ | ⟨_,g',off,c,hv',_,_,hlt,_⟩
 · simp at hy
 · rw [hv'] at hv
   simp only [Value.slice.injEq,Option.some.injEq] at hv
   obtain ⟨rfl,_⟩:=hv
   show g'≠g
   omega
def IsNat (w:World) (v:Value) (n:Nat):Prop:=Rd .u32 w v (Nm.ds 1000000000 n)
theorem IsNat.keep {w w':World} {v:Value} {n B:Nat} (h:IsNat w v n) (hb:Below B w w') (hB:w.heap.size≤B):IsNat w' v n:=Rd.keep h hb hB
theorem vl_zeros_app (b:Nat) (xs:List Nat) (k:Nat):Nm.vl b (xs++List.replicate k 0)=Nm.vl b xs:=by
 rw [Nm.vl_append,Nm.vl_zeros];simp
theorem zeros_lt (xs:List Nat) (k:Nat) (h:∀ x∈xs,x<1000000000):∀ x∈xs++List.replicate k 0,x<1000000000:=by
 intro x hx
 rcases List.mem_append.1 hx with hx | hx
 · exact h x hx
 · rw [List.mem_replicate] at hx;omega
theorem no_carry (Z P:Nat) (carry R:Int) (hZ:Z<P) (h:(Z:Int)+(P:Int)*carry=R) (h0:0≤R) (h1:R<P):carry=0:=by
 have hP:(0:Int)<P:=by omega
 rcases Int.lt_trichotomy carry 0 with hc | hc | hc
 · have:(P:Int)*carry≤P*(-1):=Int.mul_le_mul_of_nonneg_left (by omega) (by omega)
   omega
 · exact hc
 · have:(P:Int)*1≤P*carry:=Int.mul_le_mul_of_nonneg_left (by omega) (by omega)
   omega
set_option maxRecDepth 100000 in
set_option maxHeartbeats 1600000 in
theorem sum_to (aa ab:Option Addr) (ca cb:Nat) (xs ys:List Nat) (w:World) (ha:Rd .u32 w (.slice aa xs.length ca) xs) (hb:Rd .u32 w (.slice ab ys.length cb) ys)
 (hx:∀ x∈xs,x<1000000000) (hy:∀ y∈ys,y<1000000000) (la:xs.length≤1000) (lb:ys.length≤1000) :
 Calls Tryz.prog 144 #[.slice aa xs.length ca,.slice ab ys.length cb] w (NatPost (Nm.vl 1000000000 xs+Nm.vl 1000000000 ys) w):=by
 have HA:=Lib.hid ha
 have HB:=Lib.hid hb
 have HX:=Lib.hid hx
 have HY:=Lib.hid hy
 clear ha hb hx hy
 by_cases hlt:xs.length<ys.length
 · skip
   go_enter Tryz.func144,Tryz.ntmps144
   go_wp2_with fail
   rw [show ((ys.length:Nat):Int)+1=((ys.length+1:Nat):Int) from by omega]
   refine (extended_any _ xs (ys.length+1) (ys.length+1) (by omega) (by omega) _ HA.out).mono ?_
   rintro e w1 ⟨g,hg,rfl,hO,hw1⟩
   have HW1:=Lib.hid hw1
   have HO:=Lib.hid hO
   clear hw1 hO
   go_wp2_with fail
   have hlen:(xs++List.replicate (ys.length+1-xs.length) 0).length=ys.length+1:=by rw [List.length_append,List.length_replicate];omega
   have hcall:=addMultiple_any g (ys.length+1) [] (xs++List.replicate (ys.length+1-xs.length) 0) [] ys (.slice ab ys.length cb) 1 w1 (by omega) (by rw [hlen];omega) (zeros_lt _ _ HX.out) HY.out (by rw [hlen];simp;omega)
    (by simpa using HO.out) (HB.out.keep HW1.out (Nat.le_refl _)) (Rd.apart HB.out hg)
   rw [hlen] at hcall
   refine hcall.mono ?_
   clear hcall
   rintro e w2 ⟨zs,carry,rfl,hz1,hz2,hz3,hz4,hz5⟩
   have HZ:Hid (Nm.vl 1000000000 zs=Nm.vl 1000000000 xs+Nm.vl 1000000000 ys):=Lib.hid (by
    rw [vl_zeros_app] at hz3
    rw [hlen] at hz1 hz3
    have h1:=Nm.vl_lt 1000000000 zs hz2
    rw [hz1] at h1
    have h2:=Nm.vl_lt 1000000000 xs HX.out
    have h3:=Nm.vl_lt 1000000000 ys HY.out
    have h4:1000000000 ^ xs.length≤1000000000 ^ ys.length:=Nat.pow_le_pow_right (by omega) (by omega)
    have h5:1000000000 ^ ys.length≤1000000000 ^ ys.length:=Nat.pow_le_pow_right (by omega) (by omega)
    have h6:1000000000 ^ (ys.length+1)=1000000000 ^ ys.length*1000000000:=Nat.pow_succ ..
    have h7:=no_carry _ _ carry _ h1 hz3 (by omega) (by omega)
    subst h7
    omega)
   have HW2:=Lib.hid (HW1.out.trans (hz5.below hg))
   have HR:Hid (Rd .u32 w2 (.slice (some ⟨g,0,none⟩) (ys.length+1) (ys.length+1)) zs):=Lib.hid (by
    have h:=hz4.rd (ys.length+1) (ys.length+1) (by simp;rw [hz1,hlen];exact Nat.le_refl _) (Nat.le_refl _) (by omega)
    rwa [List.nil_append,List.append_nil,List.take_of_length_le (by rw [hz1,hlen];exact Nat.le_refl _)] at h)
   have HZ2:=Lib.hid hz2
   clear hz1 hz2 hz3 hz4 hz5 hlen
   go_wp2_with fail
   refine (trim_any _ zs HZ2.out _ HR.out).mono ?_
   rintro e w3 ⟨⟨v',rfl,hv,hsm⟩,rfl⟩
   rw [HZ.out] at hv
   have HV:=Lib.hid hv
   have HFR:=Lib.hid (Fr.of_same hsm hg)
   clear hv hsm
   go_wp2
   go_ret
   exact ⟨_,rfl,HV.out,HFR.out,HW2.out⟩
 · skip
   go_enter Tryz.func144,Tryz.ntmps144
   go_wp2_with fail
   rw [show ((xs.length:Nat):Int)+1=((xs.length+1:Nat):Int) from by omega]
   refine (extended_any _ xs (xs.length+1) (xs.length+1) (by omega) (by omega) _ HA.out).mono ?_
   rintro e w1 ⟨g,hg,rfl,hO,hw1⟩
   have HW1:=Lib.hid hw1
   have HO:=Lib.hid hO
   clear hw1 hO
   go_wp2_with fail
   have hlen:(xs++List.replicate (xs.length+1-xs.length) 0).length=xs.length+1:=by rw [List.length_append,List.length_replicate];omega
   have hcall:=addMultiple_any g (xs.length+1) [] (xs++List.replicate (xs.length+1-xs.length) 0) [] ys (.slice ab ys.length cb) 1 w1 (by omega) (by rw [hlen];omega) (zeros_lt _ _ HX.out) HY.out (by rw [hlen];simp;omega)
    (by simpa using HO.out) (HB.out.keep HW1.out (Nat.le_refl _)) (Rd.apart HB.out hg)
   rw [hlen] at hcall
   refine hcall.mono ?_
   clear hcall
   rintro e w2 ⟨zs,carry,rfl,hz1,hz2,hz3,hz4,hz5⟩
   have HZ:Hid (Nm.vl 1000000000 zs=Nm.vl 1000000000 xs+Nm.vl 1000000000 ys):=Lib.hid (by
    rw [vl_zeros_app] at hz3
    rw [hlen] at hz1 hz3
    have h1:=Nm.vl_lt 1000000000 zs hz2
    rw [hz1] at h1
    have h2:=Nm.vl_lt 1000000000 xs HX.out
    have h3:=Nm.vl_lt 1000000000 ys HY.out
    have h4:1000000000 ^ xs.length≤1000000000 ^ xs.length:=Nat.pow_le_pow_right (by omega) (by omega)
    have h5:1000000000 ^ ys.length≤1000000000 ^ xs.length:=Nat.pow_le_pow_right (by omega) (by omega)
    have h6:1000000000 ^ (xs.length+1)=1000000000 ^ xs.length*1000000000:=Nat.pow_succ ..
    have h7:=no_carry _ _ carry _ h1 hz3 (by omega) (by omega)
    subst h7
    omega)
   have HW2:=Lib.hid (HW1.out.trans (hz5.below hg))
   have HR:Hid (Rd .u32 w2 (.slice (some ⟨g,0,none⟩) (xs.length+1) (xs.length+1)) zs):=Lib.hid (by
    have h:=hz4.rd (xs.length+1) (xs.length+1) (by simp;rw [hz1,hlen];exact Nat.le_refl _) (Nat.le_refl _) (by omega)
    rwa [List.nil_append,List.append_nil,List.take_of_length_le (by rw [hz1,hlen];exact Nat.le_refl _)] at h)
   have HZ2:=Lib.hid hz2
   clear hz1 hz2 hz3 hz4 hz5 hlen
   go_wp2_with fail
   refine (trim_any _ zs HZ2.out _ HR.out).mono ?_
   rintro e w3 ⟨⟨v',rfl,hv,hsm⟩,rfl⟩
   rw [HZ.out] at hv
   have HV:=Lib.hid hv
   have HFR:=Lib.hid (Fr.of_same hsm hg)
   clear hv hsm
   go_wp2
   go_ret
   exact ⟨_,rfl,HV.out,HFR.out,HW2.out⟩
theorem sum_any (va vb:Value) (a b:Nat) (w:World) (ha:IsNat w va a) (hb:IsNat w vb b) (la:(Nm.ds 1000000000 a).length≤1000) (lb:(Nm.ds 1000000000 b).length≤1000) :
 Calls Tryz.prog 144 #[va,vb] w (NatPost (a+b) w):=by
 obtain ⟨aa,ca,rfl,_⟩:=id ha
 obtain ⟨ab,cb,rfl,_⟩:=id hb
 have h:=sum_to aa ab ca cb _ _ w ha hb (Nm.ds_lt _ (by omega) _) (Nm.ds_lt _ (by omega) _) la lb
 rwa [Nm.vl_ds _ (by omega),Nm.vl_ds _ (by omega)] at h
set_option maxRecDepth 100000 in
set_option maxHeartbeats 1600000 in
theorem difference_to (aa ab:Option Addr) (ca cb:Nat) (xs ys:List Nat) (w:World) (ha:Rd .u32 w (.slice aa xs.length ca) xs) (hb:Rd .u32 w (.slice ab ys.length cb) ys)
 (hx:∀ x∈xs,x<1000000000) (hy:∀ y∈ys,y<1000000000) (la:xs.length≤1000) (lb:ys.length≤xs.length) (hle:Nm.vl 1000000000 ys≤Nm.vl 1000000000 xs) :
 Calls Tryz.prog 146 #[.slice aa xs.length ca,.slice ab ys.length cb] w (NatPost (Nm.vl 1000000000 xs-Nm.vl 1000000000 ys) w):=by
 have HA:=Lib.hid ha
 have HB:=Lib.hid hb
 have HX:=Lib.hid hx
 have HY:=Lib.hid hy
 have HLE:=Lib.hid hle
 clear ha hb hx hy hle
 go_enter Tryz.func146,Tryz.ntmps146
 go_wp2_with fail
 refine (extended_any _ xs xs.length xs.length (by omega) (by omega) _ HA.out).mono ?_
 rintro e w1 ⟨g,hg,rfl,hO,hw1⟩
 rw [Nat.sub_self,List.replicate_zero,List.append_nil] at hO
 have HW1:=Lib.hid hw1
 have HO:=Lib.hid hO
 clear hw1 hO
 go_wp2_with fail
 refine (addMultiple_any g xs.length [] xs [] ys (.slice ab ys.length cb) (-1) w1 (by omega) lb HX.out HY.out (by simp;omega) (by simpa using HO.out) (HB.out.keep HW1.out (Nat.le_refl _)) (Rd.apart HB.out hg)).mono ?_
 rintro e w2 ⟨zs,carry,rfl,hz1,hz2,hz3,hz4,hz5⟩
 have HZ:Hid (Nm.vl 1000000000 zs=Nm.vl 1000000000 xs-Nm.vl 1000000000 ys):=Lib.hid (by
  have h1:=Nm.vl_lt 1000000000 zs hz2
  rw [hz1] at h1
  have h2:=Nm.vl_lt 1000000000 xs HX.out
  have hle:=HLE.out
  have h7:=no_carry _ _ carry _ h1 hz3 (by omega) (by omega)
  subst h7
  omega)
 have HW2:=Lib.hid (HW1.out.trans (hz5.below hg))
 have HR:Hid (Rd .u32 w2 (.slice (some ⟨g,0,none⟩) xs.length xs.length) zs):=Lib.hid (by
  have h:=hz4.rd xs.length xs.length (by simp;omega) (Nat.le_refl _) (by omega)
  rwa [List.nil_append,List.append_nil,List.take_of_length_le (by omega)] at h)
 have HZ2:=Lib.hid hz2
 clear hz1 hz2 hz3 hz4 hz5
 go_wp2_with fail
 refine (trim_any _ zs HZ2.out _ HR.out).mono ?_
 rintro e w3 ⟨⟨v',rfl,hv,hsm⟩,rfl⟩
 rw [HZ.out] at hv
 have HV:=Lib.hid hv
 have HFR:=Lib.hid (Fr.of_same hsm hg)
 clear hv hsm
 go_wp2
 go_ret
 exact ⟨_,rfl,HV.out,HFR.out,HW2.out⟩
theorem ds_length_mono (b:Nat) (hb:2≤b) (m n:Nat) (h:m≤n):(Nm.ds b m).length≤(Nm.ds b n).length:=by
 rcases Nat.lt_or_ge (Nm.ds b n).length (Nm.ds b m).length with h1 | h1
 · have:=Nm.length_lt b hb n m h1;omega
 · exact h1
theorem difference_any (va vb:Value) (a b:Nat) (w:World) (ha:IsNat w va a) (hb:IsNat w vb b) (la:(Nm.ds 1000000000 a).length≤1000) (hle:b≤a) :
 Calls Tryz.prog 146 #[va,vb] w (NatPost (a-b) w):=by
 obtain ⟨aa,ca,rfl,_⟩:=id ha
 obtain ⟨ab,cb,rfl,_⟩:=id hb
 have h:=difference_to aa ab ca cb _ _ w ha hb (Nm.ds_lt _ (by omega) _) (Nm.ds_lt _ (by omega) _) la (ds_length_mono _ (by omega) _ _ hle) (by rwa [Nm.vl_ds _ (by omega),Nm.vl_ds _ (by omega)])
 rwa [Nm.vl_ds _ (by omega),Nm.vl_ds _ (by omega)] at h
end Go.Proofs.YtkhdocdddicgpaaGreatDoor
set_option linter.unusedVariables false
set_option linter.unusedSimpArgs false
namespace Go.Proofs.YtkhdocdddicgpaaGreatDoor
open Go.RowKit
theorem prod_split (zs:List Nat) (k lb n:Nat) (hz:zs.length=k+lb) (hn:0<n):zs++List.replicate n 0=zs.take k++(zs.drop k++[0])++List.replicate (n-1) 0:=by
 obtain ⟨m,rfl⟩:∃ m,n=m+1:=⟨n-1,by omega⟩
 rw [List.replicate_succ,Nat.add_sub_cancel]
 conv=>lhs;rw [← List.take_append_drop k zs]
 rw [List.append_assoc,List.append_assoc,List.append_assoc]
 rfl
theorem prod_step (xs ys zs ws:List Nat) (k:Nat) (carry:Int) (hk:k<xs.length) (hz:zs.length=k+ys.length) (hx:∀ x∈xs,x<1000000000) (hy:∀ y∈ys,y<1000000000) (hzl:∀ z∈zs,z<1000000000)
 (hv:Nm.vl 1000000000 zs=Nm.vl 1000000000 (xs.take k)*Nm.vl 1000000000 ys) (hw:ws.length=(zs.drop k++[0]).length) (hwl:∀ z∈ws,z<1000000000)
 (he:(Nm.vl 1000000000 ws:Int)+((1000000000 ^ (zs.drop k++[0]).length:Nat):Int)*carry=Nm.vl 1000000000 (zs.drop k++[0])+(xs[k]:Int)*Nm.vl 1000000000 ys) :
 (zs.take k++ws).length=k+1+ys.length∧(∀ z∈zs.take k++ws,z<1000000000)∧Nm.vl 1000000000 (zs.take k++ws)=Nm.vl 1000000000 (xs.take (k+1))*Nm.vl 1000000000 ys:=by
 have hl:(zs.drop k++[0]).length=ys.length+1:=by rw [List.length_append,List.length_drop,List.length_singleton];omega
 have ht:(zs.take k).length=k:=by rw [List.length_take];omega
 rw [hl] at hw he
 have hv0:Nm.vl 1000000000 (zs.drop k++[0])=Nm.vl 1000000000 (zs.drop k):=by rw [Nm.vl_append];simp [Nm.vl]
 rw [hv0] at he
 have hx1:=hx _ (List.getElem_mem hk)
 have h1:=Nm.vl_lt 1000000000 ws hwl
 rw [hw] at h1
 have h2:=Nm.vl_lt 1000000000 (zs.drop k) (fun z hz=>hzl z (List.mem_of_mem_drop hz))
 have h3:(zs.drop k).length=ys.length:=by rw [List.length_drop];omega
 rw [h3] at h2
 have h4:=Nm.vl_lt 1000000000 ys hy
 have h5:xs[k]*Nm.vl 1000000000 ys≤999999999*Nm.vl 1000000000 ys:=Nat.mul_le_mul_right _ (by omega)
 have h6:1000000000 ^ (ys.length+1)=1000000000 ^ ys.length*1000000000:=Nat.pow_succ ..
 have hcast:(xs[k]:Int)*(Nm.vl 1000000000 ys:Int)=((xs[k]*Nm.vl 1000000000 ys:Nat):Int):=by simp
 rw [hcast] at he
 have h7:=no_carry _ _ carry _ h1 he (by omega) (by omega)
 subst h7
 have hws:Nm.vl 1000000000 ws=Nm.vl 1000000000 (zs.drop k)+xs[k]*Nm.vl 1000000000 ys:=by omega
 refine ⟨by rw [List.length_append,ht,hw];omega,?_,?_⟩
 · intro z hz
   rcases List.mem_append.1 hz with hz | hz
   · exact hzl z (List.mem_of_mem_take hz)
   · exact hwl z hz
 · have e:Nm.vl 1000000000 zs=Nm.vl 1000000000 (zs.take k)+1000000000 ^ k*Nm.vl 1000000000 (zs.drop k):=by
    conv=>lhs;rw [← List.take_append_drop k zs]
    rw [Nm.vl_append,ht]
   rw [Nm.vl_append,ht,hws,Nm.vl_take_succ _ _ _ hk,Nat.add_mul, ← hv,e,Nat.mul_add,Nat.mul_assoc]
   omega
set_option maxRecDepth 100000 in
set_option maxHeartbeats 1600000 in
theorem product_row (g0 off ca:Nat) (ab:Option Addr) (cb:Nat) (xs ys:List Nat) (w:World) (h0:0<xs.length) (hg0:g0<w.heap.size) (ha:Row .u32 w g0 off xs) (hb:Rd .u32 w (.slice ab ys.length cb) ys)
 (hx:∀ x∈xs,x<1000000000) (hy:∀ y∈ys,y<1000000000) (la:xs.length≤1000) (lb:ys.length≤1000) :
 Calls Tryz.prog 132 #[.slice (some ⟨g0,off,none⟩) xs.length ca,.slice ab ys.length cb] w (NatPost (Nm.vl 1000000000 xs*Nm.vl 1000000000 ys) w):=by
 have HA:=Lib.hid ha
 have HB:=Lib.hid hb
 have HX:=Lib.hid hx
 have HY:=Lib.hid hy
 clear ha hb hx hy
 obtain ⟨i0,hi,hz0,hz1,hz2⟩:=info_parts info32
 have HZ2:=Lib.hid hz2
 have HI:=Lib.hid hi
 have HZ0:=Lib.hid hz0
 have HZ1:=Lib.hid hz1
 clear hz2 hi hz0 hz1
 go_enter Tryz.func132,Tryz.ntmps132
 go_wp2_with (refine wpList_make_full _ rfl (.tmp 11) (.tmp 11) 176 rfl w.heap.size 199 i0 (.int .u32 0) 1 Tryz.underlying176 HI.out HZ0.out HZ1.out .i64 .i64 _ _ (xs.length+ys.length) rfl rfl (by simp) (by simp) (by rw [HZ2.out];omega) (by unfold maxLen;omega) (Nat.le_refl _) ?_;intro w1 hown hgrow;refine hold ?_)
 rw [made_zeros] at hown
 obtain ⟨hO,_⟩:=own_of_full (by simp) hown
 have HO:=Lib.hid hO
 have HW:=Lib.hid ((Below.refl w.heap.size w).grown hgrow (Nat.le_refl _) (fun k hk=>by simp at hk))
 clear hown hgrow hO
 refine go_on ?_
 go_wp2
 go_loopw [6,15] (fun i j wr=>∃ (k:Nat) (zs:List Nat),k≤xs.length∧j = .int .i64 k∧Hid (zs.length=k+ys.length)∧Hid (∀ z∈zs,z<1000000000) ∧
  Hid (Nm.vl 1000000000 zs=Nm.vl 1000000000 (xs.take k)*Nm.vl 1000000000 ys)∧Hid (Own .u32 199 wr w.heap.size (zs++List.replicate (xs.length-k) 0))∧Hid (Below w.heap.size w wr)) (fun _ j _=>xs.length-(intOf j).toNat)
 case atStart=>exact ⟨0,List.replicate ys.length 0,by omega,rfl,Lib.hid (by simp),Lib.hid (by intro z hz;rw [List.mem_replicate] at hz;omega),Lib.hid (by rw [Nm.vl_zeros];simp [Nm.vl]),Lib.hid (by rw [List.replicate_append_replicate,Nat.sub_zero,Nat.add_comm];exact HO.out),HW⟩
 case round =>
  obtain ⟨k,zs,hk,rfl,HZL,HZ,HV,HOW,HBL⟩:=hrel
  by_cases hlt:k<xs.length
  · have hlt':(k:Int)<xs.length:=by omega
    have hc1:wr.cell? ⟨g0,off+k,none⟩=some (.int .u32 (xs[k]:Nat)):=(HBL.out.cell (p:=⟨g0,off+k,none⟩) hg0).trans (HA.out k hlt)
    have hx1:=HX.out _ (List.getElem_mem hlt)
    go_wp2
    have e1:IntKind.i64.wrap ((k:Int)+ys.length)=k+ys.length:=IntWalk.i64_in _ (by omega)
    have e2:IntKind.i64.wrap ((k:Int)+ys.length+1)=k+ys.length+1:=IntWalk.i64_in _ (by omega)
    have e3:((k:Int)+ys.length+1).toNat=k+ys.length+1:=by omega
    have e4:(0:Int)≤(k:Int)+ys.length+1:=by omega
    have e5:(k:Int)≤(k:Int)+ys.length+1:=by omega
    have e6:(k:Int)+ys.length+1≤((xs.length+ys.length:Nat):Int):=by omega
    have e7:(k:Int)+ys.length+1≤(xs.length:Int)+ys.length:=by omega
    have e8:IntKind.i64.wrap (xs[k]:Int)=xs[k]:=IntWalk.i64_in _ (by omega)
    go_still_tail 14,(by kernel_rfl)
    change wpList _ _ _ _ _ wr.drew
    rw [if_neg (show ¬ xs.length+ys.length=k by omega),show k+ys.length+1-k=ys.length+1 from by omega]
    clear e1 e2 e3 e4 e5 e6 e7 e8
    have hzk:(zs.take k).length=k:=by rw [List.length_take];have:=HZL.out;omega
    have hwl:(zs.drop k++[0]).length=ys.length+1:=by rw [List.length_append,List.length_drop,List.length_singleton];have:=HZL.out;omega
    have hcall:=addMultiple_any w.heap.size (xs.length+ys.length-k) (zs.take k) (zs.drop k++[0]) (List.replicate (xs.length-k-1) 0) ys (.slice ab ys.length cb) (xs[k]:Int) wr.drew (by omega) (by rw [hwl];omega)
     (by intro z hz;rcases List.mem_append.1 hz with hz | hz;exact HZ.out z (List.mem_of_mem_drop hz);simp at hz;omega) HY.out (by rw [hzk,hwl];omega)
     (by rw [← prod_split zs k ys.length _ HZL.out (by omega)];exact HOW.out) (HB.out.keep HBL.out.drew (Nat.le_refl _)) (Rd.apart HB.out (Nat.le_refl _))
    rw [hzk,hwl] at hcall
    have HCALL:=Lib.hid hcall
    clear hcall hzk
    go_wp2_with fail
    refine HCALL.out.mono ?_
    clear HCALL
    rintro e w2 ⟨ws,carry,rfl,hz1,hz2,hz3,hz4,hz5⟩
    obtain ⟨q1,q2,q3⟩:=prod_step xs ys zs ws k carry hlt HZL.out HX.out HY.out HZ.out HV.out hz1 hz2 hz3
    have HZL':Hid ((zs.take k++ws).length=k+1+ys.length):=Lib.hid q1
    have HZ':=Lib.hid q2
    have HV':=Lib.hid q3
    have HOW':Hid (Own .u32 199 w2 w.heap.size ((zs.take k++ws)++List.replicate (xs.length-(k+1)) 0)):=Lib.hid (by rw [show xs.length-(k+1)=xs.length-k-1 from by omega];exact hz4)
    have HBL':=Lib.hid (HBL.out.drew.trans (hz5.below (Nat.le_refl _)))
    clear hz1 hz2 hz3 hz4 hz5 q1 q2 q3 hwl
    go_wp2
    go_roundw
    case rel=>exact ⟨k+1,zs.take k++ws,by omega,by go_num,HZL',HZ',HV',HOW',HBL'⟩
    case measure=>simp [intOf];omega
  · have hke:k=xs.length:=by omega
    have HV':Hid (Nm.vl 1000000000 zs=Nm.vl 1000000000 xs*Nm.vl 1000000000 ys):=Lib.hid (by have:=HV.out;rwa [hke,List.take_length] at this)
    have HR:Hid (Rd .u32 wr (.slice (some ⟨w.heap.size,0,none⟩) (xs.length+ys.length) (xs.length+ys.length)) zs):=Lib.hid (by
     have h:=HOW.out
     have hl:=HZL.out
     rw [hke,Nat.sub_self,List.replicate_zero,List.append_nil] at h
     have h2:=h.rd (xs.length+ys.length) (xs.length+ys.length) (by omega) (Nat.le_refl _) (by omega)
     rwa [List.take_of_length_le (by omega)] at h2)
    have hge:¬ (k:Int)<xs.length:=by omega
    clear hke
    go_wp2_with fail
    refine (trim_any _ zs HZ.out _ HR.out).mono ?_
    rintro e w3 ⟨⟨v',rfl,hv,hsm⟩,rfl⟩
    rw [HV'.out] at hv
    have HVV:=Lib.hid hv
    have HFR:=Lib.hid (Fr.of_same hsm (Nat.le_refl _))
    clear hv hsm
    go_wp2
    go_ret
    exact ⟨_,rfl,HVV.out,HFR.out,HBL.out⟩
set_option maxRecDepth 100000 in
set_option maxHeartbeats 1600000 in
theorem product_nil (aa:Option Addr) (ca:Nat) (ab:Option Addr) (n cb:Nat) (w:World) (lb:n≤1000) :
 Calls Tryz.prog 132 #[.slice aa 0 ca,.slice ab n cb] w (NatPost 0 w):=by
 obtain ⟨i0,hi,hz0,hz1,hz2⟩:=info_parts info32
 have HZ2:=Lib.hid hz2
 have HI:=Lib.hid hi
 have HZ0:=Lib.hid hz0
 have HZ1:=Lib.hid hz1
 clear hz2 hi hz0 hz1
 go_enter Tryz.func132,Tryz.ntmps132
 go_wp2_with (refine wpList_make_full _ rfl (.tmp 11) (.tmp 11) 176 rfl w.heap.size 199 i0 (.int .u32 0) 1 Tryz.underlying176 HI.out HZ0.out HZ1.out .i64 .i64 _ _ n rfl rfl (by simp) (by simp) (by rw [HZ2.out];omega) (by unfold maxLen;omega) (Nat.le_refl _) ?_;intro w1 hown hgrow;refine hold ?_)
 rw [made_zeros] at hown
 obtain ⟨hO,_⟩:=own_of_full (by simp) hown
 have HO:=Lib.hid hO
 have HW:=Lib.hid ((Below.refl w.heap.size w).grown hgrow (Nat.le_refl _) (fun k hk=>by simp at hk))
 clear hown hgrow hO
 have HR:Hid (Rd .u32 w1 (.slice (some ⟨w.heap.size,0,none⟩) n n) (List.replicate n 0)):=Lib.hid (by
  have h2:=HO.out.rd n n (by simp) (Nat.le_refl _) (by omega)
  rwa [List.take_of_length_le (by simp)] at h2)
 refine go_on ?_
 go_wp2
 refine wp_loop_rounds 1 ?_
 rw [rounds_succ]
 go_wp2_with fail
 refine (trim_any _ (List.replicate n 0) (by intro z hz;rw [List.mem_replicate] at hz;omega) _ HR.out).mono ?_
 rintro e w3 ⟨⟨v',rfl,hv,hsm⟩,rfl⟩
 rw [Nm.vl_zeros] at hv
 have HVV:=Lib.hid hv
 have HFR:=Lib.hid (Fr.of_same hsm (Nat.le_refl _))
 clear hv hsm
 go_wp2
 go_ret
 exact ⟨_,rfl,HVV.out,HFR.out,HW.out⟩
theorem product_any (va vb:Value) (a b:Nat) (w:World) (ha:IsNat w va a) (hb:IsNat w vb b) (la:(Nm.ds 1000000000 a).length≤1000) (lb:(Nm.ds 1000000000 b).length≤1000) :
 Calls Tryz.prog 132 #[va,vb] w (NatPost (a*b) w):=by
 obtain ⟨ab,cb,rfl,_⟩:=id hb
 rcases Rd.cases ha with ⟨h0,aa,ca,rfl,_⟩ | ⟨h0,g0,off,ca,rfl,_,_,hg0,hr⟩
 · have:a=0:=(Nm.ds_eq_nil _ (by omega) a).1 h0
   subst this
   rw [Nat.zero_mul]
   exact product_nil aa ca ab _ cb w lb
 · have h:=product_row g0 off ca ab cb _ _ w h0 hg0 hr hb (Nm.ds_lt _ (by omega) _) (Nm.ds_lt _ (by omega) _) la lb
   rwa [Nm.vl_ds _ (by omega),Nm.vl_ds _ (by omega)] at h
end Go.Proofs.YtkhdocdddicgpaaGreatDoor
set_option linter.unusedVariables false
set_option linter.unusedSimpArgs false
namespace Go.Proofs.YtkhdocdddicgpaaGreatDoor
open Go.RowKit
def sgn (a b:Int):Int:=if a<b then -1 else if b<a then 1 else 0
theorem sgn_lt {a b:Int} (h:a<b):sgn a b = -1:=if_pos h
theorem sgn_gt {a b:Int} (h:b<a):sgn a b=1:=by unfold sgn;rw [if_neg (by omega),if_pos h]
theorem sgn_eq {a b:Int} (h:a=b):sgn a b=0:=by unfold sgn;rw [if_neg (by omega),if_neg (by omega)]
theorem cmpInt_any (a b:Int) (w:World):Calls Tryz.prog 87 #[.int .i64 a,.int .i64 b] w fun e w'=>e = .returned (.int .i64 (sgn a b))∧w=w':=by
 rcases Int.lt_trichotomy a b with h | h | h
 · have H:=Lib.hid (sgn_lt h)
   go_enter Tryz.func87,Tryz.ntmps87
   go_wp2
   go_ret
   exact ⟨by rw [H.out];rfl,rfl⟩
 · have H:=Lib.hid (sgn_eq h)
   subst h
   go_enter Tryz.func87,Tryz.ntmps87
   go_wp2
   go_ret
   exact ⟨by rw [H.out];rfl,rfl⟩
 · have H:=Lib.hid (sgn_gt h)
   go_enter Tryz.func87,Tryz.ntmps87
   go_wp2
   go_ret
   exact ⟨by rw [H.out];rfl,rfl⟩
theorem cmpU32_any (a b:Nat) (w:World):Calls Tryz.prog 174 #[.int .u32 a,.int .u32 b] w fun e w'=>e = .returned (.int .i64 (sgn a b))∧w=w':=by
 rcases Nat.lt_trichotomy a b with h | h | h
 · have H:=Lib.hid (sgn_lt (show (a:Int)<b by omega))
   go_enter Tryz.func174,Tryz.ntmps174
   go_wp2
   go_ret
   exact ⟨by rw [H.out];rfl,rfl⟩
 · have H:=Lib.hid (sgn_eq (show (a:Int)=b by omega))
   subst h
   go_enter Tryz.func174,Tryz.ntmps174
   go_wp2
   go_ret
   exact ⟨by rw [H.out];rfl,rfl⟩
 · have H:=Lib.hid (sgn_gt (show (b:Int)<a by omega))
   have h2:¬ a<b:=by omega
   go_enter Tryz.func174,Tryz.ntmps174
   go_wp2
   go_ret
   exact ⟨by rw [H.out];rfl,rfl⟩
theorem still_more {P:Program} {f:FuncId} {args:Array Value} {w:World} {a n:Nat} {v:Value} (h:Calls P f args (w.drewN (a+n)) fun e w'=>e = .returned v∧w.drewN (a+n)=w') :
 Calls P f args (w.drewN (a+n)) fun e w''=>e = .returned v∧∃ m,w''=w.drewN (a+m):=h.mono fun _ _ ⟨he,hm⟩=>⟨he,n,hm.symm⟩
def CmpPost (r:Int) (w:World) (e:Ending) (w':World):Prop:=e = .returned (.int .i64 r)∧∃ n,w'=w.drewN n
theorem compare_lens (aa ab:Option Addr) (na nb ca cb:Nat) (h:na≠nb) (ha:na≤60000) (hb:nb≤60000) (w:World) :
 Calls Tryz.prog 145 #[.slice aa na ca,.slice ab nb cb] w (CmpPost (sgn na nb) w):=by
 have hn:((na:Int) != nb)=true:=by rw [bne_iff_ne];omega
 go_enter Tryz.func145,Tryz.ntmps145
 go_wp2_with (go_at_call 87;refine (cmpInt_any _ _ _).mono ?_;rintro e w' ⟨rfl,rfl⟩)
 go_ret
 exact ⟨rfl,0,rfl⟩
theorem compare_empty (aa ab:Option Addr) (ca cb:Nat) (w:World) :
 Calls Tryz.prog 145 #[.slice aa 0 ca,.slice ab 0 cb] w (CmpPost 0 w):=by
 go_enter Tryz.func145,Tryz.ntmps145
 go_wp2
 refine wp_loop_rounds 1 ?_
 rw [rounds_succ]
 go_wp2
 go_ret
 exact ⟨rfl,0,rfl⟩
theorem cmp_step (xs ys:List Nat) (p:Nat) (hp:p<xs.length) (hq:p<ys.length) (hd:xs.drop (p+1)=ys.drop (p+1)) (he:xs[p]=ys[p]):xs.drop p=ys.drop p:=by
 rw [List.drop_eq_getElem_cons hp,List.drop_eq_getElem_cons hq,hd,he]
theorem cmp_sgn (xs ys:List Nat) (hx:∀ x∈xs,x<1000000000) (hy:∀ y∈ys,y<1000000000) (p:Nat) (hp:p<xs.length) (hq:p<ys.length) (hd:xs.drop (p+1)=ys.drop (p+1)) (hne:xs[p]≠ys[p]) :
 sgn xs[p] ys[p]=sgn (Nm.vl 1000000000 xs) (Nm.vl 1000000000 ys):=by
 rcases Nat.lt_or_ge xs[p] ys[p] with h | h
 · have:=Nm.vl_lt_at 1000000000 xs ys hx p hp hq hd h
   rw [sgn_lt (by omega),sgn_lt (by omega)]
 · have:=Nm.vl_lt_at 1000000000 ys xs hy p hq hp hd.symm (by omega)
   rw [sgn_gt (by omega),sgn_gt (by omega)]
set_option maxRecDepth 100000 in
set_option maxHeartbeats 1600000 in
theorem compare_rows (g1 o1 c1 g2 o2 c2:Nat) (xs ys:List Nat) (w:World) (hl:ys.length=xs.length) (h0:xs.length≤60000) (hx:∀ x∈xs,x<1000000000) (hy:∀ y∈ys,y<1000000000) (h1:Row .u32 w g1 o1 xs) (h2:Row .u32 w g2 o2 ys) :
 Calls Tryz.prog 145 #[.slice (some ⟨g1,o1,none⟩) xs.length c1,.slice (some ⟨g2,o2,none⟩) xs.length c2] w (CmpPost (sgn (Nm.vl 1000000000 xs) (Nm.vl 1000000000 ys)) w):=by
 have H1:=Lib.hid h1
 have H2:=Lib.hid h2
 have HX:=Lib.hid hx
 have HY:=Lib.hid hy
 have HL:=Lib.hid hl
 clear h1 h2 hx hy hl
 go_enter Tryz.func145,Tryz.ntmps145
 go_wp2
 go_loopw [5,6,19] (fun i p j wr=>∃ k:Nat,k≤xs.length∧j = .int .i64 k∧Hid (xs.drop (xs.length-k)=ys.drop (xs.length-k))∧Hid (∃ n,wr=w.drewN n)) (fun _ _ j _=>xs.length-(intOf j).toNat)
 case atStart=>exact ⟨0,by omega,rfl,Lib.hid (by rw [Nat.sub_zero,List.drop_length,List.drop_of_length_le (by rw [HL.out];exact Nat.le_refl _)]),Lib.hid ⟨0,rfl⟩⟩
 case round =>
  obtain ⟨k,hk,rfl,HD,HQ⟩:=hrel
  obtain ⟨n,rfl⟩:=HQ.out
  clear HQ
  by_cases hlt:k<xs.length
  · have hlt':(k:Int)<xs.length:=by omega
    obtain ⟨p,hp⟩:∃ p:Nat,p=xs.length-1-k:=⟨_,rfl⟩
    have hpl:p<xs.length:=by omega
    have hpy:p<ys.length:=by rw [HL.out];exact hpl
    have hpl':(p:Int)<xs.length:=by omega
    have hpe:(xs.length:Int)-1-k=p:=by omega
    have HP:=Lib.hid (show xs.length-k=p+1 by omega)
    have HP2:=Lib.hid (show xs.length-(k+1)=p by omega)
    clear hp
    have hc1:=H1.out p hpl
    have hc2:=H2.out p hpy
    rw [HP.out] at HD
    by_cases he:xs[p]=ys[p]
    · rw [← he] at hc2
      have hne:((xs[p]:Int) != (xs[p]:Int))=false:=by simp
      have HD':Hid (xs.drop (xs.length-(k+1))=ys.drop (xs.length-(k+1))):=Lib.hid (by rw [HP2.out];exact cmp_step xs ys p hpl hpy HD.out he)
      clear he
      go_wp2
      go_quiet (fail)
      go_wp2
      go_roundw
      case rel=>exact ⟨k+1,by omega,by go_num,HD',Lib.hid ⟨_,rfl⟩⟩
      case measure=>simp [intOf];omega
    · have hne:((xs[p]:Int) != (ys[p]:Int))=true:=by rw [bne_iff_ne];omega
      have HS:=Lib.hid (cmp_sgn xs ys HX.out HY.out p hpl hpy HD.out he)
      clear he
      go_wp2
      go_quiet (fail)
      go_wp2
      go_quiet ((go_at_call 174;exact still_more (cmpU32_any _ _ _)))
      go_wp2
      go_ret
      exact ⟨by rw [← HS.out];rfl,_,by rw [World.drewN_drewN,World.drewN_drewN]⟩
  · have hke:k=xs.length:=by omega
    have HS:Hid (sgn (Nm.vl 1000000000 xs) (Nm.vl 1000000000 ys)=0):=Lib.hid (by
     have:=HD.out
     rw [hke,Nat.sub_self,List.drop_zero,List.drop_zero] at this
     rw [this]
     exact sgn_eq rfl)
    clear hke
    go_wp2
    go_ret
    exact ⟨by rw [HS.out];rfl,n,rfl⟩
theorem compare_any (va vb:Value) (a b:Nat) (w:World) (ha:IsNat w va a) (hb:IsNat w vb b) :
 Calls Tryz.prog 145 #[va,vb] w (CmpPost (sgn a b) w):=by
 have la:=Rd.length ha
 have lb:=Rd.length hb
 by_cases hl:(Nm.ds 1000000000 a).length=(Nm.ds 1000000000 b).length
 · rcases Rd.cases ha with ⟨h0,aa,ca,rfl,_⟩ | ⟨h0,g1,o1,c1,rfl,_,_,_,hr1⟩
   · rcases Rd.cases hb with ⟨h0',ab,cb,rfl,_⟩ | ⟨h0',g2,o2,c2,rfl,_,_,_,hr2⟩
     · have e1:=(Nm.ds_eq_nil _ (by omega) a).1 h0
       have e2:=(Nm.ds_eq_nil _ (by omega) b).1 h0'
       rw [sgn_eq (by omega)]
       exact compare_empty aa ab ca cb w
     · rw [h0,List.length_nil] at hl;omega
   · rcases Rd.cases hb with ⟨h0',ab,cb,rfl,_⟩ | ⟨h0',g2,o2,c2,rfl,_,_,_,hr2⟩
     · rw [h0',List.length_nil] at hl;omega
     · have h:=compare_rows g1 o1 c1 g2 o2 c2 _ _ w hl.symm la (Nm.ds_lt _ (by omega) a) (Nm.ds_lt _ (by omega) b) hr1 hr2
       rw [Nm.vl_ds _ (by omega),Nm.vl_ds _ (by omega)] at h
       rwa [hl] at h ⊢
 · obtain ⟨aa,ca,rfl,_⟩:=id ha
   obtain ⟨ab,cb,rfl,_⟩:=id hb
   have h:=compare_lens aa ab _ _ ca cb hl la lb w
   have e:sgn ((Nm.ds 1000000000 a).length:Int) ((Nm.ds 1000000000 b).length:Int)=sgn a b:=by
    rcases Nat.lt_or_ge (Nm.ds 1000000000 a).length (Nm.ds 1000000000 b).length with h1 | h1
    · have:=Nm.length_lt 1000000000 (by omega) a b h1
      rw [sgn_lt (by omega),sgn_lt (by omega)]
    · have:=Nm.length_lt 1000000000 (by omega) b a (by omega)
      rw [sgn_gt (by omega),sgn_gt (by omega)]
   rwa [e] at h
end Go.Proofs.YtkhdocdddicgpaaGreatDoor
