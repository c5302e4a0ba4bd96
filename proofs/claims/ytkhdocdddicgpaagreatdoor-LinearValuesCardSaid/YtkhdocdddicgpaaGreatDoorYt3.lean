/- Part 3: what the law's walk leans on. -/
import Derived.Test.YtkhdocdddicgpaaGreatDoorYt1
import Derived.Test.YtkhdocdddicgpaaGreatDoorYt2
import Derived.Deep.RegionHeld3
set_option linter.unusedVariables false
set_option linter.unusedSimpArgs false
namespace Go.Proofs.YtkhdocdddicgpaaGreatDoor
open Go.RowKit
def Kept (P:Nat→Prop) (w w':World):Prop:=w.heap.size≤w'.heap.size∧∀ k,k<w.heap.size→P k→w'.heap[k]?=w.heap[k]?
theorem Kept.trans {P:Nat→Prop} {a b c:World} (h:Kept P a b) (k:Kept P b c):Kept P a c :=
 ⟨Nat.le_trans h.1 k.1,fun i hi hp=>(k.2 i (Nat.lt_of_lt_of_le hi h.1) hp).trans (h.2 i hi hp)⟩
theorem Kept.below {P:Nat→Prop} {B:Nat} {w w':World} (h:Below B w w') (hB:∀ k,k<w.heap.size→P k→k<B):Kept P w w':=⟨h.size,fun k hk hp=>h.block k (hB k hk hp)⟩
theorem Kept.all {P:Nat→Prop} {w w':World} (h:Below w.heap.size w w'):Kept P w w' := .below h fun _ hk _=>hk
theorem Kept.only {P:Nat→Prop} {b:Nat} {w w':World} (h:Only b w w') (hb:¬ P b):Kept P w w':=⟨by rw [h.size];exact Nat.le_refl _,fun k _ hp=>h.block k (fun e=>hb (e ▸ hp))⟩
theorem Kept.set {P:Nat→Prop} (w:World) (b i:Nat) (u:Value) (hb:¬ P b):Kept P w (w.setCell ⟨b,i,none⟩ u) := .only ((Only.refl b w).set i u) hb
theorem Kept.alloc (P:Nat→Prop) (w:World) (x:Obj):Kept P w (w.alloc x) := .all ((Below.refl _ _).alloc (Nat.le_refl _) x)
theorem Kept.drew (P:Nat→Prop) (w:World):Kept P w w.drew:=⟨Nat.le_refl _,fun _ _ _=>rfl⟩
theorem Kept.drewN (P:Nat→Prop) (w:World) (n:Nat):Kept P w (w.drewN n):=⟨Nat.le_refl _,fun _ _ _=>rfl⟩
def In (P:Nat→Prop) (v:Value):Prop:=∀ (ad:Addr) (n c:Nat),v = .slice (some ad) n c→0<n→P ad.block
theorem In.mono {P Q:Nat→Prop} {v:Value} (h:In P v) (hq:∀ k,P k→Q k):In Q v:=fun ad n c e hn=>hq _ (h ad n c e hn)
theorem In.fresh {P:Nat→Prop} {B:Nat} {v:Value} (h:Fr B v) (hP:∀ k,B≤k→P k):In P v:=fun ad n c e hn=>hP _ (h ad n c e hn)
theorem Rd.kept {P:Nat→Prop} {k:IntKind} {w w':World} {v:Value} {xs:List Nat} (h:Rd k w v xs) (hi:In P v) (hk:Kept P w w'):Rd k w' v xs:=by
 obtain ⟨a,c,rfl,h1,h2,h3⟩:=h
 refine ⟨a,c,rfl,h1,h2,fun hx => ?_⟩
 obtain ⟨g,off,rfl,h4,h5⟩:=h3 hx
 have hp:P g:=hi _ _ _ rfl (List.length_pos_iff.2 hx)
 exact ⟨g,off,rfl,Nat.lt_of_lt_of_le h4 hk.1,fun i hi=>(World.cell?_of_block (w:=w) (hk.2 g h4 hp)).trans (h5 i hi)⟩
def isNeg (z:Int):Bool:=decide (z<0)
def Far (P:Nat→Prop) (w:World) (g:Nat) (neg:Bool) (sv:Value) (n:Nat):Prop :=
 g<w.heap.size∧P g∧In P sv∧w.heap[g]?=some (.cells #[.bool neg,sv] 196 (0,0))∧IsNat w sv n
def IsInt (P:Nat→Prop) (w:World) (v:Value) (z:Int):Prop :=
 (z.natAbs<1000000000000000000∧v = .agg #[.int .i64 z,.pointer none]) ∨
 (1000000000000000000≤z.natAbs∧∃ g sv,v = .agg #[.int .i64 0,.pointer (some ⟨g,0,none⟩)]∧Far P w g (isNeg z) sv z.natAbs)
theorem Far.kept {P:Nat→Prop} {w w':World} {g n:Nat} {neg:Bool} {sv:Value} (h:Far P w g neg sv n) (hk:Kept P w w'):Far P w' g neg sv n:=by
 obtain ⟨h1,h2,h3,h4,h5⟩:=h
 exact ⟨Nat.lt_of_lt_of_le h1 hk.1,h2,h3,(hk.2 g h1 h2).trans h4,Rd.kept h5 h3 hk⟩
theorem Far.cells {P:Nat→Prop} {w:World} {g n:Nat} {neg:Bool} {sv:Value} (h:Far P w g neg sv n):w.cell? ⟨g,0,none⟩=some (.bool neg)∧w.cell? ⟨g,1,none⟩=some sv:=by
 obtain ⟨_,_,_,h4,_⟩:=h
 simp [World.cell?,h4]
theorem IsInt.kept {P:Nat→Prop} {w w':World} {v:Value} {z:Int} (h:IsInt P w v z) (hk:Kept P w w'):IsInt P w' v z:=by
 rcases h with h | ⟨h1,g,sv,rfl,h2⟩
 · exact .inl h
 · exact .inr ⟨h1,g,sv,rfl,h2.kept hk⟩
theorem In.lt {P:Nat→Prop} {w:World} {v:Value} {n:Nat} (h:In P v) (hn:IsNat w v n):In (fun k=>P k∧k<w.heap.size) v:=by
 intro ad m c e hm
 refine ⟨h ad m c e hm,?_⟩
 obtain ⟨a,c',e2,_,_,h3⟩:=hn
 subst e
 simp only [Value.slice.injEq] at e2
 obtain ⟨rfl,rfl,rfl⟩:=e2
 obtain ⟨g,off,e3,hg,_⟩:=h3 (by rintro h;rw [h] at hm;simp at hm)
 cases e3
 exact hg
theorem Far.mono {P Q:Nat→Prop} {w:World} {g n:Nat} {neg:Bool} {sv:Value} (h:Far P w g neg sv n) (hq:∀ k,k<w.heap.size→P k→Q k):Far Q w g neg sv n:=by
 obtain ⟨h1,h2,h3,h4,h5⟩:=h
 exact ⟨h1,hq g h1 h2,(h3.lt h5).mono (fun k hk=>hq k hk.2 hk.1),h4,h5⟩
theorem IsInt.mono {P Q:Nat→Prop} {w:World} {v:Value} {z:Int} (h:IsInt P w v z) (hq:∀ k,k<w.heap.size→P k→Q k):IsInt Q w v z:=by
 rcases h with h | ⟨h1,g,sv,rfl,h2⟩
 · exact .inl h
 · exact .inr ⟨h1,g,sv,rfl,h2.mono hq⟩
theorem IsInt.form {P:Nat→Prop} {w:World} {v:Value} {z:Int} (h:IsInt P w v z):∃ s p,v = .agg #[.int .i64 s,.pointer p]:=by
 rcases h with ⟨_,rfl⟩ | ⟨_,g,sv,rfl,_⟩
 · exact ⟨_,_,rfl⟩
 · exact ⟨_,_,rfl⟩
theorem IsNat.slice {w:World} {v:Value} {n:Nat} (h:IsNat w v n):∃ a m c,v = .slice a m c:=by
 obtain ⟨a,c,rfl,_⟩:=h
 exact ⟨a,_,c,rfl⟩
def IntPost (P:Nat→Prop) (z:Int) (w:World) (e:Ending) (w':World):Prop:=∃ v,e = .returned v∧IsInt P w' v z∧Below w.heap.size w w'
theorem limbs_two (n:Nat):decide (2<(Nm.ds 1000000000 n).length)=decide (1000000000000000000≤n):=by
 by_cases h:1000000000000000000≤n
 · have:=Nm.ds_length_ge 1000000000 (by omega) n 2 (by omega)
   simp [h];omega
 · have:=Nm.ds_length_le 1000000000 (by omega) n 2 (by omega)
   simp [h];omega
end Go.Proofs.YtkhdocdddicgpaaGreatDoor
set_option linter.unusedVariables false
set_option linter.unusedSimpArgs false
namespace Go.Proofs.YtkhdocdddicgpaaGreatDoor
open Go.RowKit
theorem magnitude_any (n:Int) (hn : -9223372036854775808≤n) (hn2:n≤9223372036854775807) (w:World) :
 Calls Tryz.prog 129 #[.int .i64 n] w fun e w'=>e = .returned (.int .u64 (n.natAbs:Int))∧w=w':=by
 by_cases h:n<0
 · have H:Hid (IntKind.u64.wrap (-IntKind.u64.wrap n)=(n.natAbs:Int)):=Lib.hid (by simp [IntKind.wrap,IntKind.bits,IntKind.signed];omega)
   go_enter Tryz.func129,Tryz.ntmps129
   go_wp2
   go_ret
   exact ⟨by rw [← H.out];rfl,rfl⟩
 · have H:Hid (n=(n.natAbs:Int)):=Lib.hid (by omega)
   go_enter Tryz.func129,Tryz.ntmps129
   go_wp2
   go_ret
   exact ⟨by rw [← H.out];rfl,rfl⟩
theorem own_three (k:IntKind) (t:TypeId) (w:World) (a b c:Nat):Own k t (w.alloc (.cells #[.int k (a:Nat),.int k (b:Nat),.int k (c:Nat)] t)) w.heap.size [a,b,c]:=by
 unfold Own
 rw [heap_alloc_new]
 rfl
theorem three_limbs (u:Nat) (hu:u<18446744073709551616):Nm.vl 1000000000 [u%1000000000,u/1000000000%1000000000,u/1000000000/1000000000]=u∧∀ x∈[u%1000000000,u/1000000000%1000000000,u/1000000000/1000000000],x<1000000000:=by
 refine ⟨by simp [Nm.vl];omega,?_⟩
 intro x hx
 simp at hx
 omega
theorem naturalOf_any (u:Nat) (hu:u<18446744073709551616) (w:World) :
 Calls Tryz.prog 155 #[.int .u64 u] w (NatPost u w):=by
 have HL:=Lib.hid (three_limbs u hu)
 go_enter Tryz.func155,Tryz.ntmps155
 go_wp2_with fail
 have HO:=Lib.hid (own_three .u32 199 w (u%1000000000) (u/1000000000%1000000000) (u/1000000000/1000000000))
 have HB:=Lib.hid ((Below.refl w.heap.size w).alloc (Nat.le_refl _) (.cells #[.int .u32 ((u%1000000000:Nat):Int),.int .u32 ((u/1000000000%1000000000:Nat):Int),.int .u32 ((u/1000000000/1000000000:Nat):Int)] 199))
 refine (trim_any _ [u%1000000000,u/1000000000%1000000000,u/1000000000/1000000000] HL.out.2 _ (by exact HO.out.rd 3 3 (by simp) (by omega) (by omega))).mono ?_
 rintro e w1 ⟨⟨v',rfl,hv,hsm⟩,rfl⟩
 rw [HL.out.1] at hv
 have HV:=Lib.hid hv
 have HFR:=Lib.hid (Fr.of_same hsm (Nat.le_refl _))
 clear hv hsm
 go_wp2
 go_ret
 exact ⟨_,rfl,HV.out,HFR.out,HB.out⟩
def sz (neg:Bool) (n:Nat):Int:=if neg then -(n:Int) else n
theorem sz_abs (neg:Bool) (n:Nat):(sz neg n).natAbs=n:=by unfold sz;split <;> omega
theorem sz_neg (neg:Bool) (n:Nat) (h:0<n):isNeg (sz neg n)=neg:=by
 unfold sz isNeg
 cases neg <;> simp <;> omega
theorem second_new (w:World) (x y:Obj):((w.alloc x).alloc y).heap[w.heap.size+1]?=some y:=by
 have:=heap_alloc_new (w.alloc x) y
 rwa [World.size_alloc] at this
set_option maxRecDepth 100000 in
set_option maxHeartbeats 800000 in
theorem signed_any (P:Nat→Prop) (neg:Bool) (v:Value) (n:Nat) (w:World) (hP:∀ k,w.heap.size≤k→P k) (h:IsNat w v n) (hi:In P v) :
 Calls Tryz.prog 130 #[.bool neg,v] w (IntPost P (sz neg n) w):=by
 obtain ⟨a,c,rfl,_⟩:=id h
 obtain ⟨m,hm⟩:∃ m,m=(Nm.ds 1000000000 n).length:=⟨_,rfl⟩
 rw [← hm] at h hi ⊢
 have ht:=limbs_two n
 rw [← hm] at ht
 have HN:=Lib.hid h
 have HI:=Lib.hid hi
 have HM:=Lib.hid hm
 clear h hi hm
 by_cases hl:1000000000000000000≤n
 · have hd:decide ((2:Int)<m)=true:=by rw [decide_eq_true hl,decide_eq_true_eq] at ht;simp;omega
   clear ht
   go_enter Tryz.func130,Tryz.ntmps130
   go_wp2
   refine bodyPost_ret (v := .agg #[.int .i64 0,.pointer (some ⟨w.heap.size+1,0,none⟩)]) (by simp [results,Tryz.results130,go_sem]) rfl ?_
   have hb:Below w.heap.size w ((w.alloc (.cells #[.int .i64 0,.pointer (some ⟨w.heap.size+1,0,none⟩)] 107)).alloc (.cells #[.bool neg,.slice a m c] 196)):=((Below.refl _ _).alloc (Nat.le_refl _) _).alloc (by simp) _
   refine ⟨_,rfl,.inr ⟨by rw [sz_abs];exact hl,w.heap.size+1,_,rfl,by simp,hP _ (by omega),HI.out,?_,?_⟩,hb⟩
   · rw [sz_neg neg n (by omega)];exact second_new _ _ _
   · rw [sz_abs];exact HN.out.keep hb (Nat.le_refl _)
 · have ht2:m≤2:=by rw [decide_eq_false hl,decide_eq_false_iff_not] at ht;omega
   have hd:decide ((2:Int)<m)=false:=by simp;omega
   clear ht
   cases neg
   · go_enter Tryz.func130,Tryz.ntmps130
     go_wp2_with fail
     refine (word_any _ n _ (by exact HN.out.keep ((Below.refl _ _).alloc (Nat.le_refl _) _) (Nat.le_refl _)) (by rw [← HM.out];exact ht2)).mono ?_
     rintro e w1 ⟨rfl,rfl⟩
     go_wp2
     refine bodyPost_ret (v := .agg #[.int .i64 n,.pointer none]) (by simp [results,Tryz.results130,go_sem]) rfl ?_
     exact ⟨_,rfl,.inl ⟨by rw [sz_abs];omega,rfl⟩,(Below.refl _ _).alloc (Nat.le_refl _) _⟩
   · go_enter Tryz.func130,Tryz.ntmps130
     go_wp2_with fail
     refine (word_any _ n _ (by exact HN.out.keep ((Below.refl _ _).alloc (Nat.le_refl _) _) (Nat.le_refl _)) (by rw [← HM.out];exact ht2)).mono ?_
     rintro e w1 ⟨rfl,rfl⟩
     go_wp2
     refine bodyPost_ret (v := .agg #[.int .i64 (-(n:Int)),.pointer none]) (by simp [results,Tryz.results130,go_sem]) rfl ?_
     exact ⟨_,rfl,.inl ⟨by rw [sz_abs];omega,rfl⟩,(Below.refl _ _).alloc (Nat.le_refl _) _⟩
end Go.Proofs.YtkhdocdddicgpaaGreatDoor
set_option linter.unusedVariables false
set_option linter.unusedSimpArgs false
namespace Go.Proofs.YtkhdocdddicgpaaGreatDoor
open Go.RowKit
def sg (z:Int):Int:=if z<0 then -1 else if 0<z then 1 else 0
set_option maxHeartbeats 800000 in
theorem isNaN64 (n:Int) (w:World):Calls Tryz.prog 187 #[.int .i64 n] w fun e w'=>e = .returned (.bool false)∧w=w':=by
 have hd:(n==n)=true:=by simp
 go_enter Tryz.func187,Tryz.ntmps187
 go_wp2
 go_ret
 exact ⟨rfl,rfl⟩
def sgn2 (a b:Int):Int:=if a<b then -1 else if b<a then 1 else 0
set_option maxHeartbeats 800000 in
theorem compare64 (a b:Int) (w:World):Calls Tryz.prog 154 #[.int .i64 a,.int .i64 b] w fun e w'=>e = .returned (.int .i64 (sgn2 a b))∧w=w':=by
 unfold sgn2
 by_cases h1:a<b
 · rw [if_pos h1]
   go_enter Tryz.func154,Tryz.ntmps154
   go_wp2_with (go_at_call 187;refine (isNaN64 _ _).mono ?_;rintro e w' ⟨rfl,rfl⟩)
   go_ret
   exact ⟨rfl,rfl⟩
 · rw [if_neg h1]
   by_cases h2:b<a
   · rw [if_pos h2]
     go_enter Tryz.func154,Tryz.ntmps154
     go_wp2_with (go_at_call 187;refine (isNaN64 _ _).mono ?_;rintro e w' ⟨rfl,rfl⟩)
     go_ret
     exact ⟨rfl,rfl⟩
   · rw [if_neg h2]
     go_enter Tryz.func154,Tryz.ntmps154
     go_wp2_with (go_at_call 187;refine (isNaN64 _ _).mono ?_;rintro e w' ⟨rfl,rfl⟩)
     go_ret
     exact ⟨rfl,rfl⟩
set_option maxRecDepth 100000 in
set_option maxHeartbeats 800000 in
theorem Sign_any (P:Nat→Prop) (x:Value) (z:Int) (w:World) (h:IsInt P w x z) :
 Calls Tryz.prog 141 #[x] w fun e w'=>e = .returned (.int .i64 (sg z))∧Below w.heap.size w w':=by
 rcases h with ⟨h1,rfl⟩ | ⟨h1,g,sv,rfl,h2⟩
 · have HS:Hid (sgn2 z 0=sg z):=Lib.hid rfl
   go_enter Tryz.func141,Tryz.ntmps141
   go_wp2_with (go_at_call 154;refine (compare64 _ _ _).mono ?_;rintro e w' ⟨rfl,rfl⟩)
   go_ret
   exact ⟨by rw [← HS.out];rfl,(Below.refl _ _).alloc (Nat.le_refl _) _⟩
 · have hc:=h2.cells
   have hg:=h2.1
   obtain ⟨c0,c1⟩:=hc
   clear h2
   by_cases hz:z<0
   · have HS:Hid (sg z = -1):=Lib.hid (by unfold sg;rw [if_pos hz])
     rw [show isNeg z=true from by simp [isNeg,hz]] at c0
     go_enter Tryz.func141,Tryz.ntmps141
     go_wp2
     go_ret
     exact ⟨by rw [HS.out];rfl,(Below.refl _ _).alloc (Nat.le_refl _) _⟩
   · have HS:Hid (sg z=1):=Lib.hid (by unfold sg;rw [if_neg hz,if_pos (by omega)])
     rw [show isNeg z=false from by simp [isNeg,hz]] at c0
     go_enter Tryz.func141,Tryz.ntmps141
     go_wp2
     go_ret
     exact ⟨by rw [HS.out];rfl,(Below.refl _ _).alloc (Nat.le_refl _) _⟩
def Bx (w:World) (g:Nat) (x y:Value):Prop:=∃ T,w.heap[g]?=some (.cells #[x,y] T (0,0))
theorem Bx.cell {w:World} {g:Nat} {x y:Value} (h:Bx w g x y):w.cell? ⟨g,0,none⟩=some x∧w.cell? ⟨g,1,none⟩=some y∧w.frozen? ⟨g,0,none⟩=false∧w.frozen? ⟨g,1,none⟩=false:=by
 obtain ⟨T,h⟩:=h
 simp [World.cell?,World.frozen?,h]
theorem Bx.lt {w:World} {g:Nat} {x y:Value} (h:Bx w g x y):g<w.heap.size:=by
 obtain ⟨T,h⟩:=h
 rcases Nat.lt_or_ge g w.heap.size with h' | h'
 · exact h'
 · simp [Array.getElem?_eq_none h'] at h
theorem Bx.below {w w':World} {g B:Nat} {x y:Value} (h:Bx w g x y) (hb:Below B w w') (hg:g<B):Bx w' g x y:=by
 obtain ⟨T,h⟩:=h
 exact ⟨T,by rw [hb.block g hg];exact h⟩
theorem Bx.only {w w':World} {g b:Nat} {x y:Value} (h:Bx w g x y) (hb:Only b w w') (hg:g≠b):Bx w' g x y:=by
 obtain ⟨T,h⟩:=h
 exact ⟨T,by rw [hb.block g hg];exact h⟩
theorem Bx.new (w:World) (x y:Value) (T:TypeId):Bx (w.alloc (.cells #[x,y] T)) w.heap.size x y:=⟨T,heap_alloc_new _ _⟩
theorem Bx.alloc {w:World} {g:Nat} {x y:Value} (h:Bx w g x y) (o:Obj):Bx (w.alloc o) g x y:=h.below ((Below.refl _ _).alloc (Nat.le_refl _) o) h.lt
theorem Bx.drew {w:World} {g:Nat} {x y:Value} (h:Bx w g x y):Bx w.drew g x y:=h
theorem Bx.drewN {w:World} {g:Nat} {x y:Value} (h:Bx w g x y) (n:Nat):Bx (w.drewN n) g x y:=h
set_option maxRecDepth 100000 in
set_option maxHeartbeats 800000 in
theorem isNegative_any (P:Nat→Prop) (x:Value) (z:Int) (w:World) (h:IsInt P w x z) :
 Calls Tryz.prog 131 #[x] w fun e w'=>e = .returned (.bool (isNeg z))∧Below w.heap.size w w':=by
 obtain ⟨s,p,rfl⟩:=h.form
 have H:=Lib.hid h
 clear h
 by_cases hz:z<0
 · have HS:Hid (sg z = -1):=Lib.hid (by unfold sg;rw [if_pos hz])
   have HN:Hid (isNeg z=true):=Lib.hid (by simp [isNeg,hz])
   clear hz
   go_enter Tryz.func131,Tryz.ntmps131
   go_wp2_with fail
   refine (Sign_any P _ z _ (H.out.kept (.alloc _ _ _))).mono ?_
   rintro e w1 ⟨rfl,hb⟩
   rw [HS.out]
   have HB:=Lib.hid (((Below.refl w.heap.size w).alloc (Nat.le_refl _) _).trans (hb.mono (by simp)))
   clear hb
   go_wp2
   go_ret
   exact ⟨by rw [HN.out];rfl,HB.out⟩
 · obtain ⟨r,hr,hr0⟩:∃ r:Int,sg z=r∧0≤r:=⟨_,rfl,by unfold sg;split <;> (try split) <;> omega⟩
   have HS:=Lib.hid hr
   have HN:Hid (isNeg z=false):=Lib.hid (by simp [isNeg,hz])
   have hr1:decide (r<0)=false:=by simp;omega
   clear hz hr
   go_enter Tryz.func131,Tryz.ntmps131
   go_wp2_with fail
   refine (Sign_any P _ z _ (H.out.kept (.alloc _ _ _))).mono ?_
   rintro e w1 ⟨rfl,hb⟩
   rw [HS.out]
   have HB:=Lib.hid (((Below.refl w.heap.size w).alloc (Nat.le_refl _) _).trans (hb.mono (by simp)))
   clear hb
   go_wp2
   go_ret
   exact ⟨by rw [HN.out];rfl,HB.out⟩
def SizePost (P:Nat→Prop) (n:Nat) (w:World) (e:Ending) (w':World):Prop:=∃ v,e = .returned v∧IsNat w' v n∧In P v∧Below w.heap.size w w'
set_option maxRecDepth 100000 in
set_option maxHeartbeats 800000 in
theorem limbs_any (P:Nat→Prop) (x:Value) (z:Int) (w:World) (hP:∀ k,w.heap.size≤k→P k) (h:IsInt P w x z) :
 Calls Tryz.prog 133 #[x] w (SizePost P z.natAbs w):=by
 rcases h with ⟨h1,rfl⟩ | ⟨h1,g,sv,rfl,h2⟩
 · have hz1 : -9223372036854775808≤z:=by omega
   have hz2:z≤9223372036854775807:=by omega
   go_enter Tryz.func133,Tryz.ntmps133
   go_wp2_with fail
   refine (magnitude_any z hz1 hz2 _).mono ?_
   rintro e w1 ⟨rfl,rfl⟩
   obtain ⟨n,hn⟩:∃ n:Nat,n=z.natAbs:=⟨_,rfl⟩
   rw [← hn]
   have hn2:n<18446744073709551616:=by omega
   have HN:=Lib.hid hn
   clear hn
   go_wp2_with fail
   refine (naturalOf_any n hn2 _).mono ?_
   rintro e w1 ⟨v,rfl,hv,hf,hb⟩
   have HV:=Lib.hid hv
   have HF:=Lib.hid hf
   have HB:=Lib.hid (((Below.refl w.heap.size w).alloc (Nat.le_refl _) _).trans (hb.mono (by simp)))
   clear hv hf hb
   go_wp2
   go_ret
   exact ⟨v,rfl,by rw [← HN.out];exact HV.out,In.fresh HF.out (fun k hk=>hP k (by simp at hk;omega)),HB.out⟩
 · obtain ⟨a,m,c,rfl⟩:=h2.2.2.2.2.slice
   have hc:=h2.cells
   have hg:=h2.1
   have HF:=Lib.hid h2
   obtain ⟨c0,c1⟩:=hc
   clear h2
   go_enter Tryz.func133,Tryz.ntmps133
   go_wp2
   go_ret
   have hb:=(Below.refl w.heap.size w).alloc (Nat.le_refl _) (.cells #[.int .i64 0,.pointer (some ⟨g,0,none⟩)] 107)
   exact ⟨_,rfl,HF.out.2.2.2.2.keep hb (Nat.le_refl _),HF.out.2.2.1,hb⟩
theorem sz_self (z:Int):sz (isNeg z) z.natAbs=z:=by unfold sz isNeg;by_cases h:z<0 <;> simp [h] <;> omega
theorem sz_not (z:Int):sz (!isNeg z) z.natAbs = -z:=by unfold sz isNeg;by_cases h:z<0 <;> simp [h] <;> omega
theorem IntPost.boxed {P:Nat→Prop} {z:Int} {w w1:World} {v x y:Value} {g:Nat} (hb:Below w.heap.size w w1) (hg:w.heap.size≤g) (hn:IsInt (fun k=>P k∧k≠g) w1 v z) :
 IntPost P z w (.returned v) ((w1.setCell ⟨g,0,none⟩ x).setCell ⟨g,1,none⟩ y):=by
 have ho:Only g w1 ((w1.setCell ⟨g,0,none⟩ x).setCell ⟨g,1,none⟩ y):=((Only.refl g w1).set 0 x).set 1 y
 exact ⟨v,rfl,(hn.kept (.only ho (fun h=>h.2 rfl))).mono (fun k _ hk=>hk.1),hb.trans (ho.below hg)⟩
theorem boxes2 (w:World) (x y:Obj):Below w.heap.size w ((w.alloc x).alloc y):=((Below.refl _ _).alloc (Nat.le_refl _) _).alloc (by simp) _
theorem second_box (w:World) (o:Obj) (x y:Value) (T:TypeId) (u:Unit):Bx ((w.alloc o).alloc (.cells #[x,y] T)) (w.heap.size+1) x y:=⟨T,second_new _ _ _⟩
theorem old_two (w:World) (x y:Obj) (g o:Nat) (hg:g<w.heap.size) {v:Value} (h:w.cell? ⟨g,o,none⟩=some v):((w.alloc x).alloc y).drew.cell? ⟨g,o,none⟩=some v :=
 ((boxes2 w x y).drew.cell (p:=⟨g,o,none⟩) hg).trans h
theorem cell_set2 (w:World) (g:Nat) (x y:Value) (b o:Nat) (h:b≠g):((w.setCell ⟨g,0,none⟩ x).setCell ⟨g,1,none⟩ y).cell? ⟨b,o,none⟩=w.cell? ⟨b,o,none⟩ :=
 (((Only.refl g w).set 0 x).set 1 y).cell b o h
set_option maxRecDepth 100000 in
set_option maxHeartbeats 1600000 in
theorem Negated_any (P:Nat→Prop) (x:Value) (z:Int) (w:World) (hP:∀ k,w.heap.size≤k→P k) (h:IsInt P w x z) :
 Calls Tryz.prog 200 #[x] w (IntPost P (-z) w):=by
 rcases h with ⟨h1,rfl⟩ | ⟨h1,g,sv,rfl,h2⟩
 · have hz1 : -9223372036854775808 ≤ -z:=by omega
   have hz2 : -z≤9223372036854775807:=by omega
   go_enter Tryz.func200,Tryz.ntmps200
   go_wp2
   refine bodyPost_ret (v := .agg #[.int .i64 (-z),.pointer none]) (by simp [results,Tryz.results200,go_sem]) rfl ?_
   exact ⟨_,rfl,.inl ⟨by omega,rfl⟩,((Below.refl _ _).alloc (Nat.le_refl _) _).alloc (by simp) _⟩
 · obtain ⟨a,m,c,rfl⟩:=h2.2.2.2.2.slice
   have hc:=h2.cells
   have hg:=h2.1
   have HF:=Lib.hid h2
   obtain ⟨c0,c1⟩:=hc
   have HZ:=Lib.hid (sz_not z)
   clear h2
   generalize isNeg z=neg at *
   go_enter Tryz.func200,Tryz.ntmps200
   have HQ:Hid (Far (fun k=>P k∧k≠w.heap.size+1) w g neg (.slice a m c) z.natAbs):=Lib.hid (HF.out.mono (fun k hk hp=>⟨hp,by omega⟩))
   go_wp2_with fail
   have HK:Hid (∀ k,w.heap.size+2≤k→P k∧k≠w.heap.size+1):=Lib.hid (fun k hk=>⟨hP k (by omega),by omega⟩)
   go_region_held3 (fun w'=>w'.cell? ⟨w.heap.size,1,none⟩=some (.pointer (some ⟨g,0,none⟩))∧w'.cell? ⟨g,0,none⟩=some (.bool neg)∧w'.cell? ⟨g,1,none⟩=some (.slice a m c))
    (first | ((try dsimp only);(repeat' apply And.intro);all_goals (first | assumption | (rw [cell_set2 _ _ _ _ _ _ (by omega)];assumption))) | go_keep)
    ((go_at_call 130;refine (signed_any (fun k=>P k∧k≠w.heap.size+1) _ _ z.natAbs _ (by intro k hk;exact HK.out k (Nat.le_trans (by simp) hk)) (by exact HQ.out.2.2.2.2.keep (boxes2 w _ _).drew (Nat.le_refl _)) (by exact HQ.out.2.2.1)).mono ?_;rintro e w2 ⟨v,rfl,hv,hbel⟩;obtain ⟨s,p,rfl⟩:=hv.form;obtain ⟨q0,q1,q2,q3⟩:=(((Bx.new w _ _ _).alloc _).drew.below hbel (by simp;omega)).cell;obtain ⟨r0,r1,r2,r3⟩:=((second_box w _ _ _ _ ()).drew.below hbel (by simp)).cell;have k0:=(hbel.cell (p:=⟨g,0,none⟩) (by simp;omega)).trans (old_two w _ _ g 0 hg c0);have k1:=(hbel.cell (p:=⟨g,1,none⟩) (by simp;omega)).trans (old_two w _ _ g 1 hg c1)))
   rw [HZ.out] at hv
   have HV:=Lib.hid hv
   have HB:=Lib.hid ((boxes2 w (.cells #[.int .i64 0,.pointer (some ⟨g,0,none⟩)] 107) (.cells #[.int .i64 0,.pointer none] 107)).drew.trans (hbel.mono (by simp;omega)))
   clear hv hbel k0 k1 q0 q1 q2 q3
   go_wp2
   refine bodyPost_ret (v := .agg #[.int .i64 s,.pointer p]) (by simp [results,Tryz.results200,go_sem,r0,r1]) rfl ?_
   exact IntPost.boxed HB.out (by omega) HV.out
end Go.Proofs.YtkhdocdddicgpaaGreatDoor
set_option linter.unusedVariables false
set_option linter.unusedSimpArgs false
namespace Go.Proofs.YtkhdocdddicgpaaGreatDoor
open Go.RowKit
theorem sz_of (n:Int):sz (decide (n<0)) n.natAbs=n:=by unfold sz;by_cases h:n<0 <;> simp [h] <;> omega
set_option maxRecDepth 100000 in
set_option maxHeartbeats 1600000 in
theorem Of_int (P:Nat→Prop) (n:Int) (hn : -9223372036854775808≤n) (hn2:n≤9223372036854775807) (w:World) (hP:∀ k,w.heap.size≤k→P k) :
 Calls Tryz.prog 124 #[.int .i64 n] w (IntPost P n w):=by
 by_cases h1 : -1000000000000000000<n
 · by_cases h2:n<1000000000000000000
   · go_enter Tryz.func124,Tryz.ntmps124
     go_wp2
     refine bodyPost_ret (v := .agg #[.int .i64 n,.pointer none]) (by simp [results,Tryz.results124,go_sem]) rfl ?_
     exact ⟨_,rfl,.inl ⟨by omega,rfl⟩,(Below.refl _ _).alloc (Nat.le_refl _) _⟩
   · have hneg:decide (n<0)=false:=by simp;omega
     have HZ:=Lib.hid (sz_of n)
     rw [hneg] at HZ
     go_enter Tryz.func124,Tryz.ntmps124
     go_wp2_with fail
     refine (magnitude_any n hn hn2 _).mono ?_
     rintro e w1 ⟨rfl,rfl⟩
     obtain ⟨m,hm⟩:∃ m:Nat,m=n.natAbs:=⟨_,rfl⟩
     rw [← hm] at HZ ⊢
     have hm2:m<18446744073709551616:=by omega
     clear hm
     go_wp2_with fail
     refine (naturalOf_any m hm2 _).mono ?_
     rintro e w1 ⟨v,rfl,hv,hf,hb⟩
     have HV:=Lib.hid hv
     have HF:=Lib.hid hf
     have HB:=Lib.hid hb
     clear hv hf hb
     have HK:Hid (∀ k,w.heap.size+1≤k→P k∧k≠w.heap.size):=Lib.hid (fun k hk=>⟨hP k (by omega),by omega⟩)
     go_wp2_with fail
     refine (signed_any (fun k=>P k∧k≠w.heap.size) _ _ m _ (by intro k hk;exact HK.out k (Nat.le_trans (by have:=HB.out.size;simp at this;omega) hk)) HV.out (In.fresh HF.out (by intro k hk;exact HK.out k (by simpa using hk)))).mono ?_
     rintro e w2 ⟨v2,rfl,hv,hb⟩
     rw [HZ.out] at hv
     obtain ⟨s,p,rfl⟩:=hv.form
     obtain ⟨q0,q1,q2,q3⟩:=(((Bx.new w _ _ _).below HB.out (by simp)).below hb (by have:=HB.out.size;simp at this;omega)).cell
     have HV2:=Lib.hid hv
     have HB2:=Lib.hid (((Below.refl w.heap.size w).alloc (Nat.le_refl _) _).trans ((HB.out.mono (by simp)).trans (hb.mono (by have:=HB.out.size;simp at this;omega))))
     clear hv hb
     go_wp2
     refine bodyPost_ret (v := .agg #[.int .i64 s,.pointer p]) (by simp [results,Tryz.results124,go_sem,q0,q1]) rfl ?_
     exact IntPost.boxed HB2.out (Nat.le_refl _) HV2.out
 · have hneg:decide (n<0)=true:=by simp;omega
   have HZ:=Lib.hid (sz_of n)
   rw [hneg] at HZ
   go_enter Tryz.func124,Tryz.ntmps124
   go_wp2_with fail
   refine (magnitude_any n hn hn2 _).mono ?_
   rintro e w1 ⟨rfl,rfl⟩
   obtain ⟨m,hm⟩:∃ m:Nat,m=n.natAbs:=⟨_,rfl⟩
   rw [← hm] at HZ ⊢
   have hm2:m<18446744073709551616:=by omega
   clear hm
   go_wp2_with fail
   refine (naturalOf_any m hm2 _).mono ?_
   rintro e w1 ⟨v,rfl,hv,hf,hb⟩
   have HV:=Lib.hid hv
   have HF:=Lib.hid hf
   have HB:=Lib.hid hb
   clear hv hf hb
   have HK:Hid (∀ k,w.heap.size+1≤k→P k∧k≠w.heap.size):=Lib.hid (fun k hk=>⟨hP k (by omega),by omega⟩)
   go_wp2_with fail
   refine (signed_any (fun k=>P k∧k≠w.heap.size) _ _ m _ (by intro k hk;exact HK.out k (Nat.le_trans (by have:=HB.out.size;simp at this;omega) hk)) HV.out (In.fresh HF.out (by intro k hk;exact HK.out k (by simpa using hk)))).mono ?_
   rintro e w2 ⟨v2,rfl,hv,hb⟩
   rw [HZ.out] at hv
   obtain ⟨s,p,rfl⟩:=hv.form
   obtain ⟨q0,q1,q2,q3⟩:=(((Bx.new w _ _ _).below HB.out (by simp)).below hb (by have:=HB.out.size;simp at this;omega)).cell
   have HV2:=Lib.hid hv
   have HB2:=Lib.hid (((Below.refl w.heap.size w).alloc (Nat.le_refl _) _).trans ((HB.out.mono (by simp)).trans (hb.mono (by have:=HB.out.size;simp at this;omega))))
   clear hv hb
   go_wp2
   refine bodyPost_ret (v := .agg #[.int .i64 s,.pointer p]) (by simp [results,Tryz.results124,go_sem,q0,q1]) rfl ?_
   exact IntPost.boxed HB2.out (Nat.le_refl _) HV2.out
theorem IsInt.ptr {P:Nat→Prop} {w:World} {s:Int} {p:Option Addr} {z:Int} (h:IsInt P w (.agg #[.int .i64 s,.pointer p]) z) :
 (z.natAbs<1000000000000000000∧s=z∧p=none)∨(1000000000000000000≤z.natAbs∧∃ g,p=some ⟨g,0,none⟩):=by
 rcases h with ⟨h1,h2⟩ | ⟨h1,g,sv,h2,_⟩
 · left;simp at h2;exact ⟨h1,h2⟩
 · right;simp at h2;exact ⟨h1,g,h2.2⟩
theorem boxes3 (w:World) (x y z:Obj):Below w.heap.size w (((w.alloc x).alloc y).alloc z) :=
 (((Below.refl _ _).alloc (Nat.le_refl _) _).alloc (by simp) _).alloc (by simp;omega) _
def St (w W:World) (x0 x1 y0 y1 z0 z1:Value):Prop :=
 Below w.heap.size w W∧w.heap.size+3≤W.heap.size∧Bx W w.heap.size x0 x1∧Bx W (w.heap.size+1) y0 y1∧Bx W (w.heap.size+1+1) z0 z1
theorem St.start (w:World) (x0 x1 y0 y1 z0 z1:Value) (T1 T2 T3:TypeId):St w (((w.alloc (.cells #[x0,x1] T1)).alloc (.cells #[y0,y1] T2)).alloc (.cells #[z0,z1] T3)) x0 x1 y0 y1 z0 z1:=by
 refine ⟨boxes3 _ _ _ _,by simp,((Bx.new w x0 x1 T1).alloc _).alloc _,(second_box w _ y0 y1 T2 ()).alloc _,⟨T3,?_⟩⟩
 have:=second_new (w.alloc (.cells #[x0,x1] T1)) (.cells #[y0,y1] T2) (.cells #[z0,z1] T3)
 rwa [World.size_alloc] at this
theorem St.next {w W W':World} {x0 x1 y0 y1 z0 z1:Value} {B:Nat} (h:St w W x0 x1 y0 y1 z0 z1) (hb:Below B W W') (hB:W.heap.size≤B):St w W' x0 x1 y0 y1 z0 z1:=by
 obtain ⟨h1,h2,h3,h4,h5⟩:=h
 exact ⟨h1.trans (hb.mono (by omega)),Nat.le_trans h2 hb.size,h3.below hb (by have:=h3.lt;omega),h4.below hb (by have:=h4.lt;omega),h5.below hb (by have:=h5.lt;omega)⟩
theorem St.drew {w W:World} {x0 x1 y0 y1 z0 z1:Value} (h:St w W x0 x1 y0 y1 z0 z1):St w W.drew x0 x1 y0 y1 z0 z1:=⟨h.1.drew,h.2.1,h.2.2.1.drew,h.2.2.2.1.drew,h.2.2.2.2.drew⟩
theorem St.cells {w W:World} {x0 x1 y0 y1 z0 z1:Value} (h:St w W x0 x1 y0 y1 z0 z1) :
 W.cell? ⟨w.heap.size,0,none⟩=some x0∧W.cell? ⟨w.heap.size,1,none⟩=some x1∧W.cell? ⟨w.heap.size+1,0,none⟩=some y0∧W.cell? ⟨w.heap.size+1,1,none⟩=some y1 ∧
 W.cell? ⟨w.heap.size+1+1,0,none⟩=some z0∧W.cell? ⟨w.heap.size+1+1,1,none⟩=some z1∧W.frozen? ⟨w.heap.size+1+1,0,none⟩=false∧W.frozen? ⟨w.heap.size+1+1,1,none⟩=false:=by
 obtain ⟨_,_,h3,h4,h5⟩:=h
 exact ⟨h3.cell.1,h3.cell.2.1,h4.cell.1,h4.cell.2.1,h5.cell.1,h5.cell.2.1,h5.cell.2.2.1,h5.cell.2.2.2⟩
theorem St.of {P:Nat→Prop} {w:World} {x0 x1 y0 y1:Value} {a b:Int} (ha:IsInt P w (.agg #[x0,x1]) a) (hb:IsInt P w (.agg #[y0,y1]) b) (z0 z1:Value) (T1 T2 T3:TypeId) :
 St w (((w.alloc (.cells #[x0,x1] T1)).alloc (.cells #[y0,y1] T2)).alloc (.cells #[z0,z1] T3)) x0 x1 y0 y1 z0 z1:=St.start w x0 x1 y0 y1 z0 z1 T1 T2 T3
def Bar3 (P:Nat→Prop) (w:World) (k:Nat):Prop:=P k∧(k<w.heap.size∨w.heap.size+3≤k)
theorem Bar3.new {P:Nat→Prop} {w:World} (hP:∀ k,w.heap.size≤k→P k) (k:Nat) (hk:w.heap.size+3≤k):Bar3 P w k:=⟨hP k (by omega),.inr hk⟩
theorem IsInt.bar3 {P:Nat→Prop} {w W:World} {v:Value} {z:Int} (h:IsInt P w v z) (hb:Below w.heap.size w W):IsInt (Bar3 P w) W v z :=
 (h.mono (fun k hk hp=>(⟨hp,.inl hk⟩:Bar3 P w k))).kept (.all hb)
theorem IntPost.three {P:Nat→Prop} {z:Int} {w w1:World} {v x y:Value} (hb:Below w.heap.size w w1) (hn:IsInt (Bar3 P w) w1 v z) :
 IntPost P z w (.returned v) ((w1.setCell ⟨w.heap.size+1+1,0,none⟩ x).setCell ⟨w.heap.size+1+1,1,none⟩ y) :=
 IntPost.boxed hb (by omega) (hn.mono (fun k _ hk=>⟨hk.1,by have:=hk.2;omega⟩))
def Two (Q:Nat→Prop) (W:World) (v1 v2:Value) (a b:Nat):Prop:=IsNat W v1 a∧IsNat W v2 b∧In Q v1∧In Q v2
theorem Two.kept {Q:Nat→Prop} {W W':World} {v1 v2:Value} {a b:Nat} (h:Two Q W v1 v2 a b) (hk:Kept Q W W'):Two Q W' v1 v2 a b :=
 ⟨Rd.kept h.1 h.2.2.1 hk,Rd.kept h.2.1 h.2.2.2 hk,h.2.2.1,h.2.2.2⟩
theorem St.drewN {w W:World} {x0 x1 y0 y1 z0 z1:Value} (h:St w W x0 x1 y0 y1 z0 z1) (n:Nat):St w (W.drewN n) x0 x1 y0 y1 z0 z1 :=
 h.next (B:=W.heap.size) ⟨rfl,rfl,rfl,Nat.le_refl _,fun _ _=>rfl⟩ (Nat.le_refl _)
theorem add_same (a b:Int) (h:isNeg a=isNeg b):sz (isNeg a) (a.natAbs+b.natAbs)=a+b:=by
 unfold sz isNeg at *
 by_cases h1:a<0 <;> by_cases h2:b<0 <;> simp [h1,h2] at h ⊢ <;> omega
theorem add_less (a b:Int) (h:(isNeg a==isNeg b)=false) (hl:a.natAbs≤b.natAbs):sz (isNeg b) (b.natAbs-a.natAbs)=a+b:=by
 unfold sz isNeg at *
 by_cases h1:a<0 <;> by_cases h2:b<0 <;> simp [h1,h2] at h ⊢ <;> omega
theorem add_more (a b:Int) (h:(isNeg a==isNeg b)=false) (hl:b.natAbs≤a.natAbs):sz (isNeg a) (a.natAbs-b.natAbs)=a+b:=by
 unfold sz isNeg at *
 by_cases h1:a<0 <;> by_cases h2:b<0 <;> simp [h1,h2] at h ⊢ <;> omega
set_option maxRecDepth 100000 in
set_option maxHeartbeats 1600000 in
theorem Plus_int (P:Nat→Prop) (s1 s2:Int) (p1 p2:Option Addr) (a b:Int) (w:World) (hP:∀ k,w.heap.size≤k→P k) (ha:IsInt P w (.agg #[.int .i64 s1,.pointer p1]) a) (hb:IsInt P w (.agg #[.int .i64 s2,.pointer p2]) b)
 (la:(Nm.ds 1000000000 a.natAbs).length≤1000) (lb:(Nm.ds 1000000000 b.natAbs).length≤1000) :
 Calls Tryz.prog 109 #[.agg #[.int .i64 s1,.pointer p1],.agg #[.int .i64 s2,.pointer p2]] w (IntPost P (a+b) w):=by
 have HA:=Lib.hid ha
 have HB:=Lib.hid hb
 have HP:=Lib.hid hP
 clear ha hb hP
 obtain ⟨na,hna⟩:∃ na,isNeg a=na:=⟨_,rfl⟩
 obtain ⟨nb,hnb⟩:∃ nb,isNeg b=nb:=⟨_,rfl⟩
 have HNA:=Lib.hid hna
 have HNB:=Lib.hid hnb
 clear hna hnb
 cases h1:p1.isNone <;> cases h2:p2.isNone
 case true.true =>
  rw [Option.isNone_iff_eq_none] at h1 h2
  subst h1 h2
  have hs1:s1=a∧a.natAbs<1000000000000000000:=by
   rcases HA.out.ptr with ⟨h1,h2,_⟩ | ⟨_,g,h⟩
   · exact ⟨h2,h1⟩
   · cases h
  have hs2:s2=b∧b.natAbs<1000000000000000000:=by
   rcases HB.out.ptr with ⟨h1,h2,_⟩ | ⟨_,g,h⟩
   · exact ⟨h2,h1⟩
   · cases h
  obtain ⟨rfl,hs1⟩:=hs1
  obtain ⟨rfl,hs2⟩:=hs2
  have h1 : -9223372036854775808≤s1+s2:=by omega
  have h2:s1+s2≤9223372036854775807:=by omega
  go_enter Tryz.func109,Tryz.ntmps109
  go_wp2_with fail
  have hS0:=St.start w (.int .i64 s1) (.pointer none) (.int .i64 s2) (.pointer none) (.int .i64 0) (.pointer none) 107 107 107
  refine (Of_int (Bar3 P w) _ h1 h2 _ (by intro k hk;exact Bar3.new HP.out k (Nat.le_trans hS0.2.1 hk))).mono ?_
  rintro e w1 ⟨v,rfl,hv,hb⟩
  have hS1:=hS0.next hb (Nat.le_refl _)
  obtain ⟨s,p,rfl⟩:=hv.form
  obtain ⟨c0,c1,c2,c3,c4,c5,c6,c7⟩:=hS1.cells
  have HV:=Lib.hid hv
  clear hv hb
  go_wp2
  refine bodyPost_ret (v := .agg #[.int .i64 s,.pointer p]) (by simp [results,Tryz.results109,go_sem,c4,c5]) rfl ?_
  exact IntPost.three hS1.1 HV.out
 all_goals
  go_enter Tryz.func109,Tryz.ntmps109
  go_wp2_with fail
  have hS0:=St.of HA.out HB.out (.int .i64 0) (.pointer none) 107 107 107
  have HAQ:=Lib.hid (HA.out.bar3 hS0.1.drew)
  have HBQ:=HB
  go_region_held3 (fun w'=>w'.cell? ⟨w.heap.size,0,none⟩=some (.int .i64 s1)∧w'.cell? ⟨w.heap.size,1,none⟩=some (.pointer p1)∧w'.cell? ⟨w.heap.size+1,0,none⟩=some (.int .i64 s2)∧w'.cell? ⟨w.heap.size+1,1,none⟩=some (.pointer p2))
   (first | ((try dsimp only);(repeat' apply And.intro);all_goals assumption) | go_keep)
   (first | (go_at_call 133;refine (limbs_any (Bar3 P w) _ a _ (by intro k hk;exact Bar3.new HP.out k (Nat.le_trans hS0.2.1 hk)) (by exact HAQ.out)).mono ?_;rintro e w1 ⟨v1,rfl,hv1,hi1,hb1⟩;have hS1:=hS0.drew.next hb1 (Nat.le_refl _);obtain ⟨c0,c1,c2,c3,c4,c5,c6,c7⟩:=hS1.cells;obtain ⟨a1,m1,k1,rfl⟩:=hv1.slice) | (go_at_call 133;refine (limbs_any (Bar3 P w) _ b _ (by intro k hk;exact Bar3.new HP.out k (Nat.le_trans hS1.2.1 hk)) (by exact HB.out.bar3 hS1.1)).mono ?_;rintro e w2 ⟨v2,rfl,hv2,hi2,hb2⟩;have hS2:=hS1.next hb2 (Nat.le_refl _);obtain ⟨d0,d1,d2,d3,d4,d5,d6,d7⟩:=hS2.cells;obtain ⟨a2,m2,k2,rfl⟩:=hv2.slice))
  have HT:=Lib.hid (show Two (Bar3 P w) w2 (.slice a1 m1 k1) (.slice a2 m2 k2) a.natAbs b.natAbs from ⟨hv1.kept hi1 (.all hb2),hv2,hi1,hi2⟩)
  have HAR:=Lib.hid (HAQ.out.kept (.all hb1) |>.kept (.all hb2))
  clear c0 c1 c2 c3 c4 c5 c6 c7 hv1 hv2 hi1 hi2 hb1 hb2 hS1 hS0 HAQ HBQ
  have HBR:=Lib.hid (HB.out.bar3 hS2.1)
  go_wp2_with fail
  go_region_held3 (fun w'=>w'.cell? ⟨w.heap.size,0,none⟩=some (.int .i64 s1)∧w'.cell? ⟨w.heap.size,1,none⟩=some (.pointer p1)∧w'.cell? ⟨w.heap.size+1,0,none⟩=some (.int .i64 s2)∧w'.cell? ⟨w.heap.size+1,1,none⟩=some (.pointer p2))
   (first | ((try dsimp only);(repeat' apply And.intro);all_goals assumption) | go_keep)
   (first | (go_at_call 131;refine (isNegative_any (Bar3 P w) _ a _ (by exact HAR.out.kept (.drew _ _))).mono ?_;rintro e w3 ⟨rfl,hb3⟩;rw [HNA.out];have hS3:=hS2.drew.next hb3 (Nat.le_refl _);obtain ⟨c0,c1,c2,c3,c4,c5,c6,c7⟩:=hS3.cells) | (go_at_call 131;refine (isNegative_any (Bar3 P w) _ b _ (by exact HB.out.bar3 hS3.1)).mono ?_;rintro e w4 ⟨rfl,hb4⟩;rw [HNB.out];have hS4:=hS3.next hb4 (Nat.le_refl _);obtain ⟨e0,e1,e2,e3,e4,e5,e6,e7⟩:=hS4.cells))
  have HT4:=Lib.hid ((HT.out.kept (.drew _ _)).kept (.all hb3) |>.kept (.all hb4))
  have HA4:=Lib.hid ((HAR.out.kept (.drew _ _)).kept (.all hb3) |>.kept (.all hb4))
  have HB4:=Lib.hid (HB.out.bar3 hS4.1)
  clear c0 c1 c2 c3 c4 c5 c6 c7 d0 d1 d2 d3 d4 d5 d6 d7 hb3 hb4 hS2 hS3 HT HAR HBR
  cases hn:(na==nb)
  · go_wp2_with fail
    refine (compare_any _ _ _ _ _ HT4.out.1 HT4.out.2.1).mono ?_
    rintro e w5 ⟨rfl,n,rfl⟩
    obtain ⟨r,hr⟩:∃ r,sgn a.natAbs b.natAbs=r:=⟨_,rfl⟩
    rw [hr]
    have HR:=Lib.hid hr
    have HN:=Lib.hid hn
    clear hr hn
    have hS5:=hS4.drewN n
    obtain ⟨f0,f1,f2,f3,f4,f5,f6,f7⟩:=hS5.cells
    clear e0 e1 e2 e3 e4 e5 e6 e7
    cases hlt:decide (r<0)
    · have HLE:Hid (b.natAbs≤a.natAbs):=Lib.hid (by have:=HR.out;unfold sgn at this;simp at hlt;split at this <;> (try split at this) <;> omega)
      have HV:Hid (sz na (a.natAbs-b.natAbs)=a+b):=Lib.hid (by rw [← HNA.out];exact add_more a b (by rw [HNA.out,HNB.out];exact HN.out) HLE.out)
      go_wp2_with fail
      refine (isNegative_any (Bar3 P w) _ a _ (HA4.out.kept (.drewN _ _ _))).mono ?_
      rintro e w6 ⟨rfl,hb6⟩
      rw [HNA.out]
      have hS6:=hS5.next hb6 (Nat.le_refl _)
      have HT6:=Lib.hid ((HT4.out.kept (.drewN _ _ n)).kept (.all hb6))
      obtain ⟨g0,g1,g2,g3,g4,g5,g6,g7⟩:=hS6.cells
      clear f0 f1 f2 f3 f4 f5 f6 f7 hb6
      go_wp2_with fail
      refine (difference_any _ _ a.natAbs b.natAbs _ HT6.out.1 HT6.out.2.1 la HLE.out).mono ?_
      rintro e w7 ⟨v,rfl,hv,hf,hb7⟩
      have hS7:=hS6.next hb7 (Nat.le_refl _)
      have HVV:=Lib.hid hv
      have HF:=Lib.hid (In.fresh (P:=Bar3 P w) hf (by intro k hk;exact Bar3.new HP.out k (Nat.le_trans hS6.2.1 hk)))
      clear hv hf hb7 g0 g1 g2 g3 g4 g5 g6 g7
      go_wp2_with fail
      refine (signed_any (Bar3 P w) na _ _ _ (by intro k hk;exact Bar3.new HP.out k (Nat.le_trans hS7.2.1 hk)) HVV.out HF.out).mono ?_
      rintro e w8 ⟨v8,rfl,hv,hb8⟩
      rw [HV.out] at hv
      have hS8:=hS7.next hb8 (Nat.le_refl _)
      obtain ⟨s,p,rfl⟩:=hv.form
      obtain ⟨g0,g1,g2,g3,g4,g5,g6,g7⟩:=hS8.cells
      have HW:=Lib.hid hv
      clear hv hb8
      go_wp2
      refine bodyPost_ret (v := .agg #[.int .i64 s,.pointer p]) (by simp [results,Tryz.results109,go_sem,g4,g5]) rfl ?_
      exact IntPost.three hS8.1 HW.out
    · have HLE:Hid (a.natAbs≤b.natAbs):=Lib.hid (by have:=HR.out;unfold sgn at this;simp at hlt;split at this <;> (try split at this) <;> omega)
      have HV:Hid (sz nb (b.natAbs-a.natAbs)=a+b):=Lib.hid (by rw [← HNB.out];exact add_less a b (by rw [HNA.out,HNB.out];exact HN.out) HLE.out)
      go_wp2_with fail
      refine (isNegative_any (Bar3 P w) _ b _ (HB4.out.kept (.drewN _ _ _))).mono ?_
      rintro e w6 ⟨rfl,hb6⟩
      rw [HNB.out]
      have hS6:=hS5.next hb6 (Nat.le_refl _)
      have HT6:=Lib.hid ((HT4.out.kept (.drewN _ _ n)).kept (.all hb6))
      obtain ⟨g0,g1,g2,g3,g4,g5,g6,g7⟩:=hS6.cells
      clear f0 f1 f2 f3 f4 f5 f6 f7 hb6
      go_wp2_with fail
      refine (difference_any _ _ b.natAbs a.natAbs _ HT6.out.2.1 HT6.out.1 lb HLE.out).mono ?_
      rintro e w7 ⟨v,rfl,hv,hf,hb7⟩
      have hS7:=hS6.next hb7 (Nat.le_refl _)
      have HVV:=Lib.hid hv
      have HF:=Lib.hid (In.fresh (P:=Bar3 P w) hf (by intro k hk;exact Bar3.new HP.out k (Nat.le_trans hS6.2.1 hk)))
      clear hv hf hb7 g0 g1 g2 g3 g4 g5 g6 g7
      go_wp2_with fail
      refine (signed_any (Bar3 P w) nb _ _ _ (by intro k hk;exact Bar3.new HP.out k (Nat.le_trans hS7.2.1 hk)) HVV.out HF.out).mono ?_
      rintro e w8 ⟨v8,rfl,hv,hb8⟩
      rw [HV.out] at hv
      have hS8:=hS7.next hb8 (Nat.le_refl _)
      obtain ⟨s,p,rfl⟩:=hv.form
      obtain ⟨g0,g1,g2,g3,g4,g5,g6,g7⟩:=hS8.cells
      have HW:=Lib.hid hv
      clear hv hb8
      go_wp2
      refine bodyPost_ret (v := .agg #[.int .i64 s,.pointer p]) (by simp [results,Tryz.results109,go_sem,g4,g5]) rfl ?_
      exact IntPost.three hS8.1 HW.out
  · have HV:Hid (sz na (a.natAbs+b.natAbs)=a+b):=Lib.hid (by rw [← HNA.out];exact add_same a b (by rw [HNA.out,HNB.out];exact eq_of_beq hn))
    go_wp2_with fail
    refine (isNegative_any (Bar3 P w) _ a _ HA4.out).mono ?_
    rintro e w6 ⟨rfl,hb6⟩
    rw [HNA.out]
    have hS6:=hS4.next hb6 (Nat.le_refl _)
    have HT6:=Lib.hid (HT4.out.kept (.all hb6))
    obtain ⟨g0,g1,g2,g3,g4,g5,g6,g7⟩:=hS6.cells
    clear e0 e1 e2 e3 e4 e5 e6 e7 hb6
    go_wp2_with fail
    refine (sum_any _ _ a.natAbs b.natAbs _ HT6.out.1 HT6.out.2.1 la lb).mono ?_
    rintro e w7 ⟨v,rfl,hv,hf,hb7⟩
    have hS7:=hS6.next hb7 (Nat.le_refl _)
    have HVV:=Lib.hid hv
    have HF:=Lib.hid (In.fresh (P:=Bar3 P w) hf (by intro k hk;exact Bar3.new HP.out k (Nat.le_trans hS6.2.1 hk)))
    clear hv hf hb7 g0 g1 g2 g3 g4 g5 g6 g7
    go_wp2_with fail
    refine (signed_any (Bar3 P w) na _ _ _ (by intro k hk;exact Bar3.new HP.out k (Nat.le_trans hS7.2.1 hk)) HVV.out HF.out).mono ?_
    rintro e w8 ⟨v8,rfl,hv,hb8⟩
    rw [HV.out] at hv
    have hS8:=hS7.next hb8 (Nat.le_refl _)
    obtain ⟨s,p,rfl⟩:=hv.form
    obtain ⟨g0,g1,g2,g3,g4,g5,g6,g7⟩:=hS8.cells
    have HW:=Lib.hid hv
    clear hv hb8
    go_wp2
    refine bodyPost_ret (v := .agg #[.int .i64 s,.pointer p]) (by simp [results,Tryz.results109,go_sem,g4,g5]) rfl ?_
    exact IntPost.three hS8.1 HW.out
theorem Plus_any (P:Nat→Prop) (x y:Value) (a b:Int) (w:World) (hP:∀ k,w.heap.size≤k→P k) (ha:IsInt P w x a) (hb:IsInt P w y b)
 (la:(Nm.ds 1000000000 a.natAbs).length≤1000) (lb:(Nm.ds 1000000000 b.natAbs).length≤1000) :
 Calls Tryz.prog 109 #[x,y] w (IntPost P (a+b) w):=by
 obtain ⟨s1,p1,rfl⟩:=ha.form
 obtain ⟨s2,p2,rfl⟩:=hb.form
 exact Plus_int P s1 s2 p1 p2 a b w hP ha hb la lb
end Go.Proofs.YtkhdocdddicgpaaGreatDoor
