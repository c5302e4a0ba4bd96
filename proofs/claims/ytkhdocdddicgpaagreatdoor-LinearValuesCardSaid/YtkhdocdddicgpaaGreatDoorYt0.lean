/- Part 0: what the law's walk leans on. -/
import Derived.Lib.ItoaNum
import Derived.WalkKit
import Derived.Deep.QuietTactic
import Derived.BigQuiet
namespace Go.Proofs.YtkhdocdddicgpaaGreatDoor.Nm
def vl (b:Nat):List Nat→Nat
 | []=>0
 | x::r=>x+b*vl b r
def ds (b n:Nat):List Nat:=if n=0∨b<2 then [] else n%b::ds b (n/b)
termination_by n
decreasing_by exact Nat.div_lt_self (by omega) (by omega)
theorem ds_zero (b:Nat):ds b 0=[]:=by rw [ds];simp
theorem ds_pos (b n:Nat) (hb:2≤b) (hn:0<n):ds b n=n%b::ds b (n/b):=by
 rw [ds,if_neg (by omega)]
theorem vl_ds (b:Nat) (hb:2≤b) (n:Nat):vl b (ds b n)=n:=by
 induction n using Nat.strongRecOn with
 | _ n ih =>
  by_cases h:n=0
  · subst h;rw [ds_zero];rfl
  · rw [ds_pos b n hb (by omega),vl,ih _ (Nat.div_lt_self (by omega) (by omega))]
    exact Nat.mod_add_div n b
theorem ds_lt (b:Nat) (hb:2≤b) (n:Nat):∀ x∈ds b n,x<b:=by
 induction n using Nat.strongRecOn with
 | _ n ih =>
  by_cases h:n=0
  · subst h;rw [ds_zero];simp
  · rw [ds_pos b n hb (by omega)]
    intro x hx
    rcases List.mem_cons.1 hx with rfl | hx
    · exact Nat.mod_lt _ (by omega)
    · exact ih _ (Nat.div_lt_self (by omega) (by omega)) x hx
theorem ds_eq_nil (b:Nat) (hb:2≤b) (n:Nat):ds b n=[]↔n=0:=by
 constructor
 · intro h
   have:=vl_ds b hb n
   rw [h] at this
   exact this.symm
 · rintro rfl;exact ds_zero b
theorem ds_vl (b:Nat) (hb:2≤b) (xs:List Nat) (hx:∀ x∈xs,x<b) (hl:xs.getLast?≠some 0):ds b (vl b xs)=xs:=by
 induction xs with
 | nil=>exact ds_zero b
 | cons x r ih =>
  have hxb:=hx x (by simp)
  by_cases hr:r=[]
  · subst hr
    simp at hl
    simp only [vl,Nat.mul_zero,Nat.add_zero]
    rw [ds_pos b x hb (by omega),Nat.mod_eq_of_lt hxb,Nat.div_eq_of_lt hxb,ds_zero]
  · have hl':r.getLast?≠some 0:=by
     obtain ⟨y,r',rfl⟩:=List.exists_cons_of_ne_nil hr
     simpa using hl
    have ih:=ih (fun y hy=>hx y (by simp [hy])) hl'
    have hpos:0<vl b r:=by
     rcases Nat.eq_zero_or_pos (vl b r) with h | h
     · rw [h,ds_zero] at ih;exact absurd ih.symm hr
     · exact h
    have hv:vl b (x::r)=x+b*vl b r:=rfl
    have hbv:b*1≤b*vl b r:=Nat.mul_le_mul_left b hpos
    rw [hv,ds_pos b _ hb (by omega),Nat.add_mul_mod_self_left,Nat.mod_eq_of_lt hxb,Nat.add_mul_div_left _ _ (by omega),Nat.div_eq_of_lt hxb,Nat.zero_add,ih]
theorem vl_append (b:Nat) (xs ys:List Nat):vl b (xs++ys)=vl b xs+b ^ xs.length*vl b ys:=by
 induction xs with
 | nil=>simp [vl]
 | cons x r ih =>
  rw [List.cons_append,vl,ih,vl,List.length_cons,Nat.pow_succ,Nat.mul_add,Nat.add_assoc,Nat.mul_comm (b ^ r.length) b,Nat.mul_assoc]
theorem vl_lt (b:Nat) (xs:List Nat) (hx:∀ x∈xs,x<b):vl b xs<b ^ xs.length:=by
 induction xs with
 | nil=>simp [vl]
 | cons x r ih =>
  have h1:=ih (fun y hy=>hx y (by simp [hy]))
  have h2:=hx x (by simp)
  rw [vl,List.length_cons,Nat.pow_succ,Nat.mul_comm]
  have h3:b*(vl b r+1)≤b*b ^ r.length:=Nat.mul_le_mul_left b h1
  rw [Nat.mul_comm (vl b r) b,Nat.mul_comm (b ^ r.length) b]
  rw [Nat.mul_add] at h3
  omega
theorem vl_zeros (b k:Nat):vl b (List.replicate k 0)=0:=by
 induction k with
 | zero=>rfl
 | succ k ih=>rw [List.replicate_succ,vl,ih];simp
theorem getLast_ne (b:Nat) (hb:2≤b) (n:Nat):(ds b n).getLast?≠some 0:=by
 induction n using Nat.strongRecOn with
 | _ n ih =>
  by_cases h:n=0
  · subst h;rw [ds_zero];simp
  · rw [ds_pos b n hb (by omega)]
    have h2:=ih (n/b) (Nat.div_lt_self (by omega) (by omega))
    by_cases hz:n/b=0
    · rw [hz,ds_zero]
      simp
      have:=Nat.mod_add_div n b
      rw [hz] at this
      omega
    · cases hd:ds b (n/b) with
      | nil=>exact absurd ((ds_eq_nil b hb _).1 hd) hz
      | cons y r=>rw [hd] at h2;simpa using h2
theorem ds_length_le (b:Nat) (hb:2≤b) (n k:Nat) (h:n<b ^ k):(ds b n).length≤k:=by
 induction k generalizing n with
 | zero => have : n = 0 := by simp at h; exact h
           subst this;rw [ds_zero];simp
 | succ k ih =>
  by_cases hn:n=0
  · subst hn;rw [ds_zero];simp
  · rw [ds_pos b n hb (by omega),List.length_cons]
    have:n/b<b ^ k:=by
     rw [Nat.div_lt_iff_lt_mul (by omega)]
     rwa [Nat.pow_succ] at h
    have:=ih _ this
    omega
theorem lt_pow_length (b:Nat) (hb:2≤b) (n:Nat):n<b ^ (ds b n).length:=by
 have:=vl_lt b (ds b n) (ds_lt b hb n)
 rwa [vl_ds b hb] at this
theorem ds_length_ge (b:Nat) (hb:2≤b) (n k:Nat) (h:b ^ k≤n):k+1≤(ds b n).length:=by
 have h1:=lt_pow_length b hb n
 have h2:b ^ k<b ^ (ds b n).length:=Nat.lt_of_le_of_lt h h1
 exact (Nat.pow_lt_pow_iff_right (by omega)).1 h2
theorem length_lt (b:Nat) (hb:2≤b) (m n:Nat) (h:(ds b m).length<(ds b n).length):m<n:=by
 rcases Nat.lt_or_ge m n with h1 | h1
 · exact h1
 · have h2:=lt_pow_length b hb m
   have h3:=ds_length_le b hb n (ds b m).length (by omega)
   omega
theorem vl_lt_at (b:Nat) (xs ys:List Nat) (hx:∀ x∈xs,x<b) (p:Nat) (hp:p<xs.length) (hq:p<ys.length)
 (hd:xs.drop (p+1)=ys.drop (p+1)) (h:xs[p]<ys[p]):vl b xs<vl b ys:=by
 have e1:xs=xs.take p++(xs[p]::xs.drop (p+1)):=by rw [List.getElem_cons_drop,List.take_append_drop]
 have e2:ys=ys.take p++(ys[p]::ys.drop (p+1)):=by rw [List.getElem_cons_drop,List.take_append_drop]
 have l1:(xs.take p).length=p:=by rw [List.length_take];omega
 have l2:(ys.take p).length=p:=by rw [List.length_take];omega
 have h1:=vl_lt b (xs.take p) (fun x hxx=>hx x (List.mem_of_mem_take hxx))
 rw [l1] at h1
 have v1:vl b xs=vl b (xs.take p)+b ^ p*(xs[p]+b*vl b (xs.drop (p+1))):=by
  conv=>lhs;rw [e1]
  rw [vl_append,l1,vl]
 have v2:vl b ys=vl b (ys.take p)+b ^ p*(ys[p]+b*vl b (ys.drop (p+1))):=by
  conv=>lhs;rw [e2]
  rw [vl_append,l2,vl]
 rw [v1,v2,hd]
 generalize vl b (ys.drop (p+1))=t
 have h3:b ^ p*(xs[p]+b*t+1)≤b ^ p*(ys[p]+b*t):=Nat.mul_le_mul_left _ (by omega)
 rw [Nat.mul_add,Nat.mul_one] at h3
 omega
end Go.Proofs.YtkhdocdddicgpaaGreatDoor.Nm
set_option linter.unusedVariables false
namespace Go.Proofs.YtkhdocdddicgpaaGreatDoor
open Go.RowKit
def Own (k:IntKind) (t:TypeId) (w:World) (g:Nat) (cs:List Nat):Prop :=
 w.heap[g]?=some (.cells (cs.map (fun x=>Value.int k (x:Nat))).toArray t (0,0))
theorem Own.cell {k:IntKind} {t:TypeId} {w:World} {g:Nat} {cs:List Nat} (h:Own k t w g cs) (i:Nat) (hi:i<cs.length):w.cell? ⟨g,i,none⟩=some (.int k (cs[i]:Nat)):=by
 unfold Own at h
 simp [World.cell?,h,hi]
theorem Own.free {k:IntKind} {t:TypeId} {w:World} {g:Nat} {cs:List Nat} (h:Own k t w g cs) (i:Nat):w.frozen? ⟨g,i,none⟩=false:=by
 unfold Own at h
 simp [World.frozen?,h]
theorem Own.lt {k:IntKind} {t:TypeId} {w:World} {g:Nat} {cs:List Nat} (h:Own k t w g cs):g<w.heap.size:=by
 rcases Nat.lt_or_ge g w.heap.size with h' | h'
 · exact h'
 · unfold Own at h;simp [Array.getElem?_eq_none h'] at h
theorem Own.set {k:IntKind} {t:TypeId} {w:World} {g:Nat} {cs:List Nat} (h:Own k t w g cs) (i v:Nat):Own k t (w.setCell ⟨g,i,none⟩ (.int k (v:Nat))) g (cs.set i v):=by
 have hlt:=h.lt
 unfold Own at h ⊢
 have h':w.heap[g] = .cells (cs.map (fun x=>Value.int k (x:Nat))).toArray t (0,0):=by simpa [Array.getElem?_eq_getElem hlt] using h
 show (w.heap.modify g _)[g]?=_
 rw [Array.getElem?_eq_getElem (by simpa using hlt),Array.getElem_modify_self,h']
 simp [List.map_set]
structure Only (g:Nat) (w w':World):Prop where
 os:w'.os=w.os
 tape:w'.tape=w.tape
 output:w'.output=w.output
 size:w'.heap.size=w.heap.size
 block:∀ k,k≠g→w'.heap[k]?=w.heap[k]?
theorem Only.refl (g:Nat) (w:World):Only g w w:=⟨rfl,rfl,rfl,rfl,fun _ _=>rfl⟩
theorem Only.trans {g:Nat} {a b c:World} (h:Only g a b) (k:Only g b c):Only g a c :=
 ⟨k.os.trans h.os,k.tape.trans h.tape,k.output.trans h.output,k.size.trans h.size,fun i hi=>(k.block i hi).trans (h.block i hi)⟩
theorem Only.drewN {g:Nat} {a w:World} (h:Only g a w) (n:Nat):Only g a (w.drewN n):=⟨h.os,h.tape,h.output,h.size,h.block⟩
theorem Only.set {g:Nat} {a w:World} (h:Only g a w) (i:Nat) (u:Value):Only g a (w.setCell ⟨g,i,none⟩ u) :=
 h.trans ⟨rfl,rfl,rfl,by simp [World.setCell],fun k hk=>Below.heap_setCell _ _ _ _ hk⟩
theorem Only.below {g B:Nat} {w w':World} (h:Only g w w') (hB:B≤g):Below B w w' :=
 ⟨h.os,h.tape,h.output,by rw [h.size];exact Nat.le_refl _,fun k hk=>h.block k (by omega)⟩
theorem Only.cell {g:Nat} {w w':World} (h:Only g w w') (b i:Nat) (hb:b≠g):w'.cell? ⟨b,i,none⟩=w.cell? ⟨b,i,none⟩:=World.cell?_of_block (w:=w) (h.block b hb)
def Row (k:IntKind) (w:World) (g off:Nat) (xs:List Nat):Prop:=∀ (i:Nat) (h:i<xs.length),w.cell? ⟨g,off+i,none⟩=some (.int k (xs[i]:Nat))
def Cap (n c:Nat):Prop:=n≤60000∧c≤maxLen
theorem Cap.of {n c:Nat} (h:n≤c) (h2:c≤60000):Cap n c:=⟨by omega,by unfold maxLen;omega⟩
theorem Cap.less {n m c:Nat} (h:Cap n c) (h2:m≤n):Cap m c:=⟨by have:=h.1;omega,h.2⟩
def Rd (k:IntKind) (w:World) (v:Value) (xs:List Nat):Prop :=
 ∃ (a:Option Addr) (c:Nat),v = .slice a xs.length c∧xs.length≤c∧Cap xs.length c∧(xs≠[]→∃ g off,a=some ⟨g,off,none⟩∧g<w.heap.size∧Row k w g off xs)
theorem Rd.cases {k:IntKind} {w:World} {v:Value} {xs:List Nat} (h:Rd k w v xs) :
 (xs=[]∧∃ a c,v = .slice a 0 c∧Cap 0 c)∨(0<xs.length∧∃ g off c,v = .slice (some ⟨g,off,none⟩) xs.length c∧xs.length≤c∧Cap xs.length c∧g<w.heap.size∧Row k w g off xs):=by
 obtain ⟨a,c,rfl,h1,h2,h3⟩:=h
 by_cases hx:xs=[]
 · left;subst hx;exact ⟨rfl,a,c,rfl,h2⟩
 · right
   obtain ⟨g,off,rfl,h4,h5⟩:=h3 hx
   exact ⟨List.length_pos_iff.2 hx,g,off,c,rfl,h1,h2,h4,h5⟩
theorem Rd.nil (k:IntKind) (w:World) (a:Option Addr) (c:Nat) (hc:Cap 0 c):Rd k w (.slice a 0 c) []:=⟨a,c,rfl,by simp,hc,fun h=>absurd rfl h⟩
theorem Rd.mk {k:IntKind} {w:World} {g off c:Nat} {xs:List Nat} (h1:xs.length≤c) (h2:Cap xs.length c) (h3:g<w.heap.size) (h4:Row k w g off xs):Rd k w (.slice (some ⟨g,off,none⟩) xs.length c) xs :=
 ⟨_,c,rfl,h1,h2,fun _=>⟨g,off,rfl,h3,h4⟩⟩
theorem Row.keep {k:IntKind} {w w':World} {g off B:Nat} {xs:List Nat} (h:Row k w g off xs) (hb:Below B w w') (hg:g<B):Row k w' g off xs :=
 fun i hi=>(hb.cell (p:=⟨g,off+i,none⟩) hg).trans (h i hi)
theorem Row.only {k:IntKind} {w w':World} {g b off:Nat} {xs:List Nat} (h:Row k w g off xs) (hb:Only b w w') (hg:g≠b):Row k w' g off xs :=
 fun i hi=>(hb.cell g (off+i) hg).trans (h i hi)
theorem Rd.keep {k:IntKind} {w w':World} {v:Value} {xs:List Nat} {B:Nat} (h:Rd k w v xs) (hb:Below B w w') (hB:w.heap.size≤B):Rd k w' v xs:=by
 obtain ⟨a,c,rfl,h1,h2,h3⟩:=h
 refine ⟨a,c,rfl,h1,h2,fun hx => ?_⟩
 obtain ⟨g,off,rfl,h4,h5⟩:=h3 hx
 exact ⟨g,off,rfl,by have:=hb.size;omega,h5.keep hb (by omega)⟩
theorem Rd.length {k:IntKind} {w:World} {v:Value} {xs:List Nat} (h:Rd k w v xs):xs.length≤60000:=by
 obtain ⟨a,c,_,h1,h2,_⟩:=h;exact h2.1
theorem Own.row {k:IntKind} {t:TypeId} {w:World} {g:Nat} {cs:List Nat} (h:Own k t w g cs) (off n:Nat) (hn:off+n≤cs.length):Row k w g off ((cs.drop off).take n):=by
 intro i hi
 rw [List.length_take,List.length_drop] at hi
 rw [h.cell (off+i) (by omega)]
 simp
theorem Own.rd {k:IntKind} {t:TypeId} {w:World} {g:Nat} {cs:List Nat} (h:Own k t w g cs) (n c:Nat) (hn:n≤cs.length) (h1:n≤c) (h2:c≤60000):Rd k w (.slice (some ⟨g,0,none⟩) n c) (cs.take n):=by
 have hl:(cs.take n).length=n:=by rw [List.length_take];omega
 have hr:=h.row 0 n (by omega)
 rw [List.drop_zero] at hr
 have:=Rd.mk (k:=k) (w:=w) (g:=g) (off:=0) (c:=c) (xs:=cs.take n) (by omega) (Cap.of (by omega) h2) h.lt hr
 rwa [hl] at this
theorem Own.of_below {k:IntKind} {t:TypeId} {w w':World} {g B:Nat} {cs:List Nat} (h:Own k t w g cs) (hb:Below B w w') (hg:g<B):Own k t w' g cs:=by
 unfold Own at h ⊢;rw [hb.block g hg];exact h
theorem Own.of_only {k:IntKind} {t:TypeId} {w w':World} {g b:Nat} {cs:List Nat} (h:Own k t w g cs) (hb:Only b w w') (hg:g≠b):Own k t w' g cs:=by
 unfold Own at h ⊢;rw [hb.block g hg];exact h
def Fr (B:Nat) (v:Value):Prop:=∀ (ad:Addr) (n c:Nat),v = .slice (some ad) n c→0<n→B≤ad.block
def Same (v v':Value):Prop:=∀ (ad:Addr) (n c:Nat),v' = .slice (some ad) n c→∃ n0 c0,v = .slice (some ad) n0 c0
theorem Fr.mono {B B':Nat} {v:Value} (h:Fr B v) (hB:B'≤B):Fr B' v:=fun ad n c e hn=>Nat.le_trans hB (h ad n c e hn)
theorem Fr.of_same {B g n c:Nat} {v:Value} (h:Same (.slice (some ⟨g,0,none⟩) n c) v) (hB:B≤g):Fr B v:=by
 intro ad n' c' e _
 obtain ⟨n0,c0,e2⟩:=h ad n' c' e
 simp only [Value.slice.injEq,Option.some.injEq] at e2
 rw [← e2.1]
 exact hB
theorem Rd.only {k:IntKind} {w w':World} {v:Value} {xs:List Nat} {b:Nat} (h:Rd k w v xs) (hb:Only b w w') (hv:∀ (ad:Addr) (n c:Nat),v = .slice (some ad) n c→0<n→ad.block≠b):Rd k w' v xs:=by
 obtain ⟨a,c,rfl,h1,h2,h3⟩:=h
 refine ⟨a,c,rfl,h1,h2,fun hx => ?_⟩
 obtain ⟨g,off,rfl,h4,h5⟩:=h3 hx
 exact ⟨g,off,rfl,by rw [hb.size];exact h4,h5.only hb (hv _ _ _ rfl (List.length_pos_iff.2 hx))⟩
end Go.Proofs.YtkhdocdddicgpaaGreatDoor
namespace Go.Proofs.YtkhdocdddicgpaaGreatDoor.Nm
open Go (Lib.decDigits Lib.itoa Lib.nDigits)
def chr (d:Nat):UInt8:=UInt8.ofNat (48+d)
def dig (c:UInt8):Nat:=c.toNat-48
theorem chr_toNat (d:Nat) (h:d<10):(chr d).toNat=48+d:=by
 unfold chr;rw [UInt8.toNat_ofNat'];omega
theorem dig_chr (d:Nat) (h:d<10):dig (chr d)=d:=by unfold dig;rw [chr_toNat d h];omega
def isDig (c:UInt8):Bool:=decide (48≤c.toNat)&&decide (c.toNat≤57)
theorem chr_dig (c:UInt8) (h:isDig c=true):chr (dig c)=c:=by
 simp [isDig] at h
 apply UInt8.toNat_inj.1
 rw [chr_toNat _ (by unfold dig;omega)]
 unfold dig;omega
theorem isDig_chr (d:Nat) (h:d<10):isDig (chr d)=true:=by
 simp [isDig,chr_toNat d h];omega
theorem dig_lt (c:UInt8) (h:isDig c=true):dig c<10:=by
 simp [isDig] at h;unfold dig;omega
theorem dec_ds (n:Nat) (hn:0<n):Lib.decDigits n=(ds 10 n).reverse.map chr:=by
 induction n using Nat.strongRecOn with
 | _ n ih =>
  rw [Lib.decDigits,ds_pos 10 n (by omega) hn,List.reverse_cons,List.map_append]
  by_cases h:n<10
  · rw [dif_pos h,Nat.div_eq_of_lt h,ds_zero,Nat.mod_eq_of_lt h];rfl
  · rw [dif_neg h,ih (n/10) (Nat.div_lt_self hn (by omega)) (Nat.div_pos (by omega) (by omega))];rfl
def tv (l:List UInt8):Nat:=vl 10 (l.reverse.map dig)
theorem tv_nil:tv []=0:=rfl
theorem tv_snoc (l:List UInt8) (c:UInt8):tv (l++[c])=dig c+10*tv l:=by
 simp [tv,vl]
theorem tv_append (l r:List UInt8):tv (l++r)=tv r+10 ^ r.length*tv l:=by
 unfold tv
 rw [List.reverse_append,List.map_append,vl_append];simp
def canonN (l:List UInt8):Bool:=l.all isDig && !l.isEmpty&&(l.head? != some 48 || l.length==1)
theorem tv_lt (l:List UInt8) (h:l.all isDig=true):tv l<10 ^ l.length:=by
 have:=vl_lt 10 (l.reverse.map dig) (fun x hx=>by
  obtain ⟨c,hc,rfl⟩:=List.mem_map.1 hx
  exact dig_lt c (List.all_eq_true.1 h c (List.mem_reverse.1 hc)))
 simpa [tv] using this
theorem dec_tv (l:List UInt8) (h:canonN l=true):Lib.decDigits (tv l)=l:=by
 simp only [canonN,Bool.and_eq_true,Bool.or_eq_true,Bool.not_eq_true',bne_iff_ne,ne_eq,beq_iff_eq] at h
 obtain ⟨⟨h1,h2⟩,h3⟩:=h
 cases l with
 | nil=>simp at h2
 | cons c r =>
  have hc:isDig c=true:=List.all_eq_true.1 h1 c (by simp)
  by_cases h48:c=48
  · subst h48
    have hr:r=[]:=by
     rcases h3 with h3 | h3
     · simp at h3
     · simpa using h3
    subst hr
    decide +kernel
  · have hlast:((c::r).reverse.map dig).getLast?≠some 0:=by
     rw [List.reverse_cons,List.map_append]
     simp
     intro h0
     apply h48
     rw [← chr_dig c hc,h0];rfl
    have hlt:∀ x∈(c::r).reverse.map dig,x<10:=by
     intro x hx
     obtain ⟨d,hd,rfl⟩:=List.mem_map.1 hx
     exact dig_lt d (List.all_eq_true.1 h1 d (List.mem_reverse.1 hd))
    have hd:=ds_vl 10 (by omega) _ hlt hlast
    have hpos:0<tv (c::r):=by
     rcases Nat.eq_zero_or_pos (tv (c::r)) with h | h
     · unfold tv at h
       rw [h,ds_zero] at hd
       simp at hd
     · exact h
    rw [dec_ds _ hpos]
    unfold tv
    rw [hd, ← List.map_reverse,List.reverse_reverse,List.map_map]
    conv=>rhs;rw [← List.map_id (c::r)]
    apply List.map_congr_left
    intro d hd
    exact chr_dig d (List.all_eq_true.1 h1 d hd)
theorem dec_all (n:Nat):(Lib.decDigits n).all isDig=true:=by
 by_cases h:n=0
 · subst h;decide +kernel
 · rw [dec_ds n (by omega),List.all_eq_true]
   intro c hc
   obtain ⟨d,hd,rfl⟩:=List.mem_map.1 hc
   exact isDig_chr d (ds_lt 10 (by omega) n d (List.mem_reverse.1 hd))
theorem dec_ne (n:Nat):Lib.decDigits n≠[]:=by
 by_cases h:n=0
 · subst h;decide +kernel
 · rw [dec_ds n (by omega)]
   intro h2
   simp at h2
   exact h ((ds_eq_nil 10 (by omega) n).1 h2)
theorem canonN_dec (n:Nat):canonN (Lib.decDigits n)=true:=by
 by_cases h:n=0
 · subst h;decide +kernel
 · simp only [canonN,Bool.and_eq_true,Bool.or_eq_true,Bool.not_eq_true',bne_iff_ne,ne_eq,beq_iff_eq]
   refine ⟨⟨dec_all n,by simpa using dec_ne n⟩,.inl ?_⟩
   rw [dec_ds n (by omega),List.head?_map,List.head?_reverse]
   have h2:=getLast_ne 10 (by omega) n
   intro h3
   rw [Option.map_eq_some_iff] at h3
   obtain ⟨d,hd,hd2⟩:=h3
   have hdl:=ds_lt 10 (by omega) n d (List.mem_of_getLast? hd)
   have:d=0:=by
    have:=congrArg dig hd2
    rw [dig_chr d hdl] at this
    exact this
   subst this
   exact h2 hd
theorem tv_dec (n:Nat):tv (Lib.decDigits n)=n:=by
 by_cases h:n=0
 · subst h;decide +kernel
 · rw [dec_ds n (by omega)]
   unfold tv
   rw [← List.map_reverse,List.reverse_reverse,List.map_map]
   have:(ds 10 n).map (dig ∘ chr)=ds 10 n:=by
    conv=>rhs;rw [← List.map_id (ds 10 n)]
    apply List.map_congr_left
    intro d hd
    exact dig_chr d (ds_lt 10 (by omega) n d hd)
   rw [this,vl_ds 10 (by omega)]
def canon (l:List UInt8):Bool:=match l with
 | 45::r=>canonN r&&r.head? != some 48&&decide (r.length≤400)
 | _=>canonN l&&decide (l.length≤400)
def zv (l:List UInt8):Int:=match l with
 | 45::r => -(tv r:Int)
 | _=>tv l
theorem canonN_head (l:List UInt8) (h:canonN l=true):l.head?≠some 45:=by
 cases l with
 | nil=>simp
 | cons c r =>
  simp only [canonN,Bool.and_eq_true] at h
  have hc:=List.all_eq_true.1 h.1.1 c (by simp)
  simp
  rintro rfl
  simp [isDig] at hc
theorem canon_neg (r:List UInt8):canon (45::r)=(canonN r&&r.head? != some 48&&decide (r.length≤400)):=rfl
theorem canon_pos (l:List UInt8) (h:l.head?≠some 45):canon l=(canonN l&&decide (l.length≤400)):=by
 unfold canon
 split
 · simp at h
 · rfl
theorem zv_neg (r:List UInt8):zv (45::r) = -(tv r:Int):=rfl
theorem zv_pos (l:List UInt8) (h:l.head?≠some 45):zv l=tv l:=by
 unfold zv
 split
 · simp at h
 · rfl
theorem itoa_zv (l:List UInt8) (h:canon l=true):Lib.itoa (zv l)=l:=by
 by_cases h45:l.head?=some 45
 · cases l with
   | nil=>simp at h45
   | cons c r =>
    simp at h45
    subst h45
    rw [canon_neg] at h
    simp only [Bool.and_eq_true,bne_iff_ne,ne_eq] at h
    obtain ⟨⟨h1,h2⟩,_⟩:=h
    have hd:=dec_tv r h1
    have hpos:0<tv r:=by
     rcases Nat.eq_zero_or_pos (tv r) with h | h
     · rw [h] at hd
       exact absurd (by rw [← hd];decide +kernel) h2
     · exact h
    rw [zv_neg,Lib.itoa,if_pos (by omega),show (-(tv r:Int)).natAbs=tv r from by omega,hd]
 · rw [canon_pos l h45] at h
   simp only [Bool.and_eq_true] at h
   rw [zv_pos l h45,Lib.itoa,if_neg (by omega),Int.toNat_natCast,dec_tv l h.1]
theorem canon_itoa (z:Int):canon (Lib.itoa z)=decide (Lib.nDigits z.natAbs≤400):=by
 unfold Lib.itoa
 by_cases h:z<0
 · rw [if_pos h,canon_neg,canonN_dec,Lib.decDigits_length]
   have:(Lib.decDigits z.natAbs).head?≠some 48:=by
    rw [dec_ds _ (by omega),List.head?_map,List.head?_reverse]
    have h2:=getLast_ne 10 (by omega) z.natAbs
    intro h3
    rw [Option.map_eq_some_iff] at h3
    obtain ⟨d,hd,hd2⟩:=h3
    have hdl:=ds_lt 10 (by omega) z.natAbs d (List.mem_of_getLast? hd)
    have:d=0:=by
     have:=congrArg dig hd2
     rw [dig_chr d hdl] at this
     exact this
    subst this
    exact h2 hd
   simp [this]
 · rw [if_neg h,canon_pos _ (canonN_head _ (canonN_dec _)),canonN_dec,Lib.decDigits_length,show z.toNat=z.natAbs from by omega]
   simp
theorem zv_itoa (z:Int):zv (Lib.itoa z)=z:=by
 unfold Lib.itoa
 by_cases h:z<0
 · rw [if_pos h,zv_neg,tv_dec];omega
 · rw [if_neg h,zv_pos _ (canonN_head _ (canonN_dec _)),tv_dec];omega
def pad:Nat→Nat→List UInt8
 | 0,_=>[]
 | k+1,x=>pad k (x/10)++[chr (x%10)]
theorem pad_length (k x:Nat):(pad k x).length=k:=by
 induction k generalizing x with
 | zero=>rfl
 | succ k ih=>simp [pad,ih]
theorem dec_pad (k m x:Nat) (hm:0<m) (hx:x<10 ^ k):Lib.decDigits (10 ^ k*m+x)=Lib.decDigits m++pad k x:=by
 induction k generalizing x with
 | zero=>simp at hx;subst hx;simp [pad]
 | succ k ih =>
  have h10:10≤10 ^ (k+1)*m+x:=by
   have h1:10 ^ (k+1)*1≤10 ^ (k+1)*m:=Nat.mul_le_mul_left _ hm
   have h2:10 ^ k*10=10 ^ (k+1):=(Nat.pow_succ ..).symm
   have h3:0<10 ^ k:=Nat.pow_pos (by omega)
   omega
  rw [Lib.decDigits,dif_neg (by omega)]
  have e1:(10 ^ (k+1)*m+x)/10=10 ^ k*m+x/10:=by
   rw [Nat.pow_succ,Nat.mul_comm (10 ^ k) 10,Nat.mul_assoc,Nat.mul_add_div (by omega)]
  have e2:(10 ^ (k+1)*m+x)%10=x%10:=by
   rw [Nat.pow_succ,Nat.mul_comm (10 ^ k) 10,Nat.mul_assoc,Nat.mul_add_mod]
  have hx2:x/10<10 ^ k:=by
   rw [Nat.div_lt_iff_lt_mul (by omega)]
   rwa [Nat.pow_succ] at hx
  rw [e1,e2,ih _ hx2,pad,List.append_assoc]
  rfl
theorem pad_nine (x:Nat) (hx:x<1000000000):(Lib.decDigits (1000000000+x)).drop 1=pad 9 x:=by
 have h:=dec_pad 9 1 x (by omega) (by omega)
 rw [show 10 ^ 9*1+x=1000000000+x from by omega] at h
 rw [h,show Lib.decDigits 1=[49] from by decide +kernel]
 rfl
theorem dec_limb (m x:Nat) (hm:0<m) (hx:x<1000000000):Lib.decDigits (x+1000000000*m)=Lib.decDigits m++pad 9 x:=by
 have h:=dec_pad 9 m x hm (by omega)
 rw [show 10 ^ 9*m+x=x+1000000000*m from by omega] at h
 exact h
end Go.Proofs.YtkhdocdddicgpaaGreatDoor.Nm
namespace Go.Proofs.YtkhdocdddicgpaaGreatDoor.Nm
theorem am_limb (t:Int):0≤t%1000000000∧t%1000000000<1000000000:=by omega
theorem tmod_emod (t:Int):(t.tmod 1000000000+1000000000).tmod 1000000000=t%1000000000:=by
 rcases Int.lt_or_le t 0 with h | h
 · have h1:t.tmod 1000000000 = -((-t)%1000000000):=by
    rw [show t = -(-t) from by omega,Int.neg_tmod,Int.tmod_eq_emod_of_nonneg (by omega),Int.neg_neg]
   rw [h1,Int.tmod_eq_emod_of_nonneg (by omega)]
   omega
 · rw [Int.tmod_eq_emod_of_nonneg h,Int.tmod_eq_emod_of_nonneg (by omega)]
   omega
theorem quo_ediv (t:Int):(t-t%1000000000).tdiv 1000000000=t/1000000000:=by
 have h:t-t%1000000000=1000000000*(t/1000000000):=by omega
 rw [h,Int.mul_tdiv_cancel_left _ (by omega)]
def AmInv (xs ys:List Nat) (count:Int) (zs:List Nat) (carry:Int):Prop :=
 (∀ z∈zs,z<1000000000)∧zs.length≤xs.length∧(vl 1000000000 zs:Int)+((1000000000 ^ zs.length:Nat):Int)*carry=vl 1000000000 (xs.take zs.length)+count*vl 1000000000 (ys.take zs.length)
theorem AmInv.start (xs ys:List Nat) (count:Int):AmInv xs ys count [] 0:=⟨by simp,by simp,by simp [vl]⟩
theorem vl_take_succ (b:Nat) (xs:List Nat) (i:Nat) (h:i<xs.length):vl b (xs.take (i+1))=vl b (xs.take i)+b ^ i*xs[i]:=by
 rw [List.take_add_one,List.getElem?_eq_getElem h,vl_append]
 simp only [Option.toList_some,vl,Nat.mul_zero,Nat.add_zero,List.length_take]
 rw [Nat.min_eq_left (by omega)]
theorem vl_take_past (b:Nat) (ys:List Nat) (i:Nat) (h:ys.length≤i):vl b (ys.take i)=vl b ys:=by rw [List.take_of_length_le h]
def yat (ys:List Nat) (i:Nat):Nat:=ys[i]?.getD 0
theorem vl_take_yat (b:Nat) (ys:List Nat) (i:Nat):vl b (ys.take (i+1))=vl b (ys.take i)+b ^ i*yat ys i:=by
 by_cases h:i<ys.length
 · rw [vl_take_succ b ys i h,yat,List.getElem?_eq_getElem h];rfl
 · rw [vl_take_past b ys (i+1) (by omega),vl_take_past b ys i (by omega),yat,List.getElem?_eq_none (by omega)];simp
theorem AmInv.step {xs ys:List Nat} {count carry:Int} {zs:List Nat} (h:AmInv xs ys count zs carry) (hi:zs.length<xs.length) (t:Int) (ht:t=(xs[zs.length]:Int)+carry+(yat ys zs.length:Int)*count) :
 AmInv xs ys count (zs++[(t%1000000000).toNat]) (t/1000000000):=by
 obtain ⟨h1,h2,h3⟩:=h
 refine ⟨?_,by simp;omega,?_⟩
 · intro z hz
   rcases List.mem_append.1 hz with hz | hz
   · exact h1 z hz
   · have:=am_limb t
     simp at hz
     omega
 · rw [List.length_append,List.length_singleton,vl_append,vl_take_succ _ _ _ hi,vl_take_yat,Nat.pow_succ]
   generalize hP:(1000000000 ^ zs.length:Nat)=P at *
   generalize vl 1000000000 (xs.take zs.length)=X at *
   generalize vl 1000000000 (ys.take zs.length)=Y at *
   generalize vl 1000000000 zs=Z at *
   have hlimb:((vl 1000000000 [(t%1000000000).toNat]:Nat):Int)=t%1000000000:=by
    simp only [vl,Nat.mul_zero,Nat.add_zero];have:=am_limb t;omega
   have hdm:t=t%1000000000+1000000000*(t/1000000000):=by omega
   simp only [Int.natCast_add,Int.natCast_mul]
   rw [show ((1000000000:Nat):Int)=1000000000 from rfl]
   rw [hlimb]
   generalize t%1000000000=r at *
   generalize t/1000000000=q at *
   generalize (xs[zs.length]:Int)=x at *
   generalize (yat ys zs.length:Int)=y at *
   have e:(Z:Int)+P*r+P*1000000000*q=Z+P*(r+1000000000*q):=by
    rw [Int.mul_add,Int.mul_assoc];omega
   rw [e, ← hdm,ht,Int.mul_add,Int.mul_add,Int.mul_add]
   have e2:(P:Int)*(y*count)=count*(P*y):=by
    rw [← Int.mul_assoc,Int.mul_comm]
   rw [e2]
   omega
theorem carry_step (x y:Nat) (hx:x<1000000000) (hy:y<1000000000) (count carry:Int) (hc : -1000000000≤count∧count≤1000000000) (hk : -1000000001≤carry∧carry≤1000000001) :
 -1000000002000000000≤(x:Int)+carry+(y:Int)*count∧(x:Int)+carry+(y:Int)*count≤1000000002000000000 ∧
 -1000000001≤((x:Int)+carry+(y:Int)*count)/1000000000∧((x:Int)+carry+(y:Int)*count)/1000000000≤1000000001 ∧ -1000000000000000000≤(y:Int)*count∧(y:Int)*count≤1000000000000000000:=by
 have h1:(y:Int)*count≤999999999*1000000000:=by
  rcases Int.lt_or_le count 0 with h | h
  · have:(y:Int)*count≤0:=Int.mul_nonpos_of_nonneg_of_nonpos (by omega) (by omega)
    omega
  · exact Int.mul_le_mul (by omega) hc.2 h (by omega)
 have h2 : -(999999999*1000000000)≤(y:Int)*count:=by
  have:(y:Int)*(-count)≤999999999*1000000000:=by
   rcases Int.lt_or_le (-count) 0 with h | h
   · have:(y:Int)*(-count)≤0:=Int.mul_nonpos_of_nonneg_of_nonpos (by omega) (by omega)
     omega
   · exact Int.mul_le_mul (by omega) (by omega) h (by omega)
  rw [Int.mul_neg] at this
  omega
 omega
end Go.Proofs.YtkhdocdddicgpaaGreatDoor.Nm
