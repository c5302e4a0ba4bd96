/- Part 24: what the law's walk leans on. -/
import Derived.Test.YtkhdocdddicgpaaGreatDoorYt9
import Derived.Test.YtkhdocdddicgpaaGreatDoorYt22
set_option linter.unusedVariables false
set_option linter.unusedSimpArgs false
namespace Go.Proofs.YtkhdocdddicgpaaGreatDoor
open Go.RowKit _root_.Go.Proofs.YtkhdocdddicgpaaGreatDoor.Nm
theorem rText_to (v:Value) (y:Int) (t:ByteArray) (w:World) (h:Ref w v y) (hl:(dg y.natAbs).length≤2000) (ht:Hid (True∧t=⟨(Lib.itoa y).toArray⟩)) :
 Calls Tryz.prog 50 #[v] w fun e w'=>e = .returned (.string t)∧Below w.heap.size w w':=by
 rw [ht.out.2]
 exact rText_any v y w h (by omega)
end Go.Proofs.YtkhdocdddicgpaaGreatDoor
set_option linter.unusedVariables false
set_option linter.unusedSimpArgs false
namespace Go.Proofs.YtkhdocdddicgpaaGreatDoor
open Go.RowKit _root_.Go.Proofs.YtkhdocdddicgpaaGreatDoor.Nm
set_option maxRecDepth 100000 in
set_option maxHeartbeats 3200000 in
theorem rCmp_any (v1 v2:Value) (x y c:Int) (w:World) (h1:Ref w v1 x) (h2:Ref w v2 y) (lx:(dg x.natAbs).length≤2000) (ly:(dg y.natAbs).length≤2000) (hc:Hid (True∧c=sgn2 x y)) :
 Calls Tryz.prog 48 #[v1,v2] w fun e w'=>e = .returned (.int .i64 c)∧Below w.heap.size w w':=by
 obtain ⟨aa,ca,rfl⟩:=h1.form
 obtain ⟨ab,cb,rfl⟩:=h2.form
 obtain ⟨n1,hn1⟩:∃ b,isNeg x=b:=⟨_,rfl⟩
 obtain ⟨n2,hn2⟩:∃ b,isNeg y=b:=⟨_,rfl⟩
 obtain ⟨la,hla⟩:∃ l,(dg x.natAbs).length=l:=⟨_,rfl⟩
 obtain ⟨lb,hlb⟩:∃ l,(dg y.natAbs).length=l:=⟨_,rfl⟩
 rw [hn1,hla] at h1 ⊢
 rw [hn2,hlb] at h2 ⊢
 obtain ⟨r,hr⟩:∃ r,x-y=r:=⟨_,rfl⟩
 have HR:=Lib.hid (And.intro trivial hr.symm)
 obtain ⟨l,hl⟩:∃ l,(dg r.natAbs).length=l:=⟨_,rfl⟩
 have HL:=Lib.hid (And.intro trivial hl)
 obtain ⟨nr,hnr⟩:∃ l,isNeg r=l:=⟨_,rfl⟩
 have HNR:=Lib.hid (And.intro trivial hnr)
 have hways:(l=0∧c=0)∨(0<l∧nr=true∧c = -1)∨(0<l∧nr=false∧c=1):=by
  have h:=hc.out.2
  unfold sgn2 at h
  have hl0:l=0↔r=0:=by
   constructor
   · intro e
     have h3:=dval_dg r.natAbs
     rw [e] at hl
     rw [List.length_eq_zero_iff.1 hl,dval_nil] at h3
     omega
   · rintro rfl;rw [← hl,show (0:Int).natAbs=0 from rfl,dg_zero];rfl
  unfold isNeg at hnr
  by_cases k1:r=0
  · rw [if_neg (by omega),if_neg (by omega)] at h
    exact .inl ⟨hl0.2 k1,h⟩
  · have k2:0<l:=by
     rcases Nat.eq_zero_or_pos l with e | e
     · exact absurd (hl0.1 e) k1
     · exact e
    by_cases k3:r<0
    · rw [if_pos (by omega)] at h
      exact .inr (.inl ⟨k2,by rw [← hnr];exact decide_eq_true k3,h⟩)
    · rw [if_neg (by omega),if_pos (by omega)] at h
      exact .inr (.inr ⟨k2,by rw [← hnr];exact decide_eq_false k3,h⟩)
 have HS0:=Lib.hid (St2.start w (.bool n1) (.slice aa la ca) (.bool n2) (.slice ab lb cb) 31 31)
 have HX:=Lib.hid (h1.keep HS0.out.1 (Nat.le_refl _))
 have HY:=Lib.hid (h2.keep HS0.out.1 (Nat.le_refl _))
 have HLX:=Lib.hid (And.intro trivial lx)
 have HLY:=Lib.hid (And.intro trivial ly)
 clear h1 h2 hn1 hn2 hla hlb lx ly hr hl hnr hc
 rcases hways with ⟨rfl,rfl⟩ | ⟨q1,rfl,rfl⟩ | ⟨q1,rfl,rfl⟩
 · go_enter Tryz.func48,Tryz.ntmps48
   go_wp2_with fail
   refine (rSub_any _ _ x y r _ HX.out HY.out HLX.out.2 HLY.out.2 HR.out.2).mono ?_
   rintro e w6 ⟨v6,rfl,hv6,hb⟩
   have HW6:=Lib.hid (HS0.out.1.trans (hb.mono (by have:=HS0.out.2.1;omega)))
   obtain ⟨a6,c6,rfl⟩:=hv6.form
   rw [HL.out.2,HNR.out.2]
   clear hb hv6
   go_wp2
   go_ret
   exact ⟨rfl,HW6.out.alloc HW6.out.size _⟩
 · have hl0:((l:Int)==0)=false:=by rw [beq_eq_false_iff_ne];omega
   go_enter Tryz.func48,Tryz.ntmps48
   go_wp2_with fail
   refine (rSub_any _ _ x y r _ HX.out HY.out HLX.out.2 HLY.out.2 HR.out.2).mono ?_
   rintro e w6 ⟨v6,rfl,hv6,hb⟩
   have HW6:=Lib.hid (HS0.out.1.trans (hb.mono (by have:=HS0.out.2.1;omega)))
   obtain ⟨a6,c6,rfl⟩:=hv6.form
   rw [HL.out.2,HNR.out.2]
   clear hb hv6
   go_wp2
   go_ret
   exact ⟨rfl,HW6.out.alloc HW6.out.size _⟩
 · have hl0:((l:Int)==0)=false:=by rw [beq_eq_false_iff_ne];omega
   go_enter Tryz.func48,Tryz.ntmps48
   go_wp2_with fail
   refine (rSub_any _ _ x y r _ HX.out HY.out HLX.out.2 HLY.out.2 HR.out.2).mono ?_
   rintro e w6 ⟨v6,rfl,hv6,hb⟩
   have HW6:=Lib.hid (HS0.out.1.trans (hb.mono (by have:=HS0.out.2.1;omega)))
   obtain ⟨a6,c6,rfl⟩:=hv6.form
   rw [HL.out.2,HNR.out.2]
   clear hb hv6
   go_wp2
   go_ret
   exact ⟨rfl,HW6.out.alloc HW6.out.size _⟩
end Go.Proofs.YtkhdocdddicgpaaGreatDoor
