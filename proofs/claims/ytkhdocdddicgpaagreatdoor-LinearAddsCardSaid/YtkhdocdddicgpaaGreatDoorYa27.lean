/- Part 27: what the law's walk leans on. -/
import Derived.Test.YtkhdocdddicgpaaGreatDoorYa26
import Derived.Test.YtkhdocdddicgpaaGreatDoorYa20
set_option linter.unusedVariables false
set_option linter.unusedSimpArgs false
namespace Go.Proofs.YtkhdocdddicgpaaGreatDoor
open Go.RowKit Go.Maps _root_.Go.Proofs.YtkhdocdddicgpaaGreatDoor.Nm
theorem ReadRes.form {c:ByteArray} {l:List Tm} {w w':World} {e:Ending} (h:ReadRes c l w e w'):∃ a m cp n1 a1 l1 c1 n2 a2 l2 c2 er,e = .returned (.tuple #[.agg #[.slice a m cp,.bool n1,.slice a1 l1 c1,.bool n2,.slice a2 l2 c2],.int .i64 er])∧((partsErr c l≠0∧er=partsErr c l)∨(partsErr c l=0∧(er=5∨er=0))):=by
 obtain ⟨_,h⟩:=h
 by_cases hp:partsErr c l≠0
 · rw [if_pos hp] at h
   exact ⟨_,_,_,_,_,_,_,_,_,_,_,_,h,.inl ⟨hp,rfl⟩⟩
 · rw [if_neg hp] at h
   have hp0:partsErr c l=0:=Decidable.byContradiction fun e=>hp e
   obtain ⟨qc,q,h1,h2,h3,h4⟩:=partsErr_zero hp0
   have h:=h qc q h2 h1 h3 h4
   cases ha:acc (fun _=>0) q with
   | none =>
    rw [ha] at h
    exact ⟨_,_,_,_,_,_,_,_,_,_,_,_,h,.inr ⟨hp0,.inl rfl⟩⟩
   | some f =>
    rw [ha] at h
    obtain ⟨v,he,s,cs,c4,rfl,hrow,hnum⟩:=h
    obtain ⟨a,cp,rfl⟩:=hrow.slice
    obtain ⟨n1,a1,l1,c1,n2,a2,l2,c2,rfl⟩:=hnum.expl
    exact ⟨_,_,_,_,_,_,_,_,_,_,_,_,he,.inr ⟨hp0,.inr rfl⟩⟩
theorem partsErr_cases (c:ByteArray) (l:List Tm):partsErr c l=0∨partsErr c l=2∨partsErr c l=3:=by
 unfold partsErr
 split
 · exact .inr (.inr rfl)
 · split
   · exact .inr (.inl rfl)
   · exact .inl rfl
set_option maxRecDepth 100000 in
set_option maxHeartbeats 6400000 in
theorem fCheck_any (c:ByteArray) (ad:Option Addr) (n cap:Nat) (l:List Tm) (r:Int) (w:World) (hv:TsAt w (.slice ad n cap) l) (hc:c.size≤100000) (hl:∀ t∈l,t.2.size≤100000) (hn:l.length≤500) (hr:Hid (checkErr c l=r)) :
 Calls Tryz.prog 34 #[.string c,.slice ad n cap] w fun e w'=>e = .returned (.int .i64 r)∧Below w.heap.size w w':=by
 have HV:=Lib.hid hv
 have HL:=Lib.hid (And.intro hl hn)
 clear hv hl hn
 go_enter Tryz.func34,Tryz.ntmps34
 go_wp2_with fail
 refine (fRead_any c ad n cap l w HV.out hc HL.out.1 HL.out.2).mono ?_
 intro e w1 h
 obtain ⟨a,m,cp,n1,a1,l1,c1,n2,a2,l2,c2,er,rfl,hcase⟩:=h.form
 have HB1:=Lib.hid h.1
 have hA:=(Below.refl w1.heap.size w1).alloc (Nat.le_refl _) (.cells #[.slice a m cp,.bool n1,.slice a1 l1 c1,.bool n2,.slice a2 l2 c2] 35)
 have HW1:=Lib.hid (h.1.trans (hA.mono h.1.size))
 have hr2:=hr.out
 unfold checkErr at hr2
 have HCASE:=Lib.hid hcase
 clear h hA hcase
 rcases HCASE.out with ⟨hp,rfl⟩ | ⟨hp,her⟩
 · rw [if_pos hp] at hr2
   have hpe:=partsErr_cases c l
   rw [hr2] at hpe hp
   have HP:=Lib.hid hp
   rw [hr2]
   clear hr2 hp
   rcases hpe with rfl | rfl | rfl
   · exact absurd rfl HP.out
   · go_wp2
     go_ret
     exact ⟨rfl,HW1.out⟩
   · go_wp2
     go_ret
     exact ⟨rfl,HW1.out⟩
 · rw [if_neg (by rw [hp];decide)] at hr2
   have HR:=Lib.hid hr2
   clear hr2 hp HCASE
   have hwhole:Hid (True):=Lib.hid trivial
   rcases her with rfl | rfl
   · go_wp2
     go_loopw [7] (fun i wr=>∃ k:Nat,k≤n∧i = .int .i64 k∧Hid (AscUp l k)∧Hid (Below w.heap.size w wr)) (fun i _=>n-(intOf i).toNat)
     case atStart=>exact ⟨0,Nat.zero_le _,rfl,Lib.hid (fun i _ h=>absurd h (Nat.not_lt_zero i)),HW1⟩
     case round =>
      obtain ⟨k,hk,rfl,HAS,HW⟩:=hrel
      obtain ⟨ad',n',cap',e1,e2,hv⟩:=HV.out.keep HW.out (Nat.le_refl _)
      cases e1
      have HLEN:=Lib.hid (And.intro trivial e2)
      have hn1:n≤1000:=by rw [e2];have:=HL.out.2;omega
      clear e2
      by_cases hlt:k<n
      · have hkl:k<l.length:=by rw [← HLEN.out.2];exact hlt
        obtain ⟨g,off,rfl,hg,hcc⟩:∃ g off,ad=some ⟨g,off,none⟩∧g<wr.heap.size∧∀ (i:Nat) (h:i<l.length),wr.cell? ⟨g,off+i*2,none⟩=some (.int .i64 l[i].1)∧wr.cell? ⟨g,off+i*2+1,none⟩=some (.string l[i].2):=by
         rcases hv with h | h
         · omega
         · exact h
        obtain ⟨hcell0,hcell1⟩:=hcc k hkl
        obtain ⟨col,hcol⟩:∃ col,l[k].1=col:=⟨_,rfl⟩
        obtain ⟨x,hx⟩:∃ x,l[k].2=x:=⟨_,rfl⟩
        rw [hcol] at hcell0
        rw [hx] at hcell1
        have HCOL:=Lib.hid hcol
        have HX:=Lib.hid hx
        have HCC:=Lib.hid hcc
        clear hv hcc hcol hx hg
        have h1:(0:Int)≤k:=by omega
        have h2:(k:Int)<n:=by omega
        by_cases hz:(x.toList==[48])=true
        · have hbad:asc l=false:=asc_bad k hkl (.inl (by rw [HX.out, ← Lib.toList_data];exact hz))
          have hr3:r=3:=by have:=HR.out;rw [hbad] at this;simpa using this.symm
          subst hr3
          clear hbad
          go_wp2_with fail
          go_quiet (fail)
          go_wp2
          go_ret
          exact ⟨rfl,Bel.drewN HW.out _⟩
        · have hzf:(x.toList==[48])=false:=by simpa using hz
          have hok1:(l[k].2.data.toList==[48])=false:=by rw [HX.out, ← Lib.toList_data];exact hzf
          clear hz
          by_cases hk0:k=0
          · have hg0:decide (0<k)=false:=by rw [hk0];rfl
            have HAS2:Hid (AscUp l (k+1)):=Lib.hid (fun i h hik=>by
             obtain rfl:i=k:=by omega
             exact ⟨hok1,fun h0=>by omega⟩)
            clear hok1 hk0
            go_wp2_with fail
            go_quiet (fail)
            go_wp2
            go_roundw
            case rel=>exact ⟨k+1,by omega,by go_num,HAS2,Lib.hid (Bel.drewN HW.out _)⟩
            case measure=>simp [intOf];omega
          · have hg0:decide (0<k)=true:=by simp;omega
            obtain ⟨j,hj⟩:∃ j,k=j+1:=⟨k-1,by omega⟩
            have hjl:j<l.length:=by omega
            have hprev:=(HCC.out j hjl).1
            obtain ⟨pc,hpc⟩:∃ pc,l[j].1=pc:=⟨_,rfl⟩
            rw [hpc] at hprev
            have hwj:IntKind.i64.wrap ((k:Int)-1)=(j:Int):=by rw [show (k:Int)-1=(j:Int) from by omega];exact IntWalk.i64_in _ (by omega)
            have hj1:(0:Int)≤j:=by omega
            have hj2:(j:Int)<n:=by omega
            have HKJ:=Lib.hid hj
            by_cases hge:col≤pc
            · have hgeb:decide (col≤pc)=true:=by simpa using hge
              have hbad:asc l=false:=asc_bad k hkl (.inr ⟨by omega,by
               have e:l[k-1].1=pc:=by rw [← hpc];congr 2;omega
               rw [e,HCOL.out];omega⟩)
              have hr3:r=3:=by have:=HR.out;rw [hbad] at this;simpa using this.symm
              subst hr3
              clear hbad hge hok1 hj hk0 hpc
              go_wp2_with fail
              go_quiet (fail)
              go_wp2
              go_ret
              exact ⟨rfl,Bel.drewN HW.out _⟩
            · have hgeb:decide (col≤pc)=false:=by simpa using hge
              have HAS2:Hid (AscUp l (k+1)):=Lib.hid (fun i h hik=>by
               rcases Nat.lt_or_ge i k with h2 | h2
               · exact HAS.out i h h2
               · obtain rfl:i=k:=by omega
                 refine ⟨hok1,fun h0 => ?_⟩
                 have e:l[i-1].1=pc:=by rw [← hpc];congr 2;omega
                 rw [e,HCOL.out];omega)
              clear hge hok1 hj hk0 hpc
              go_wp2_with fail
              go_quiet (fail)
              go_wp2
              go_roundw
              case rel=>exact ⟨k+1,by omega,by go_num,HAS2,Lib.hid (Bel.drewN HW.out _)⟩
              case measure=>simp [intOf];omega
      · obtain rfl:n=k:=by omega
        have hall:asc l=true:=asc_all (fun i h h2=>HAS.out i h (by rw [HLEN.out.2];exact h2))
        have hr0:r=0:=by have:=HR.out;rw [hall] at this;simpa using this.symm
        subst hr0
        have hnn:¬ (n:Int)<n:=by omega
        clear hv hall
        go_wp2
        go_ret
        exact ⟨rfl,HW.out⟩
   · go_wp2
     go_loopw [7] (fun i wr=>∃ k:Nat,k≤n∧i = .int .i64 k∧Hid (AscUp l k)∧Hid (Below w.heap.size w wr)) (fun i _=>n-(intOf i).toNat)
     case atStart=>exact ⟨0,Nat.zero_le _,rfl,Lib.hid (fun i _ h=>absurd h (Nat.not_lt_zero i)),HW1⟩
     case round =>
      obtain ⟨k,hk,rfl,HAS,HW⟩:=hrel
      obtain ⟨ad',n',cap',e1,e2,hv⟩:=HV.out.keep HW.out (Nat.le_refl _)
      cases e1
      have HLEN:=Lib.hid (And.intro trivial e2)
      have hn1:n≤1000:=by rw [e2];have:=HL.out.2;omega
      clear e2
      by_cases hlt:k<n
      · have hkl:k<l.length:=by rw [← HLEN.out.2];exact hlt
        obtain ⟨g,off,rfl,hg,hcc⟩:∃ g off,ad=some ⟨g,off,none⟩∧g<wr.heap.size∧∀ (i:Nat) (h:i<l.length),wr.cell? ⟨g,off+i*2,none⟩=some (.int .i64 l[i].1)∧wr.cell? ⟨g,off+i*2+1,none⟩=some (.string l[i].2):=by
         rcases hv with h | h
         · omega
         · exact h
        obtain ⟨hcell0,hcell1⟩:=hcc k hkl
        obtain ⟨col,hcol⟩:∃ col,l[k].1=col:=⟨_,rfl⟩
        obtain ⟨x,hx⟩:∃ x,l[k].2=x:=⟨_,rfl⟩
        rw [hcol] at hcell0
        rw [hx] at hcell1
        have HCOL:=Lib.hid hcol
        have HX:=Lib.hid hx
        have HCC:=Lib.hid hcc
        clear hv hcc hcol hx hg
        have h1:(0:Int)≤k:=by omega
        have h2:(k:Int)<n:=by omega
        by_cases hz:(x.toList==[48])=true
        · have hbad:asc l=false:=asc_bad k hkl (.inl (by rw [HX.out, ← Lib.toList_data];exact hz))
          have hr3:r=3:=by have:=HR.out;rw [hbad] at this;simpa using this.symm
          subst hr3
          clear hbad
          go_wp2_with fail
          go_quiet (fail)
          go_wp2
          go_ret
          exact ⟨rfl,Bel.drewN HW.out _⟩
        · have hzf:(x.toList==[48])=false:=by simpa using hz
          have hok1:(l[k].2.data.toList==[48])=false:=by rw [HX.out, ← Lib.toList_data];exact hzf
          clear hz
          by_cases hk0:k=0
          · have hg0:decide (0<k)=false:=by rw [hk0];rfl
            have HAS2:Hid (AscUp l (k+1)):=Lib.hid (fun i h hik=>by
             obtain rfl:i=k:=by omega
             exact ⟨hok1,fun h0=>by omega⟩)
            clear hok1 hk0
            go_wp2_with fail
            go_quiet (fail)
            go_wp2
            go_roundw
            case rel=>exact ⟨k+1,by omega,by go_num,HAS2,Lib.hid (Bel.drewN HW.out _)⟩
            case measure=>simp [intOf];omega
          · have hg0:decide (0<k)=true:=by simp;omega
            obtain ⟨j,hj⟩:∃ j,k=j+1:=⟨k-1,by omega⟩
            have hjl:j<l.length:=by omega
            have hprev:=(HCC.out j hjl).1
            obtain ⟨pc,hpc⟩:∃ pc,l[j].1=pc:=⟨_,rfl⟩
            rw [hpc] at hprev
            have hwj:IntKind.i64.wrap ((k:Int)-1)=(j:Int):=by rw [show (k:Int)-1=(j:Int) from by omega];exact IntWalk.i64_in _ (by omega)
            have hj1:(0:Int)≤j:=by omega
            have hj2:(j:Int)<n:=by omega
            have HKJ:=Lib.hid hj
            by_cases hge:col≤pc
            · have hgeb:decide (col≤pc)=true:=by simpa using hge
              have hbad:asc l=false:=asc_bad k hkl (.inr ⟨by omega,by
               have e:l[k-1].1=pc:=by rw [← hpc];congr 2;omega
               rw [e,HCOL.out];omega⟩)
              have hr3:r=3:=by have:=HR.out;rw [hbad] at this;simpa using this.symm
              subst hr3
              clear hbad hge hok1 hj hk0 hpc
              go_wp2_with fail
              go_quiet (fail)
              go_wp2
              go_ret
              exact ⟨rfl,Bel.drewN HW.out _⟩
            · have hgeb:decide (col≤pc)=false:=by simpa using hge
              have HAS2:Hid (AscUp l (k+1)):=Lib.hid (fun i h hik=>by
               rcases Nat.lt_or_ge i k with h2 | h2
               · exact HAS.out i h h2
               · obtain rfl:i=k:=by omega
                 refine ⟨hok1,fun h0 => ?_⟩
                 have e:l[i-1].1=pc:=by rw [← hpc];congr 2;omega
                 rw [e,HCOL.out];omega)
              clear hge hok1 hj hk0 hpc
              go_wp2_with fail
              go_quiet (fail)
              go_wp2
              go_roundw
              case rel=>exact ⟨k+1,by omega,by go_num,HAS2,Lib.hid (Bel.drewN HW.out _)⟩
              case measure=>simp [intOf];omega
      · obtain rfl:n=k:=by omega
        have hall:asc l=true:=asc_all (fun i h h2=>HAS.out i h (by rw [HLEN.out.2];exact h2))
        have hr0:r=0:=by have:=HR.out;rw [hall] at this;simpa using this.symm
        subst hr0
        have hnn:¬ (n:Int)<n:=by omega
        clear hv hall
        go_wp2
        go_ret
        exact ⟨rfl,HW.out⟩
end Go.Proofs.YtkhdocdddicgpaaGreatDoor
set_option linter.unusedVariables false
set_option linter.unusedSimpArgs false
namespace Go.Proofs.YtkhdocdddicgpaaGreatDoor
open Go.RowKit Go.Maps _root_.Go.Proofs.YtkhdocdddicgpaaGreatDoor.Nm
set_option maxRecDepth 100000 in
set_option maxHeartbeats 3200000 in
theorem lread_bad (x:ByteArray) (ad:Option Addr) (n cap:Nat) (l:List Tm) (w:World) (h:InF w ad n cap x l) (hbad:checkErr x l≠0) :
 Calls Tryz.prog 12 #[.agg #[.slice ad n cap,.string x]] w fun e w'=>e = .returned (.tuple #[.agg #[.slice none 0 0,.bool false,.slice none 0 0,.bool false,.slice none 0 0],.int .i64 3])∧Below w.heap.size w w':=by
 have hA:=(Below.refl w.heap.size w).alloc (Nat.le_refl _) (.cells #[.slice ad n cap,.string x] 24)
 have hA2:=hA.alloc (by simp) (.cells #[.slice none 0 0,.bool false,.slice none 0 0,.bool false,.slice none 0 0] 35)
 have hR:=B5.new (w.alloc (.cells #[.slice ad n cap,.string x] 24)) (.slice none 0 0) (.bool false) (.slice none 0 0) (.bool false) (.slice none 0 0) 35
 simp only [World.size_alloc] at hR
 have HB0:=Lib.hid ((Bx.new w (.slice ad n cap) (.string x) 24).alloc (.cells #[.slice none 0 0,.bool false,.slice none 0 0,.bool false,.slice none 0 0] 35))
 have HR0:=Lib.hid hR
 have HW0:=Lib.hid hA2
 have HV:=Lib.hid (h.keep hA2 (Nat.le_refl _))
 obtain ⟨r1,hr1⟩:∃ r,checkErr x l=r:=⟨_,rfl⟩
 rw [hr1] at hbad
 have HR1:=Lib.hid hr1
 have hg1:(r1 != 0)=true:=by simpa using hbad
 clear hA hA2 hR h hr1 hbad
 obtain ⟨a0,a1,a2,a3⟩:=HB0.out.cell
 go_enter Tryz.func12,Tryz.ntmps12
 go_wp2_with fail
 refine (fCheck_any x ad n cap l r1 _ HV.out.at_ HV.out.size HV.out.sizes HV.out.len HR1).mono ?_
 rintro e w1 ⟨rfl,hb⟩
 have HRX:=Lib.hid (HR0.out.keep hb)
 have HW1:=Lib.hid (HW0.out.trans (hb.mono HW0.out.size))
 clear hb a0 a1 a2 a3
 obtain ⟨b0,b1,b2,b3,b4⟩:=HRX.out.cell
 obtain ⟨f0,f1,f2,f3,f4⟩:=HRX.out.froz
 go_wp2
 obtain ⟨e0,e1,e2,e3,e4⟩:=(HRX.out.store (.slice none 0 0) (.bool false) (.slice none 0 0) (.bool false) (.slice none 0 0)).cell
 refine bodyPost_ret (v := .tuple #[.agg #[.slice none 0 0,.bool false,.slice none 0 0,.bool false,.slice none 0 0],.int .i64 3]) (by simp only [results,Tryz.results12];simp [go_sem,e0,e1,e2,e3,e4]) rfl ?_
 exact ⟨rfl,((((HW1.out.setCell (Nat.le_succ _) _).setCell (Nat.le_succ _) _).setCell (Nat.le_succ _) _).setCell (Nat.le_succ _) _).setCell (Nat.le_succ _) _⟩
set_option maxRecDepth 100000 in
set_option maxHeartbeats 3200000 in
theorem lread_good (qc:Rat) (x:ByteArray) (ad:Option Addr) (n cap:Nat) (q:List Qm) (w:World) (h:InV w ad n cap qc x q) :
 Calls Tryz.prog 12 #[.agg #[.slice ad n cap,.string x]] w fun e w'=>(∃ v,e = .returned (.tuple #[v,.int .i64 0])∧FormQ w' w.heap.size v (rowOf (co q) (colsOf q)) qc)∧Below w.heap.size w w':=by
 have hA:=(Below.refl w.heap.size w).alloc (Nat.le_refl _) (.cells #[.slice ad n cap,.string x] 24)
 have hA2:=hA.alloc (by simp) (.cells #[.slice none 0 0,.bool false,.slice none 0 0,.bool false,.slice none 0 0] 35)
 have hR:=B5.new (w.alloc (.cells #[.slice ad n cap,.string x] 24)) (.slice none 0 0) (.bool false) (.slice none 0 0) (.bool false) (.slice none 0 0) 35
 simp only [World.size_alloc] at hR
 have HB0:=Lib.hid ((Bx.new w (.slice ad n cap) (.string x) 24).alloc (.cells #[.slice none 0 0,.bool false,.slice none 0 0,.bool false,.slice none 0 0] 35))
 have HR0:=Lib.hid hR
 have HW0:=Lib.hid hA2
 have HV:=Lib.hid (h.keep hA2 (Nat.le_refl _))
 have HOK:=Lib.hid h.ok
 clear hA hA2 hR h
 obtain ⟨a0,a1,a2,a3⟩:=HB0.out.cell
 go_enter Tryz.func12,Tryz.ntmps12
 go_wp2_with fail
 refine (fCheck_any x ad n cap (tms q) 0 _ HV.out.in_.at_ HV.out.in_.size HV.out.in_.sizes HV.out.in_.len HOK).mono ?_
 rintro e w1 ⟨rfl,hb⟩
 have HRX:=Lib.hid (HR0.out.keep hb)
 have HBX:=Lib.hid (HB0.out.below hb HB0.out.lt)
 have HW1:=Lib.hid (HW0.out.trans (hb.mono HW0.out.size))
 have HV1:=Lib.hid (HV.out.keep hb (Nat.le_refl _))
 clear hb a0 a1 a2 a3
 obtain ⟨a0,a1,a2,a3⟩:=HBX.out.cell
 go_wp2_with fail
 refine (fRead_any x ad n cap (tms q) _ HV1.out.in_.at_ HV1.out.in_.size HV1.out.in_.sizes HV1.out.in_.len).mono ?_
 intro e w2 hres
 obtain ⟨hb,hres⟩:=hres
 have hp0:partsErr x (tms q)=0:=by rw [← HV1.out.is_];exact partsErr_tms HV1.out.short HV1.out.terms
 rw [if_neg (by rw [hp0];decide)] at hres
 have hres:=hres qc q HV1.out.short HV1.out.is_.symm rfl HV1.out.terms
 rw [acc_fo HV1.out.fo] at hres
 obtain ⟨v,rfl,s,cs,c4,rfl,hrow,hnum⟩:=hres
 obtain ⟨as',cap',hs⟩:=hrow.slice
 subst hs
 obtain ⟨n1,a1',l1,c1,n2,a2',l2,c2,rfl⟩:=hnum.expl
 have HROW:=Lib.hid hrow
 have HNUM:=Lib.hid hnum
 have HRY:=Lib.hid (HRX.out.keep hb)
 have HW2:=Lib.hid (HW1.out.trans (hb.mono HW1.out.size))
 have HLT:Hid (w.heap.size+1<w1.heap.size):=Lib.hid HRX.out.lt
 clear hb a0 a1 a2 a3 hrow hnum hp0
 obtain ⟨b0,b1,b2,b3,b4⟩:=HRY.out.cell
 obtain ⟨f0,f1,f2,f3,f4⟩:=HRY.out.froz
 dsimp only
 obtain ⟨ln,hln⟩:∃ ln,(rowOf (co q) (colsOf q)).length=ln:=⟨_,rfl⟩
 rw [hln]
 go_wp2
 obtain ⟨e0,e1,e2,e3,e4⟩:=(HRY.out.store (.slice as' ln cap') (.bool n1) (.slice a1' l1 c1) (.bool n2) (.slice a2' l2 c2)).cell
 refine bodyPost_ret (v := .tuple #[.agg #[.slice as' ln cap',.bool n1,.slice a1' l1 c1,.bool n2,.slice a2' l2 c2],.int .i64 0]) (by simp only [results,Tryz.results12];simp [go_sem,e0,e1,e2,e3,e4]) rfl ?_
 have hrow:=HROW.out
 rw [hln] at hrow
 have hka:Ka w1.heap.size w2 (w.heap.size+1) (.slice as' ln cap') (rowOf (co q) (colsOf q)) cs (.bool n1,.slice a1' l1 c1,.bool n2,.slice a2' l2 c2) qc:=⟨hrow,HNUM.out,HRY.out.bn (ni5 (ni_slice _ _ _) _ _ _ _ _ _ _ _),fun b hb=>by have:=(hrow.own.lt b hb).1;have:=HLT.out;omega⟩
 have hk5:=((((hka.set 0 (ni_slice as' ln cap')).set 1 (ni_bool n1)).set 2 (ni_slice a1' l1 c1)).set 3 (ni_bool n2)).set 4 (ni_slice a2' l2 c2)
 exact ⟨⟨_,rfl,_,cs,(.bool n1,.slice a1' l1 c1,.bool n2,.slice a2' l2 c2),rfl,hk5.row.base (by have:=HLT.out;omega),hk5.num⟩,((((HW2.out.setCell (Nat.le_succ _) _).setCell (Nat.le_succ _) _).setCell (Nat.le_succ _) _).setCell (Nat.le_succ _) _).setCell (Nat.le_succ _) _⟩
end Go.Proofs.YtkhdocdddicgpaaGreatDoor
set_option linter.unusedVariables false
set_option linter.unusedSimpArgs false
namespace Go.Proofs.YtkhdocdddicgpaaGreatDoor
open Go.RowKit Go.Maps _root_.Go.Proofs.YtkhdocdddicgpaaGreatDoor.Nm
set_option maxRecDepth 100000 in
set_option maxHeartbeats 3200000 in
theorem rCoef_any (s:Value) (n1 n2:Bool) (p1 p2:Option Addr) (l1 c1 l2 c2 B m:Nat) (f:Int→Rat) (cs:List C4) (col:Int) (r:Rat) (w:World) (h:RowQ B w s (rowOf f m) cs) (hr:Hid ((if 0≤col∧col<(m:Int) then f col else 0)=r)) :
 Calls Tryz.prog 20 #[.agg #[s,.bool n1,.slice p1 l1 c1,.bool n2,.slice p2 l2 c2],.int .i64 col] w (RRPost r w):=by
 obtain ⟨as',cap',rfl⟩:=h.slice
 rw [rowOf_length]
 rw [rowOf_length] at h
 have hA:=(Below.refl w.heap.size w).alloc (Nat.le_refl _) (.cells #[.slice as' m cap',.bool n1,.slice p1 l1 c1,.bool n2,.slice p2 l2 c2] 35)
 have hA2:=hA.alloc (by simp) (.cells #[.bool false,.slice none 0 0,.bool false,.slice none 0 0] 33)
 have hR:=B4.new (w.alloc (.cells #[.slice as' m cap',.bool n1,.slice p1 l1 c1,.bool n2,.slice p2 l2 c2] 35)) (.bool false) (.slice none 0 0) (.bool false) (.slice none 0 0) 33
 simp only [World.size_alloc] at hR
 have HR0:=Lib.hid hR
 have HW0:=Lib.hid hA2
 have HF0:=Lib.hid ((B5.new w (.slice as' m cap') (.bool n1) (.slice p1 l1 c1) (.bool n2) (.slice p2 l2 c2) 35).keep ((Below.refl _ _).alloc (Nat.le_refl _) (.cells #[.bool false,.slice none 0 0,.bool false,.slice none 0 0] 33)))
 have HQ0:=Lib.hid (h.keep hA)
 have HAA:=Lib.hid hA
 clear hA hA2 hR h
 obtain ⟨a0,a1,a2,a3,a4⟩:=HF0.out.cell
 go_enter Tryz.func20,Tryz.ntmps20
 by_cases hneg:col<0
 · obtain rfl:(0:Rat)=r:=by rw [← hr.out,if_neg (by omega)]
   go_wp2_with fail
   refine (rrInt_zero _).mono ?_
   rintro e w1 ⟨v1,rfl,hr1,hb⟩
   obtain ⟨m1,b1,j1,d1,m2,b2,j2,d2,rfl,hz1,hz2⟩:=hr1
   have HV:Hid (RRef w1 (.agg #[.bool m1,.slice b1 j1 d1,.bool m2,.slice b2 j2 d2]) 0):=Lib.hid ⟨_,_,_,_,_,_,_,_,rfl,hz1,hz2⟩
   have HR1:=Lib.hid (HR0.out.below hb HR0.out.lt)
   have HW1:=Lib.hid (HW0.out.trans (hb.mono HW0.out.size))
   clear hb hz1 hz2 a0 a1 a2 a3 a4
   obtain ⟨k0,k1,k2,k3⟩:=HR1.out.cell
   obtain ⟨f0,f1,f2,f3⟩:=HR1.out.froz
   go_wp2
   obtain ⟨l0,l1',l2',l3'⟩:=(HR1.out.put (.bool m1) (.slice b1 j1 d1) (.bool m2) (.slice b2 j2 d2)).cell
   refine bodyPost_ret (v := .agg #[.bool m1,.slice b1 j1 d1,.bool m2,.slice b2 j2 d2]) (by simp only [results,Tryz.results20];simp [go_sem,l0,l1',l2',l3']) rfl ?_
   exact RRPost.boxed HV.out HR1.out HW1.out (by omega) _ _ _ _
 · by_cases hbig:(m:Int)≤col
   · obtain rfl:(0:Rat)=r:=by rw [← hr.out,if_neg (by omega)]
     go_wp2_with fail
     refine (rrInt_zero _).mono ?_
     rintro e w1 ⟨v1,rfl,hr1,hb⟩
     obtain ⟨m1,b1,j1,d1,m2,b2,j2,d2,rfl,hz1,hz2⟩:=hr1
     have HV:Hid (RRef w1 (.agg #[.bool m1,.slice b1 j1 d1,.bool m2,.slice b2 j2 d2]) 0):=Lib.hid ⟨_,_,_,_,_,_,_,_,rfl,hz1,hz2⟩
     have HR1:=Lib.hid (HR0.out.below hb HR0.out.lt)
     have HW1:=Lib.hid (HW0.out.trans (hb.mono HW0.out.size))
     clear hb hz1 hz2 a0 a1 a2 a3 a4
     obtain ⟨k0,k1,k2,k3⟩:=HR1.out.cell
     obtain ⟨f0,f1,f2,f3⟩:=HR1.out.froz
     go_wp2
     obtain ⟨l0,l1',l2',l3'⟩:=(HR1.out.put (.bool m1) (.slice b1 j1 d1) (.bool m2) (.slice b2 j2 d2)).cell
     refine bodyPost_ret (v := .agg #[.bool m1,.slice b1 j1 d1,.bool m2,.slice b2 j2 d2]) (by simp only [results,Tryz.results20];simp [go_sem,l0,l1',l2',l3']) rfl ?_
     exact RRPost.boxed HV.out HR1.out HW1.out (by omega) _ _ _ _
   · obtain ⟨j,rfl⟩:∃ j:Nat,col=(j:Int):=⟨col.toNat,(Int.toNat_of_nonneg (by omega)).symm⟩
     have hjm:j<m:=by omega
     have hrv:f (j:Int)=r:=by rw [← hr.out,if_pos (by omega)]
     obtain ⟨gr,capr,cr,ev,t0,t1,t2,t3,hrr⟩:=HQ0.out.at j (by rw [rowOf_length];exact hjm)
     rw [rowOf_get,hrv] at hrr
     rw [rowOf_length] at ev
     simp only [Value.slice.injEq,true_and] at ev
     obtain ⟨rfl,rfl⟩:=ev
     obtain ⟨q1,q2,q3,q4,q5,q6,q7,q8,rfl⟩:=hrr.expl
     dsimp only at t0 t1 t2 t3
     have HRR:=Lib.hid hrr
     have hgr:=World.block_lt_of_cell? _ _ t0
     have hB:=(Below.refl (w.alloc (.cells #[.slice (some ⟨gr,0,none⟩) m cap',.bool n1,.slice p1 l1 c1,.bool n2,.slice p2 l2 c2] 35)).heap.size (w.alloc (.cells #[.slice (some ⟨gr,0,none⟩) m cap',.bool n1,.slice p1 l1 c1,.bool n2,.slice p2 l2 c2] 35))).alloc (Nat.le_refl _) (.cells #[.bool false,.slice none 0 0,.bool false,.slice none 0 0] 33)
     have t0:=(hB.cell (p:=⟨gr,j*4,none⟩) hgr).trans t0
     have t1:=(hB.cell (p:=⟨gr,j*4+1,none⟩) hgr).trans t1
     have t2:=(hB.cell (p:=⟨gr,j*4+2,none⟩) hgr).trans t2
     have t3:=(hB.cell (p:=⟨gr,j*4+3,none⟩) hgr).trans t3
     have h1:(0:Int)≤j:=by omega
     have h2:(j:Int)<m:=by omega
     clear hrr hrv hr hB hgr
     obtain ⟨k0,k1,k2,k3⟩:=HR0.out.cell
     obtain ⟨f0,f1,f2,f3⟩:=HR0.out.froz
     go_wp2
     have hN:=B4.new (w.alloc (.cells #[.slice (some ⟨gr,0,none⟩) m cap',.bool n1,.slice p1 l1 c1,.bool n2,.slice p2 l2 c2] 35)) (.bool q1) (.slice q2 q3 q4) (.bool q5) (.slice q6 q7 q8) 33
     simp only [World.size_alloc] at hN
     obtain ⟨e0,e1',e2',e3'⟩:=hN.cell
     refine bodyPost_ret (v := .agg #[.bool q1,.slice q2 q3 q4,.bool q5,.slice q6 q7 q8]) (by simp only [results,Tryz.results20];simp [go_sem,e0,e1',e2',e3']) rfl ?_
     exact ⟨_,rfl,HRR.out.keep ((Below.refl _ _).alloc (Nat.le_refl _) _) (Nat.le_refl _),HAA.out.alloc HAA.out.size _⟩
end Go.Proofs.YtkhdocdddicgpaaGreatDoor
set_option linter.unusedVariables false
set_option linter.unusedSimpArgs false
namespace Go.Proofs.YtkhdocdddicgpaaGreatDoor
open Go.RowKit Go.Maps _root_.Go.Proofs.YtkhdocdddicgpaaGreatDoor.Nm
def formUp (f:Int→Rat) (n:Nat):List Qm:=((List.range n).filter fun (c:Nat)=>decide (f (c:Int)≠0)).map fun (c:Nat)=>((c:Int),f c)
theorem formUp_skip {f:Int→Rat} {n:Nat} (h:f (n:Int)=0):formUp f (n+1)=formUp f n:=by
 unfold formUp
 rw [List.range_succ,List.filter_append,List.filter_cons,if_neg (by simp [h])]
 simp
theorem formUp_add {f:Int→Rat} {n:Nat} (h:f (n:Int)≠0):formUp f (n+1)=formUp f n++[((n:Int),f n)]:=by
 unfold formUp
 rw [List.range_succ,List.filter_append,List.filter_cons,if_pos (by simp [h])]
 simp
theorem co_beyond {q:List Qm} (hq:∀ p∈q,0≤p.1) {c:Nat} (h:colsOf q≤c):co q (c:Int)=0:=by
 refine co_none q _ fun p hp e => ?_
 have h1:=colsUp_mem q 0 p hp
 have h2:=hq p hp
 unfold colsOf at h
 omega
end Go.Proofs.YtkhdocdddicgpaaGreatDoor
set_option linter.unusedVariables false
set_option linter.unusedSimpArgs false
namespace Go.Proofs.YtkhdocdddicgpaaGreatDoor
open Go.RowKit Go.Maps _root_.Go.Proofs.YtkhdocdddicgpaaGreatDoor.Nm
theorem tm_ten {q:List Qm} {K:Nat} (h:∀ t∈tms q,t.2.size≤K) (hq:∀ p∈q,rshort p.2=true):∀ p∈q,RT K p.2:=fun p hp =>
 (txt_is (hq p hp)).ten (h (p.1,txt p.2) (List.mem_map.2 ⟨p,hp,rfl⟩))
theorem co_ten {q:List Qm} (h:∀ t∈tms q,t.2.size≤120) (hq:Fo q) (c:Int):RT 120 (co q c):=by
 by_cases h0:co q c=0
 · rw [h0];exact ⟨⟨0,Nat.zero_le _,by decide⟩,Ten.one (by omega)⟩
 · exact tm_ten h (fun p hp=>(hq.1 p hp).2.1) _ (co_ne q c h0)
theorem light_sizes {x:ByteArray} {l:List Tm} (h:lightB x l=true):(∀ t∈l,t.2.size≤120)∧l.length≤8∧x.size≤120:=by
 unfold lightB shortC at h
 simp only [Bool.and_eq_true,decide_eq_true_eq,List.all_eq_true] at h
 exact ⟨fun t ht=>h.1 _ (List.mem_map.2 ⟨t,ht,rfl⟩),h.2.1,h.2.2⟩
end Go.Proofs.YtkhdocdddicgpaaGreatDoor
set_option linter.unusedVariables false
set_option linter.unusedSimpArgs false
namespace Go.Proofs.YtkhdocdddicgpaaGreatDoor
open Go.RowKit Go.Maps _root_.Go.Proofs.YtkhdocdddicgpaaGreatDoor.Nm
theorem B4.same {W W':World} {g:Nat} {x y z u:Value} (h:B4 W g x y z u) (hk:W'.heap[g]?=W.heap[g]?):B4 W' g x y z u:=by
 obtain ⟨T,h⟩:=h
 exact ⟨T,hk.trans h⟩
set_option maxRecDepth 100000 in
set_option maxHeartbeats 6400000 in
theorem rfAdd_any (s1 s2:Value) (n1 n2:Bool) (a1 a2:Option Addr) (l1 c1 l2 c2:Nat) (m1 m2:Bool) (b1 b2:Option Addr) (j1 d1 j2 d2:Nat) (B1 B2 m n:Nat) (f g:Int→Rat) (cs1 cs2:List C4) (rc:Rat) (w:World) (h1:RowQ B1 w s1 (rowOf f m) cs1) (h2:RowQ B2 w s2 (rowOf g n) cs2)
 (hf0:∀ c,(m:Int)≤c→f c=0) (hg0:∀ c,(n:Int)≤c→g c=0) (htf:∀ c,RT 400 (f c)) (htg:∀ c,RT 400 (g c)) (hm:m≤2048) (hn:n≤2048)
 (hadd:∀ W,Below w.heap.size w W→Calls Tryz.prog 40 #[.agg #[.bool n1,.slice a1 l1 c1,.bool n2,.slice a2 l2 c2],.agg #[.bool m1,.slice b1 j1 d1,.bool m2,.slice b2 j2 d2]] W (RRPost rc W)) :
 Calls Tryz.prog 15 #[.agg #[s1,.bool n1,.slice a1 l1 c1,.bool n2,.slice a2 l2 c2],.agg #[s2,.bool m1,.slice b1 j1 d1,.bool m2,.slice b2 j2 d2]] w fun e w'=>(∃ v,e = .returned v∧FormQ w' w.heap.size v (rowOf (fun c=>f c+g c) (max m n)) rc)∧Below w.heap.size w w':=by
 obtain ⟨p1,cap1,hs1⟩:=h1.slice
 rw [rowOf_length] at hs1
 subst hs1
 obtain ⟨p2,cap2,hs2⟩:=h2.slice
 rw [rowOf_length] at hs2
 subst hs2
 obtain ⟨M,hM⟩:∃ M,max m n=M:=⟨_,rfl⟩
 have hmx:max (m:Int) (n:Int)=(M:Int):=by omega
 have hM2:M≤2048:=by omega
 rw [hM]
 have hA1:=(Below.refl w.heap.size w).alloc (Nat.le_refl _) (.cells #[.slice p1 m cap1,.bool n1,.slice a1 l1 c1,.bool n2,.slice a2 l2 c2] 35)
 have hA2:=hA1.alloc (by simp) (.cells #[.slice p2 n cap2,.bool m1,.slice b1 j1 d1,.bool m2,.slice b2 j2 d2] 35)
 have hA3:=hA2.alloc (by simp;omega) (.cells #[.slice none 0 0,.bool false,.slice none 0 0,.bool false,.slice none 0 0] 35)
 have hBA:=((B5.new w (.slice p1 m cap1) (.bool n1) (.slice a1 l1 c1) (.bool n2) (.slice a2 l2 c2) 35).keep ((Below.refl _ _).alloc (Nat.le_refl _) (.cells #[.slice p2 n cap2,.bool m1,.slice b1 j1 d1,.bool m2,.slice b2 j2 d2] 35))).keep ((Below.refl _ _).alloc (Nat.le_refl _) (.cells #[.slice none 0 0,.bool false,.slice none 0 0,.bool false,.slice none 0 0] 35))
 have hBB0:=B5.new (w.alloc (.cells #[.slice p1 m cap1,.bool n1,.slice a1 l1 c1,.bool n2,.slice a2 l2 c2] 35)) (.slice p2 n cap2) (.bool m1) (.slice b1 j1 d1) (.bool m2) (.slice b2 j2 d2) 35
 have hBB:=hBB0.keep ((Below.refl _ _).alloc (Nat.le_refl _) (.cells #[.slice none 0 0,.bool false,.slice none 0 0,.bool false,.slice none 0 0] 35))
 have hBZ:=B5.new ((w.alloc (.cells #[.slice p1 m cap1,.bool n1,.slice a1 l1 c1,.bool n2,.slice a2 l2 c2] 35)).alloc (.cells #[.slice p2 n cap2,.bool m1,.slice b1 j1 d1,.bool m2,.slice b2 j2 d2] 35)) (.slice none 0 0) (.bool false) (.slice none 0 0) (.bool false) (.slice none 0 0) 35
 simp only [World.size_alloc] at hBB hBZ
 have HBA:=Lib.hid hBA
 have HBB:=Lib.hid hBB
 have HBZ:=Lib.hid hBZ
 have HW0:=Lib.hid hA3
 have HQ1:=Lib.hid h1
 have HQ2:=Lib.hid h2
 have HM:=Lib.hid (And.intro hM (And.intro hf0 hg0))
 have HT:=Lib.hid (And.intro htf htg)
 have HADD:=Lib.hid hadd
 clear hA1 hA2 hA3 hBA hBB0 hBB hBZ h1 h2 hM hf0 hg0 htf htg hadd
 obtain ⟨x0,x1,x2,x3,x4⟩:=HBA.out.cell
 obtain ⟨y0,y1,y2,y3,y4⟩:=HBB.out.cell
 go_enter Tryz.func15,Tryz.ntmps15
 go_wp2_with fail
 refine (rZero_any M _ (by omega)).mono ?_
 rintro e w5 ⟨⟨v,rfl,sv,cs0,c4,rfl,hrow,hnum⟩,hb⟩
 obtain ⟨i1,q1,k1,r1,i2,q2,k2,r2,rfl⟩:=hnum.expl
 obtain ⟨asl,cas,hsv⟩:=hrow.slice
 rw [List.length_replicate] at hsv
 subst hsv
 have hC:Below w5.heap.size w5 (w5.alloc (.cells #[.slice asl M cas,.bool i1,.slice q1 k1 r1,.bool i2,.slice q2 k2 r2] 35)):=(Below.refl _ w5).alloc (Nat.le_refl _) _
 have hbC:=hb.trans (hC.mono hb.size)
 have HBA5:=Lib.hid (HBA.out.keep hbC)
 have HBB5:=Lib.hid (HBB.out.keep hbC)
 have HBZ5:=Lib.hid (HBZ.out.keep hbC)
 have HW5:=Lib.hid (HW0.out.trans (hbC.mono HW0.out.size))
 have hro:=(hrow.keep hC).base (B':=w.heap.size+3) (by simp)
 have HRO:=Lib.hid hro
 have HN5:=Lib.hid (B5.new w5 (.slice asl M cas) (.bool i1) (.slice q1 k1 r1) (.bool i2) (.slice q2 k2 r2) 35)
 have HLT:Hid (w.heap.size+3≤w5.heap.size):=Lib.hid (by have:=hb.size;simp at this;omega)
 have HNE:Hid (∀ b,(Value.slice asl M cas).ownBlock=some b→b≠w5.heap.size):=Lib.hid (fun b hb=>by have:=(hrow.own.lt b hb).2;omega)
 clear hrow hnum hb hC hbC hro x0 x1 x2 x3 x4
 clear y0 y1 y2 y3 y4
 go_wp2
 go_loopw [6] (fun i W=>∃ (k:Nat) (f':Int→Rat) (cs:List C4),k≤M∧i = .int .i64 k∧Hid (∀ c:Int,f' c=if 0≤c∧c<(k:Int) then f c+g c else 0)∧Hid (RowQ (w.heap.size+3) W (.slice asl M cas) (rowOf f' M) cs)∧Hid (B5 W w5.heap.size (.slice asl M cas) (.bool i1) (.slice q1 k1 r1) (.bool i2) (.slice q2 k2 r2))∧Hid (B5 W w.heap.size (.slice p1 m cap1) (.bool n1) (.slice a1 l1 c1) (.bool n2) (.slice a2 l2 c2))∧Hid (B5 W (w.heap.size+1) (.slice p2 n cap2) (.bool m1) (.slice b1 j1 d1) (.bool m2) (.slice b2 j2 d2))∧Hid (B5 W (w.heap.size+1+1) (.slice none 0 0) (.bool false) (.slice none 0 0) (.bool false) (.slice none 0 0))∧Hid (Below w.heap.size w W)) (fun i _=>M-(intOf i).toNat)
 case atStart=>exact ⟨0,fun _=>0,cs0,Nat.zero_le _,rfl,Lib.hid (fun c=>by rw [if_neg (by omega)]),Lib.hid (by rw [rowOf_zero];exact HRO.out),HN5,HBA5,HBB5,HBZ5,HW5⟩
 case round =>
  obtain ⟨k,f',cs,hk,rfl,HF,HROW,HN,HBX,HBY,HBZ6,HW⟩:=hrel
  obtain ⟨x0,x1,x2,x3,x4⟩:=HN.out.cell
  by_cases hlt:k<M
  · obtain ⟨gr,capr,cr,ev,-,-,-,-,-⟩:=HROW.out.at k (by rw [rowOf_length];exact hlt)
    rw [rowOf_length] at ev
    simp only [Value.slice.injEq,true_and] at ev
    obtain ⟨rfl,rfl⟩:=ev
    have hgne:gr≠w5.heap.size:=HNE.out gr rfl
    have hgB:=(HROW.out.own.lt gr rfl).1
    obtain ⟨ra,hra⟩:∃ r,(if 0≤(k:Int)∧(k:Int)<(m:Int) then f (k:Int) else 0)=r:=⟨_,rfl⟩
    obtain ⟨rb,hrb⟩:∃ r,(if 0≤(k:Int)∧(k:Int)<(n:Int) then g (k:Int) else 0)=r:=⟨_,rfl⟩
    have era:ra=f (k:Int):=by
     rw [← hra]
     by_cases h:(k:Int)<m
     · rw [if_pos ⟨by omega,h⟩]
     · rw [if_neg (fun x=>h x.2),HM.out.2.1 _ (by omega)]
    have erb:rb=g (k:Int):=by
     rw [← hrb]
     by_cases h:(k:Int)<n
     · rw [if_pos ⟨by omega,h⟩]
     · rw [if_neg (fun x=>h x.2),HM.out.2.2 _ (by omega)]
    obtain ⟨r,hr⟩:∃ r,ra+rb=r:=⟨_,rfl⟩
    have HRA:=Lib.hid hra
    have HRB:=Lib.hid hrb
    have HRS:=Lib.hid hr
    have HTA:Hid (RT 400 ra):=Lib.hid (by rw [era];exact HT.out.1 _)
    have HTB:Hid (RT 400 rb):=Lib.hid (by rw [erb];exact HT.out.2 _)
    have HRR:Hid (r=f (k:Int)+g (k:Int)):=Lib.hid (by rw [← hr,era,erb])
    clear era erb hra hrb hr
    have hSW:∀ W',Below wr.heap.size wr W'→W'.cell? ⟨w5.heap.size,0,none⟩=some (.slice (some ⟨gr,0,none⟩) M cas)∧W'.cell? ⟨w.heap.size,0,none⟩=some (.slice p1 m cap1)∧W'.cell? ⟨w.heap.size,1,none⟩=some (.bool n1)∧W'.cell? ⟨w.heap.size,2,none⟩=some (.slice a1 l1 c1)∧W'.cell? ⟨w.heap.size,3,none⟩=some (.bool n2)∧W'.cell? ⟨w.heap.size,4,none⟩=some (.slice a2 l2 c2)∧W'.cell? ⟨w.heap.size+1,0,none⟩=some (.slice p2 n cap2)∧W'.cell? ⟨w.heap.size+1,1,none⟩=some (.bool m1)∧W'.cell? ⟨w.heap.size+1,2,none⟩=some (.slice b1 j1 d1)∧W'.cell? ⟨w.heap.size+1,3,none⟩=some (.bool m2)∧W'.cell? ⟨w.heap.size+1,4,none⟩=some (.slice b2 j2 d2):=fun W' hb=>⟨(hb.cell HN.out.lt).trans HN.out.cell.1,(hb.cell HBX.out.lt).trans HBX.out.cell.1,(hb.cell HBX.out.lt).trans HBX.out.cell.2.1,(hb.cell HBX.out.lt).trans HBX.out.cell.2.2.1,(hb.cell HBX.out.lt).trans HBX.out.cell.2.2.2.1,(hb.cell HBX.out.lt).trans HBX.out.cell.2.2.2.2,(hb.cell HBY.out.lt).trans HBY.out.cell.1,(hb.cell HBY.out.lt).trans HBY.out.cell.2.1,(hb.cell HBY.out.lt).trans HBY.out.cell.2.2.1,(hb.cell HBY.out.lt).trans HBY.out.cell.2.2.2.1,(hb.cell HBY.out.lt).trans HBY.out.cell.2.2.2.2⟩
    have HSW:=Lib.hid hSW
    have h1:(0:Int)≤k:=by omega
    have h2:(k:Int)<M:=by omega
    have hkM:k*4+3<M*4:=by omega
    have hS0:=HSW.out wr.drew (Below.refl _ wr).drew
    clear hSW
    go_wp2_with fail
    refine region_plainX (S:=fun W'=>W'.cell? ⟨w5.heap.size,0,none⟩=some (.slice (some ⟨gr,0,none⟩) M cas)∧W'.cell? ⟨w.heap.size,0,none⟩=some (.slice p1 m cap1)∧W'.cell? ⟨w.heap.size,1,none⟩=some (.bool n1)∧W'.cell? ⟨w.heap.size,2,none⟩=some (.slice a1 l1 c1)∧W'.cell? ⟨w.heap.size,3,none⟩=some (.bool n2)∧W'.cell? ⟨w.heap.size,4,none⟩=some (.slice a2 l2 c2)∧W'.cell? ⟨w.heap.size+1,0,none⟩=some (.slice p2 n cap2)∧W'.cell? ⟨w.heap.size+1,1,none⟩=some (.bool m1)∧W'.cell? ⟨w.heap.size+1,2,none⟩=some (.slice b1 j1 d1)∧W'.cell? ⟨w.heap.size+1,3,none⟩=some (.bool m2)∧W'.cell? ⟨w.heap.size+1,4,none⟩=some (.slice b2 j2 d2)) (m:=11) (by kernel_rfl) ?_
    refine x_take (i:=0) (v := .pointer (some ⟨w5.heap.size,0,none⟩)) rfl rfl (by kernel_rfl) (by kernel_rfl) (by kernel_rfl) (by kernel_rfl) (fun _ _ _ h=>h) (.inl ⟨by rfl,?_⟩) hS0 ?_
    · intro w hSw;(try dsimp only at hSw);go_simp
    simp only [Act.put,List.setIfInBounds_toArray,List.set_cons_zero,List.set_cons_succ]
    refine x_take (i:=1) (v := .slice (some ⟨gr,0,none⟩) M cas) rfl rfl (by kernel_rfl) (by kernel_rfl) (by kernel_rfl) (by kernel_rfl) (fun _ _ _ h=>h) (.inl ⟨by rfl,?_⟩) hS0 ?_
    · intro w hSw;(try dsimp only at hSw);go_simp
    simp only [Act.put,List.setIfInBounds_toArray,List.set_cons_zero,List.set_cons_succ]
    refine x_take (i:=2) (v := .int .i64 k) rfl rfl (by kernel_rfl) (by kernel_rfl) (by kernel_rfl) (by kernel_rfl) (fun _ _ _ h=>h) (.inl ⟨by rfl,?_⟩) hS0 ?_
    · intro w hSw;(try dsimp only at hSw);go_simp
    simp only [Act.put,List.setIfInBounds_toArray,List.set_cons_zero,List.set_cons_succ]
    refine x_take (i:=3) (v := .agg #[.slice p1 m cap1,.bool n1,.slice a1 l1 c1,.bool n2,.slice a2 l2 c2]) rfl rfl (by kernel_rfl) (by kernel_rfl) (by kernel_rfl) (by kernel_rfl) (fun _ _ _ h=>h) (.inl ⟨by rfl,?_⟩) hS0 ?_
    · intro w hSw;(try dsimp only at hSw);go_simp
    simp only [Act.put,List.setIfInBounds_toArray,List.set_cons_zero,List.set_cons_succ]
    refine x_take (i:=4) (v := .int .i64 k) rfl rfl (by kernel_rfl) (by kernel_rfl) (by kernel_rfl) (by kernel_rfl) (fun _ _ _ h=>h) (.inl ⟨by rfl,?_⟩) hS0 ?_
    · intro w hSw;(try dsimp only at hSw);go_simp
    simp only [Act.put,List.setIfInBounds_toArray,List.set_cons_zero,List.set_cons_succ]
    refine x_take (i:=6) (v := .agg #[.slice p2 n cap2,.bool m1,.slice b1 j1 d1,.bool m2,.slice b2 j2 d2]) rfl rfl (by kernel_rfl) (by kernel_rfl) (by kernel_rfl) (by kernel_rfl) (fun _ _ _ h=>h) (.inl ⟨by rfl,?_⟩) hS0 ?_
    · intro w hSw;(try dsimp only at hSw);go_simp
    simp only [Act.put,List.setIfInBounds_toArray,List.set_cons_zero,List.set_cons_succ]
    refine x_take (i:=7) (v := .int .i64 k) rfl rfl (by kernel_rfl) (by kernel_rfl) (by kernel_rfl) (by kernel_rfl) (fun _ _ _ h=>h) (.inl ⟨by rfl,?_⟩) hS0 ?_
    · intro w hSw;(try dsimp only at hSw);go_simp
    simp only [Act.put,List.setIfInBounds_toArray,List.set_cons_zero,List.set_cons_succ]
    refine x_one (i:=5) (by kernel_rfl) rfl (fun K' hK' => ?_)
    go_simp
    refine (rCoef_any _ _ _ _ _ _ _ _ _ _ m f cs1 (k:Int) _ _ (HQ1.out.keep (HW.out.trans (((Below.refl wr.heap.size wr).drew).mono HW.out.size))) HRA).mono ?_
    rintro e w7 ⟨vw7,rfl,hrw7,hbw7⟩
    have hxw7:Below wr.heap.size wr w7:=((Below.refl wr.heap.size wr).drew).trans (hbw7.mono (((Below.refl wr.heap.size wr).drew)).size)
    obtain ⟨E1,E2,E3,E4,E5,E6,E7,E8,rfl,z1,z2⟩:=hrw7
    have hrw7:RRef w7 (.agg #[.bool E1,.slice E2 E3 E4,.bool E5,.slice E6 E7 E8]) ra:=⟨_,_,_,_,_,_,_,_,rfl,z1,z2⟩
    dsimp only
    refine hK'.out _ _ (fun _=>HSW.out _ hxw7) ?_
    clear hK' K' z1 z2
    refine x_one (i:=8) (by kernel_rfl) rfl (fun K' hK' => ?_)
    go_simp
    refine (rCoef_any _ _ _ _ _ _ _ _ _ _ n g cs2 (k:Int) _ _ (HQ2.out.keep (HW.out.trans (hxw7.mono HW.out.size))) HRB).mono ?_
    rintro e w8 ⟨vw8,rfl,hrw8,hbw8⟩
    have hxw8:Below wr.heap.size wr w8:=hxw7.trans (hbw8.mono (hxw7).size)
    obtain ⟨H1,H2,H3,H4,H5,H6,H7,H8,rfl,z1,z2⟩:=hrw8
    have hrw8:RRef w8 (.agg #[.bool H1,.slice H2 H3 H4,.bool H5,.slice H6 H7 H8]) rb:=⟨_,_,_,_,_,_,_,_,rfl,z1,z2⟩
    dsimp only
    refine hK'.out _ _ (fun _=>HSW.out _ hxw8) ?_
    clear hK' K' z1 z2
    refine x_one (i:=9) (by kernel_rfl) rfl (fun K' hK' => ?_)
    go_simp
    refine (rrAdd_any _ _ ra rb 400 r _ (hrw7.keep hbw8 (Nat.le_refl _)) hrw8 HTA.out HTB.out (Nat.le_refl _) HRS).mono ?_
    rintro e w9 ⟨v9,rfl,hr9,hb9⟩
    have hby:Below wr.heap.size wr w9:=hxw8.trans (hb9.mono hxw8.size)
    obtain ⟨D1,D2,D3,D4,D5,D6,D7,D8,rfl,z1,z2⟩:=hr9
    have hr9:RRef w9 (agg4 (.bool D1,.slice D2 D3 D4,.bool D5,.slice D6 D7 D8)) r:=⟨_,_,_,_,_,_,_,_,rfl,z1,z2⟩
    have hrow9:=HROW.out.keep hby
    obtain ⟨hrow10,hoff⟩:=hrow9.set k (by rw [rowOf_length];omega) hr9
    rw [rowOf_set] at hrow10
    dsimp only at hrow10 hoff
    have HROW10:=Lib.hid hrow10
    have HN10:=Lib.hid ((HN.out.keep hby).same (heap_set4 w9 gr (k*4) (k*4+1) (k*4+2) (k*4+3) (.bool D1) (.slice D2 D3 D4) (.bool D5) (.slice D6 D7 D8) w5.heap.size (fun e=>hgne e.symm)))
    have HBX10:=Lib.hid ((HBX.out.keep hby).same (heap_set4 w9 gr (k*4) (k*4+1) (k*4+2) (k*4+3) (.bool D1) (.slice D2 D3 D4) (.bool D5) (.slice D6 D7 D8) w.heap.size (by omega)))
    have HBY10:=Lib.hid ((HBY.out.keep hby).same (heap_set4 w9 gr (k*4) (k*4+1) (k*4+2) (k*4+3) (.bool D1) (.slice D2 D3 D4) (.bool D5) (.slice D6 D7 D8) (w.heap.size+1) (by omega)))
    have HBZ10:=Lib.hid ((HBZ6.out.keep hby).same (heap_set4 w9 gr (k*4) (k*4+1) (k*4+2) (k*4+3) (.bool D1) (.slice D2 D3 D4) (.bool D5) (.slice D6 D7 D8) (w.heap.size+1+1) (by omega)))
    have HW10:=Lib.hid (below_set4 (HW.out.trans (hby.mono HW.out.size)) gr (k*4) (k*4+1) (k*4+2) (k*4+3) (.bool D1) (.slice D2 D3 D4) (.bool D5) (.slice D6 D7 D8) (by omega))
    have HF10:Hid (∀ c:Int,upd f' (k:Int) r c=if 0≤c∧c<((k+1:Nat):Int) then f c+g c else 0):=Lib.hid (fun c=>by
     by_cases e:c=(k:Int)
     · subst e;rw [upd_same,if_pos ⟨by omega,by omega⟩];exact HRR.out
     · rw [upd_other _ _ e,HF.out c]
       by_cases h:0≤c∧c<(k:Int)
       · rw [if_pos h,if_pos ⟨h.1,by omega⟩]
       · rw [if_neg h,if_neg (fun x=>h ⟨x.1,by omega⟩)])
    have hS9:=HSW.out _ hby
    have F0:=hrow9.froz (k*4)
    have F1:=hrow9.froz (k*4+1)
    have F2:=hrow9.froz (k*4+2)
    have F3:=hrow9.froz (k*4+3)
    obtain ⟨gr',capr',cr',ev',u0,u1,u2,u3,_⟩:=hrow9.at k (by rw [rowOf_length];omega)
    simp only [Value.slice.injEq,Option.some.injEq,Addr.mk.injEq,and_true] at ev'
    obtain ⟨rfl,hcapr⟩:=ev'
    clear hcapr
    dsimp only
    refine hK'.out _ _ (fun _=>hS9) ?_
    clear hK' K' z1 z2 hrow10 hoff hrow9 hr9
    refine x_one (i:=10) (by kernel_rfl) rfl (fun K' hK' => ?_)
    go_simp
    refine hK'.out _ _ (fun _=>hS9) ?_
    clear hK' K'
    refine x_one (i:=11) (by kernel_rfl) rfl (fun K' hK' => ?_)
    go_simp
    refine hK'.out _ _ (fun h=>absurd rfl h) ?_
    clear hK' K' hS9 F0 F1 F2 F3 hS0 u0 u1 u2 u3
    refine x_done (by kernel_rfl) ?_ _
    go_wp2
    go_roundw
    case rel=>exact ⟨k+1,upd f' (k:Int) r,_,by omega,by go_num,HF10,HROW10,HN10,HBX10,HBY10,HBZ10,HW10⟩
    case measure=>simp [intOf];omega
  · obtain rfl:M=k:=by omega
    have hnn:¬ (M:Int)<M:=by omega
    have hrow:rowOf f' M=rowOf (fun c=>f c+g c) M:=by
     unfold rowOf
     refine List.map_congr_left fun i hi => ?_
     rw [List.mem_range] at hi
     rw [HF.out,if_pos ⟨by omega,by omega⟩]
    have HROW2:Hid (RowQ (w.heap.size+3) wr (.slice asl M cas) (rowOf (fun c=>f c+g c) M) cs):=Lib.hid (by rw [← hrow];exact HROW.out)
    clear hrow
    obtain ⟨y0,y1,y2,y3,y4⟩:=HBX.out.cell
    obtain ⟨z0,z1,z2,z3,z4⟩:=HBY.out.cell
    go_wp2_with fail
    refine (HADD.out _ HW.out).mono ?_
    rintro e w7 ⟨v7,rfl,hr7,hb7⟩
    obtain ⟨E1,E2,E3,E4,E5,E6,E7,E8,rfl,u1,u2⟩:=hr7
    have hnum:RRef w7 (agg4 (.bool E1,.slice E2 E3 E4,.bool E5,.slice E6 E7 E8)) rc:=⟨_,_,_,_,_,_,_,_,rfl,u1,u2⟩
    have hn7:=HN.out.keep hb7
    have hz7:=HBZ6.out.keep hb7
    have hw7:=HW.out.trans (hb7.mono HW.out.size)
    have hka:Ka (w.heap.size+3) w7 w5.heap.size (.slice asl M cas) (rowOf (fun c=>f c+g c) M) cs (.bool E1,.slice E2 E3 E4,.bool E5,.slice E6 E7 E8) rc:=⟨HROW2.out.keep hb7,hnum,hn7.bn (ni5 (ni_slice _ _ _) _ _ _ _ _ _ _ _),HNE.out⟩
    have hka2:=(((hka.set 1 (ni_bool E1)).set 2 (ni_slice E2 E3 E4)).set 3 (ni_bool E5)).set 4 (ni_slice E6 E7 E8)
    have HKA:=Lib.hid hka2
    have HN7:=Lib.hid (hn7.put4 (.bool E1) (.slice E2 E3 E4) (.bool E5) (.slice E6 E7 E8))
    have HZ7:=Lib.hid (hz7.same (heap_set4 w7 w5.heap.size 1 2 3 4 (.bool E1) (.slice E2 E3 E4) (.bool E5) (.slice E6 E7 E8) (w.heap.size+1+1) (by have:=HLT.out;omega)))
    have HW7:=Lib.hid (below_set4 hw7 w5.heap.size 1 2 3 4 (.bool E1) (.slice E2 E3 E4) (.bool E5) (.slice E6 E7 E8) (by have:=HLT.out;omega))
    obtain ⟨e0,e1,e2,e3,e4⟩:=hn7.cell
    obtain ⟨f0,f1,f2,f3,f4⟩:=hn7.froz
    have hlt5:=HLT.out
    obtain ⟨g0,g1,g2,g3,g4⟩:=hz7.cell
    obtain ⟨h0,h1,h2,h3,h4⟩:=hz7.froz
    have hne5:w5.heap.size≠w.heap.size+1+1:=by omega
    have hne6:w.heap.size+1+1≠w5.heap.size:=by omega
    clear u1 u2 hnum hka hka2 hn7 hz7 hw7 hb7 x0 x1 x2 x3 x4 y0 y1 y2 y3 y4 z0 z1 z2 z3 z4
    go_wp2
    obtain ⟨l0,l1',l2',l3',l4'⟩:=(HZ7.out.store (.slice asl M cas) (.bool E1) (.slice E2 E3 E4) (.bool E5) (.slice E6 E7 E8)).cell
    refine bodyPost_ret (v := .agg #[.slice asl M cas,.bool E1,.slice E2 E3 E4,.bool E5,.slice E6 E7 E8]) (by simp only [results,Tryz.results15];simp [go_sem,l0,l1',l2',l3',l4']) rfl ?_
    have hka3:Ka (w.heap.size+3) _ (w.heap.size+1+1) (.slice asl M cas) (rowOf (fun c=>f c+g c) M) cs (.bool E1,.slice E2 E3 E4,.bool E5,.slice E6 E7 E8) rc:=⟨HKA.out.row,HKA.out.num,HZ7.out.bn (ni5 (ni_slice _ _ _) _ _ _ _ _ _ _ _),fun b hb=>by have:=(HKA.out.row.own.lt b hb).1;omega⟩
    have hk5:=((((hka3.set 0 (ni_slice asl M cas)).set 1 (ni_bool E1)).set 2 (ni_slice E2 E3 E4)).set 3 (ni_bool E5)).set 4 (ni_slice E6 E7 E8)
    exact ⟨⟨_,rfl,_,cs,(.bool E1,.slice E2 E3 E4,.bool E5,.slice E6 E7 E8),rfl,hk5.row.base (by omega),hk5.num⟩,((((HW7.out.setCell (by dsimp only;omega) _).setCell (by dsimp only;omega) _).setCell (by dsimp only;omega) _).setCell (by dsimp only;omega) _).setCell (by dsimp only;omega) _⟩
end Go.Proofs.YtkhdocdddicgpaaGreatDoor
