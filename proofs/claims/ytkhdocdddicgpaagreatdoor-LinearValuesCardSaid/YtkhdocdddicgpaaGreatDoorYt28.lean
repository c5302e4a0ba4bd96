/- Part 28: what the law's walk leans on. -/
import Derived.Test.YtkhdocdddicgpaaGreatDoorYt27
import Derived.Test.YtkhdocdddicgpaaGreatDoorYt21
import Derived.Test.YtkhdocdddicgpaaGreatDoorYt19
import Derived.Test.YtkhdocdddicgpaaGreatDoorYt26
set_option linter.unusedVariables false
set_option linter.unusedSimpArgs false
namespace Go.Proofs.YtkhdocdddicgpaaGreatDoor
open Go.RowKit Go.Maps _root_.Go.Proofs.YtkhdocdddicgpaaGreatDoor.Nm
theorem ReadRes.form {c:ByteArray} {l:List Tm} {w w':World} {e:Ending} (h:ReadRes c l w e w'):∃ a m cp n1 a1 l1 c1 n2 a2 l2 c2 er,e = .returned (.tuple #[.agg #[.slice a m cp,.bool n1,.slice a1 l1 c1,.bool n2,.slice a2 l2 c2],.int .i64 er])∧((partsErr c l≠0∧er=partsErr c l)∨(partsErr c l=0∧(er=5∨er=0))):=by
 obtain ⟨_,h⟩:=h
 by_cases hp:partsErr c l≠0
 · rw [if_pos hp] at h
   exact ⟨_,_,_,_,_,_,_,_,_,_,_,_,h,.inl ⟨hp,rfl⟩⟩
 · rw [if_neg hp] at h
   have hp0:partsErr c l=0:=Decidable.byContradiction fun e=>hp e
   obtain ⟨qc,q,h1,h2,h3,h4⟩:=partsErr_zero hp0
   have h:=h qc q h2 h1 h3 h4
   cases ha:acc (fun _=>0) q with
   | none =>
    rw [ha] at h
    exact ⟨_,_,_,_,_,_,_,_,_,_,_,_,h,.inr ⟨hp0,.inl rfl⟩⟩
   | some f =>
    rw [ha] at h
    obtain ⟨v,he,s,cs,c4,rfl,hrow,hnum⟩:=h
    obtain ⟨a,cp,rfl⟩:=hrow.slice
    obtain ⟨n1,a1,l1,c1,n2,a2,l2,c2,rfl⟩:=hnum.expl
    exact ⟨_,_,_,_,_,_,_,_,_,_,_,_,he,.inr ⟨hp0,.inr rfl⟩⟩
theorem partsErr_cases (c:ByteArray) (l:List Tm):partsErr c l=0∨partsErr c l=2∨partsErr c l=3:=by
 unfold partsErr
 split
 · exact .inr (.inr rfl)
 · split
   · exact .inr (.inl rfl)
   · exact .inl rfl
set_option maxRecDepth 100000 in
set_option maxHeartbeats 6400000 in
theorem fCheck_any (c:ByteArray) (ad:Option Addr) (n cap:Nat) (l:List Tm) (r:Int) (w:World) (hv:TsAt w (.slice ad n cap) l) (hc:c.size≤100000) (hl:∀ t∈l,t.2.size≤100000) (hn:l.length≤500) (hr:Hid (checkErr c l=r)) :
 Calls Tryz.prog 34 #[.string c,.slice ad n cap] w fun e w'=>e = .returned (.int .i64 r)∧Below w.heap.size w w':=by
 have HV:=Lib.hid hv
 have HL:=Lib.hid (And.intro hl hn)
 clear hv hl hn
 go_enter Tryz.func34,Tryz.ntmps34
 go_wp2_with fail
 refine (fRead_any c ad n cap l w HV.out hc HL.out.1 HL.out.2).mono ?_
 intro e w1 h
 obtain ⟨a,m,cp,n1,a1,l1,c1,n2,a2,l2,c2,er,rfl,hcase⟩:=h.form
 have HB1:=Lib.hid h.1
 have hA:=(Below.refl w1.heap.size w1).alloc (Nat.le_refl _) (.cells #[.slice a m cp,.bool n1,.slice a1 l1 c1,.bool n2,.slice a2 l2 c2] 35)
 have HW1:=Lib.hid (h.1.trans (hA.mono h.1.size))
 have hr2:=hr.out
 unfold checkErr at hr2
 have HCASE:=Lib.hid hcase
 clear h hA hcase
 rcases HCASE.out with ⟨hp,rfl⟩ | ⟨hp,her⟩
 · rw [if_pos hp] at hr2
   have hpe:=partsErr_cases c l
   rw [hr2] at hpe hp
   have HP:=Lib.hid hp
   rw [hr2]
   clear hr2 hp
   rcases hpe with rfl | rfl | rfl
   · exact absurd rfl HP.out
   · go_wp2
     go_ret
     exact ⟨rfl,HW1.out⟩
   · go_wp2
     go_ret
     exact ⟨rfl,HW1.out⟩
 · rw [if_neg (by rw [hp];decide)] at hr2
   have HR:=Lib.hid hr2
   clear hr2 hp HCASE
   have hwhole:Hid (True):=Lib.hid trivial
   rcases her with rfl | rfl
   · go_wp2
     go_loopw [7] (fun i wr=>∃ k:Nat,k≤n∧i = .int .i64 k∧Hid (AscUp l k)∧Hid (Below w.heap.size w wr)) (fun i _=>n-(intOf i).toNat)
     case atStart=>exact ⟨0,Nat.zero_le _,rfl,Lib.hid (fun i _ h=>absurd h (Nat.not_lt_zero i)),HW1⟩
     case round =>
      obtain ⟨k,hk,rfl,HAS,HW⟩:=hrel
      obtain ⟨ad',n',cap',e1,e2,hv⟩:=HV.out.keep HW.out (Nat.le_refl _)
      cases e1
      have HLEN:=Lib.hid (And.intro trivial e2)
      have hn1:n≤1000:=by rw [e2];have:=HL.out.2;omega
      clear e2
      by_cases hlt:k<n
      · have hkl:k<l.length:=by rw [← HLEN.out.2];exact hlt
        obtain ⟨g,off,rfl,hg,hcc⟩:∃ g off,ad=some ⟨g,off,none⟩∧g<wr.heap.size∧∀ (i:Nat) (h:i<l.length),wr.cell? ⟨g,off+i*2,none⟩=some (.int .i64 l[i].1)∧wr.cell? ⟨g,off+i*2+1,none⟩=some (.string l[i].2):=by
         rcases hv with h | h
         · omega
         · exact h
        obtain ⟨hcell0,hcell1⟩:=hcc k hkl
        obtain ⟨col,hcol⟩:∃ col,l[k].1=col:=⟨_,rfl⟩
        obtain ⟨x,hx⟩:∃ x,l[k].2=x:=⟨_,rfl⟩
        rw [hcol] at hcell0
        rw [hx] at hcell1
        have HCOL:=Lib.hid hcol
        have HX:=Lib.hid hx
        have HCC:=Lib.hid hcc
        clear hv hcc hcol hx hg
        have h1:(0:Int)≤k:=by omega
        have h2:(k:Int)<n:=by omega
        by_cases hz:(x.toList==[48])=true
        · have hbad:asc l=false:=asc_bad k hkl (.inl (by rw [HX.out, ← Lib.toList_data];exact hz))
          have hr3:r=3:=by have:=HR.out;rw [hbad] at this;simpa using this.symm
          subst hr3
          clear hbad
          go_wp2_with fail
          go_quiet (fail)
          go_wp2
          go_ret
          exact ⟨rfl,Bel.drewN HW.out _⟩
        · have hzf:(x.toList==[48])=false:=by simpa using hz
          have hok1:(l[k].2.data.toList==[48])=false:=by rw [HX.out, ← Lib.toList_data];exact hzf
          clear hz
          by_cases hk0:k=0
          · have hg0:decide (0<k)=false:=by rw [hk0];rfl
            have HAS2:Hid (AscUp l (k+1)):=Lib.hid (fun i h hik=>by
             obtain rfl:i=k:=by omega
             exact ⟨hok1,fun h0=>by omega⟩)
            clear hok1 hk0
            go_wp2_with fail
            go_quiet (fail)
            go_wp2
            go_roundw
            case rel=>exact ⟨k+1,by omega,by go_num,HAS2,Lib.hid (Bel.drewN HW.out _)⟩
            case measure=>simp [intOf];omega
          · have hg0:decide (0<k)=true:=by simp;omega
            obtain ⟨j,hj⟩:∃ j,k=j+1:=⟨k-1,by omega⟩
            have hjl:j<l.length:=by omega
            have hprev:=(HCC.out j hjl).1
            obtain ⟨pc,hpc⟩:∃ pc,l[j].1=pc:=⟨_,rfl⟩
            rw [hpc] at hprev
            have hwj:IntKind.i64.wrap ((k:Int)-1)=(j:Int):=by rw [show (k:Int)-1=(j:Int) from by omega];exact IntWalk.i64_in _ (by omega)
            have hj1:(0:Int)≤j:=by omega
            have hj2:(j:Int)<n:=by omega
            have HKJ:=Lib.hid hj
            by_cases hge:col≤pc
            · have hgeb:decide (col≤pc)=true:=by simpa using hge
              have hbad:asc l=false:=asc_bad k hkl (.inr ⟨by omega,by
               have e:l[k-1].1=pc:=by rw [← hpc];congr 2;omega
               rw [e,HCOL.out];omega⟩)
              have hr3:r=3:=by have:=HR.out;rw [hbad] at this;simpa using this.symm
              subst hr3
              clear hbad hge hok1 hj hk0 hpc
              go_wp2_with fail
              go_quiet (fail)
              go_wp2
              go_ret
              exact ⟨rfl,Bel.drewN HW.out _⟩
            · have hgeb:decide (col≤pc)=false:=by simpa using hge
              have HAS2:Hid (AscUp l (k+1)):=Lib.hid (fun i h hik=>by
               rcases Nat.lt_or_ge i k with h2 | h2
               · exact HAS.out i h h2
               · obtain rfl:i=k:=by omega
                 refine ⟨hok1,fun h0 => ?_⟩
                 have e:l[i-1].1=pc:=by rw [← hpc];congr 2;omega
                 rw [e,HCOL.out];omega)
              clear hge hok1 hj hk0 hpc
              go_wp2_with fail
              go_quiet (fail)
              go_wp2
              go_roundw
              case rel=>exact ⟨k+1,by omega,by go_num,HAS2,Lib.hid (Bel.drewN HW.out _)⟩
              case measure=>simp [intOf];omega
      · obtain rfl:n=k:=by omega
        have hall:asc l=true:=asc_all (fun i h h2=>HAS.out i h (by rw [HLEN.out.2];exact h2))
        have hr0:r=0:=by have:=HR.out;rw [hall] at this;simpa using this.symm
        subst hr0
        have hnn:¬ (n:Int)<n:=by omega
        clear hv hall
        go_wp2
        go_ret
        exact ⟨rfl,HW.out⟩
   · go_wp2
     go_loopw [7] (fun i wr=>∃ k:Nat,k≤n∧i = .int .i64 k∧Hid (AscUp l k)∧Hid (Below w.heap.size w wr)) (fun i _=>n-(intOf i).toNat)
     case atStart=>exact ⟨0,Nat.zero_le _,rfl,Lib.hid (fun i _ h=>absurd h (Nat.not_lt_zero i)),HW1⟩
     case round =>
      obtain ⟨k,hk,rfl,HAS,HW⟩:=hrel
      obtain ⟨ad',n',cap',e1,e2,hv⟩:=HV.out.keep HW.out (Nat.le_refl _)
      cases e1
      have HLEN:=Lib.hid (And.intro trivial e2)
      have hn1:n≤1000:=by rw [e2];have:=HL.out.2;omega
      clear e2
      by_cases hlt:k<n
      · have hkl:k<l.length:=by rw [← HLEN.out.2];exact hlt
        obtain ⟨g,off,rfl,hg,hcc⟩:∃ g off,ad=some ⟨g,off,none⟩∧g<wr.heap.size∧∀ (i:Nat) (h:i<l.length),wr.cell? ⟨g,off+i*2,none⟩=some (.int .i64 l[i].1)∧wr.cell? ⟨g,off+i*2+1,none⟩=some (.string l[i].2):=by
         rcases hv with h | h
         · omega
         · exact h
        obtain ⟨hcell0,hcell1⟩:=hcc k hkl
        obtain ⟨col,hcol⟩:∃ col,l[k].1=col:=⟨_,rfl⟩
        obtain ⟨x,hx⟩:∃ x,l[k].2=x:=⟨_,rfl⟩
        rw [hcol] at hcell0
        rw [hx] at hcell1
        have HCOL:=Lib.hid hcol
        have HX:=Lib.hid hx
        have HCC:=Lib.hid hcc
        clear hv hcc hcol hx hg
        have h1:(0:Int)≤k:=by omega
        have h2:(k:Int)<n:=by omega
        by_cases hz:(x.toList==[48])=true
        · have hbad:asc l=false:=asc_bad k hkl (.inl (by rw [HX.out, ← Lib.toList_data];exact hz))
          have hr3:r=3:=by have:=HR.out;rw [hbad] at this;simpa using this.symm
          subst hr3
          clear hbad
          go_wp2_with fail
          go_quiet (fail)
          go_wp2
          go_ret
          exact ⟨rfl,Bel.drewN HW.out _⟩
        · have hzf:(x.toList==[48])=false:=by simpa using hz
          have hok1:(l[k].2.data.toList==[48])=false:=by rw [HX.out, ← Lib.toList_data];exact hzf
          clear hz
          by_cases hk0:k=0
          · have hg0:decide (0<k)=false:=by rw [hk0];rfl
            have HAS2:Hid (AscUp l (k+1)):=Lib.hid (fun i h hik=>by
             obtain rfl:i=k:=by omega
             exact ⟨hok1,fun h0=>by omega⟩)
            clear hok1 hk0
            go_wp2_with fail
            go_quiet (fail)
            go_wp2
            go_roundw
            case rel=>exact ⟨k+1,by omega,by go_num,HAS2,Lib.hid (Bel.drewN HW.out _)⟩
            case measure=>simp [intOf];omega
          · have hg0:decide (0<k)=true:=by simp;omega
            obtain ⟨j,hj⟩:∃ j,k=j+1:=⟨k-1,by omega⟩
            have hjl:j<l.length:=by omega
            have hprev:=(HCC.out j hjl).1
            obtain ⟨pc,hpc⟩:∃ pc,l[j].1=pc:=⟨_,rfl⟩
            rw [hpc] at hprev
            have hwj:IntKind.i64.wrap ((k:Int)-1)=(j:Int):=by rw [show (k:Int)-1=(j:Int) from by omega];exact IntWalk.i64_in _ (by omega)
            have hj1:(0:Int)≤j:=by omega
            have hj2:(j:Int)<n:=by omega
            have HKJ:=Lib.hid hj
            by_cases hge:col≤pc
            · have hgeb:decide (col≤pc)=true:=by simpa using hge
              have hbad:asc l=false:=asc_bad k hkl (.inr ⟨by omega,by
               have e:l[k-1].1=pc:=by rw [← hpc];congr 2;omega
               rw [e,HCOL.out];omega⟩)
              have hr3:r=3:=by have:=HR.out;rw [hbad] at this;simpa using this.symm
              subst hr3
              clear hbad hge hok1 hj hk0 hpc
              go_wp2_with fail
              go_quiet (fail)
              go_wp2
              go_ret
              exact ⟨rfl,Bel.drewN HW.out _⟩
            · have hgeb:decide (col≤pc)=false:=by simpa using hge
              have HAS2:Hid (AscUp l (k+1)):=Lib.hid (fun i h hik=>by
               rcases Nat.lt_or_ge i k with h2 | h2
               · exact HAS.out i h h2
               · obtain rfl:i=k:=by omega
                 refine ⟨hok1,fun h0 => ?_⟩
                 have e:l[i-1].1=pc:=by rw [← hpc];congr 2;omega
                 rw [e,HCOL.out];omega)
              clear hge hok1 hj hk0 hpc
              go_wp2_with fail
              go_quiet (fail)
              go_wp2
              go_roundw
              case rel=>exact ⟨k+1,by omega,by go_num,HAS2,Lib.hid (Bel.drewN HW.out _)⟩
              case measure=>simp [intOf];omega
      · obtain rfl:n=k:=by omega
        have hall:asc l=true:=asc_all (fun i h h2=>HAS.out i h (by rw [HLEN.out.2];exact h2))
        have hr0:r=0:=by have:=HR.out;rw [hall] at this;simpa using this.symm
        subst hr0
        have hnn:¬ (n:Int)<n:=by omega
        clear hv hall
        go_wp2
        go_ret
        exact ⟨rfl,HW.out⟩
end Go.Proofs.YtkhdocdddicgpaaGreatDoor
set_option linter.unusedVariables false
set_option linter.unusedSimpArgs false
namespace Go.Proofs.YtkhdocdddicgpaaGreatDoor
open Go.RowKit Go.Maps _root_.Go.Proofs.YtkhdocdddicgpaaGreatDoor.Nm
structure LE (w W:World) (x0:Option Addr) (n0 c0:Nat) (s0:ByteArray) (l0:List Tm) (x2:Option Addr) (n2 c2:Nat) (ss:List ByteArray):Prop where
 a:Bx W w.heap.size (.slice x0 n0 c0) (.string s0)
 fa:TsAt W (.slice x0 n0 c0) l0
 vs:SsAt W (.slice x2 n2 c2) ss
 tab:Tab W
 ers:Ers W
 below:Below w.heap.size w W
theorem LE.keep {w W W':World} {x0:Option Addr} {n0 c0:Nat} {s0:ByteArray} {l0:List Tm} {x2:Option Addr} {n2 c2:Nat} {ss:List ByteArray}
 (h:LE w W x0 n0 c0 s0 l0 x2 n2 c2 ss) (hb:Below W.heap.size W W'):LE w W' x0 n0 c0 s0 l0 x2 n2 c2 ss :=
 ⟨h.a.below hb h.a.lt,h.fa.keep hb (Nat.le_refl _),h.vs.keep hb (Nat.le_refl _),tab_keep h.tab hb,h.ers.keep hb (Nat.le_refl _),h.below.trans (hb.mono h.below.size)⟩
theorem LE.start (w:World) {x0:Option Addr} {n0 c0:Nat} {s0:ByteArray} {l0:List Tm} {x2:Option Addr} {n2 c2:Nat} {ss:List ByteArray}
 (ha:TsAt w (.slice x0 n0 c0) l0) (hv:SsAt w (.slice x2 n2 c2) ss) (ht:Tab w) (he:Ers w) :
 LE w (w.alloc (.cells #[.slice x0 n0 c0,.string s0] 24)) x0 n0 c0 s0 l0 x2 n2 c2 ss:=by
 have hA:=(Below.refl w.heap.size w).alloc (Nat.le_refl _) (.cells #[.slice x0 n0 c0,.string s0] 24)
 exact ⟨Bx.new w _ _ _,ha.keep hA (Nat.le_refl _),hv.keep hA (Nat.le_refl _),tab_keep ht hA,he.keep hA (Nat.le_refl _),hA⟩
theorem light_sizes {x:ByteArray} {l:List Tm} (h:lightB x l=true):(∀ t∈l,t.2.size≤120)∧l.length≤8∧x.size≤120:=by
 unfold lightB shortC at h
 simp only [Bool.and_eq_true,decide_eq_true_eq,List.all_eq_true] at h
 exact ⟨fun t ht=>h.1 _ (List.mem_map.2 ⟨t,ht,rfl⟩),h.2.1,h.2.2⟩
end Go.Proofs.YtkhdocdddicgpaaGreatDoor
set_option linter.unusedVariables false
set_option linter.unusedSimpArgs false
namespace Go.Proofs.YtkhdocdddicgpaaGreatDoor
open Go.RowKit Go.Maps _root_.Go.Proofs.YtkhdocdddicgpaaGreatDoor.Nm
set_option maxRecDepth 100000 in
set_option maxHeartbeats 3200000 in
theorem Equal_same (ad1 ad2:Option Addr) (n1 cap1 n2 cap2:Nat) (l:List Tm) (w:World) (h1:TsAt w (.slice ad1 n1 cap1) l) (h2:TsAt w (.slice ad2 n2 cap2) l) (hl:l.length≤100000) :
 Calls Tryz.prog 30 #[.slice ad1 n1 cap1,.slice ad2 n2 cap2] w fun e w'=>e = .returned (.bool true)∧Below w.heap.size w w':=by
 obtain ⟨_,_,_,e1,e2,hv1⟩:=h1
 cases e1
 obtain ⟨_,_,_,e1,e3,hv2⟩:=h2
 cases e1
 obtain rfl:n1=n2:=e2.trans e3.symm
 have HN:=Lib.hid (And.intro trivial e2)
 have HL:=Lib.hid (And.intro trivial hl)
 have HV1:=Lib.hid hv1
 have HV2:=Lib.hid hv2
 clear e2 e3 hv1 hv2 hl
 go_enter Tryz.func30,Tryz.ntmps30
 go_wp2
 go_loopw [13] (fun i wr=>∃ k:Nat,k≤n1∧i = .int .i64 k∧Hid (Below w.heap.size w wr)) (fun i _=>n1-(intOf i).toNat)
 case atStart=>exact ⟨0,Nat.zero_le _,rfl,Lib.hid (Below.refl _ _)⟩
 case round =>
  obtain ⟨k,hk,rfl,HW⟩:=hrel
  by_cases hlt:k<n1
  · have hkl:k<l.length:=by rw [← HN.out.2];exact hlt
    obtain ⟨g,off,rfl,hg,hcc⟩:∃ g off,ad1=some ⟨g,off,none⟩∧g<w.heap.size∧∀ (i:Nat) (h:i<l.length),w.cell? ⟨g,off+i*2,none⟩=some (.int .i64 l[i].1)∧w.cell? ⟨g,off+i*2+1,none⟩=some (.string l[i].2):=by
     rcases HV1.out with h | h
     · omega
     · exact h
    obtain ⟨g2,off2,rfl,hg2,hcc2⟩:∃ g off,ad2=some ⟨g,off,none⟩∧g<w.heap.size∧∀ (i:Nat) (h:i<l.length),w.cell? ⟨g,off+i*2,none⟩=some (.int .i64 l[i].1)∧w.cell? ⟨g,off+i*2+1,none⟩=some (.string l[i].2):=by
     rcases HV2.out with h | h
     · omega
     · exact h
    obtain ⟨c,hc⟩:∃ c,l[k].1=c:=⟨_,rfl⟩
    obtain ⟨s,hs⟩:∃ s,l[k].2=s:=⟨_,rfl⟩
    have a0:=(HW.out.cell (p:=⟨g,off+k*2,none⟩) hg).trans (hcc k hkl).1
    have a1:=(HW.out.cell (p:=⟨g,off+k*2+1,none⟩) hg).trans (hcc k hkl).2
    have b0:=(HW.out.cell (p:=⟨g2,off2+k*2,none⟩) hg2).trans (hcc2 k hkl).1
    have b1:=(HW.out.cell (p:=⟨g2,off2+k*2+1,none⟩) hg2).trans (hcc2 k hkl).2
    rw [hc] at a0 b0
    rw [hs] at a1 b1
    have h1:(0:Int)≤k:=by omega
    have h2:(k:Int)<n1:=by omega
    have hx:=HL.out.2
    have hn1:=HN.out.2
    clear hcc hcc2 hc hs hkl
    go_wp2
    go_region
    go_wp2
    go_roundw
    case rel=>exact ⟨k+1,by omega,by go_num,Lib.hid HW.out.drew⟩
    case measure=>simp [intOf];omega
  · obtain rfl:n1=k:=by omega
    have hnn:¬ (n1:Int)<n1:=by omega
    go_wp2
    go_ret
    exact ⟨rfl,HW.out⟩
end Go.Proofs.YtkhdocdddicgpaaGreatDoor
set_option linter.unusedVariables false
set_option linter.unusedSimpArgs false
namespace Go.Proofs.YtkhdocdddicgpaaGreatDoor
open Go.RowKit Go.Maps _root_.Go.Proofs.YtkhdocdddicgpaaGreatDoor.Nm
theorem pre_one (a c:UInt8) (r:List UInt8):Lib.hasPrefix (c::r) [a]=(a==c):=by
 unfold Lib.hasPrefix
 show (a==c&&List.isPrefixOf [] r)=_
 simp
structure NumTx (l m:List UInt8) (n:Bool):Prop where
 eq:l=(if n=true then 45::m else m)
 neg:negT l=n
 mag:magT l=m
 head:∃ c r,m=c::r∧isDig c=true
 all:∀ c∈m,isDig c=true∨c=47
theorem numTx_mk {m:List UInt8} (n:Bool) (h:∃ c r,m=c::r∧isDig c=true) (ha:∀ c∈m,isDig c=true∨c=47):NumTx (if n=true then 45::m else m) m n:=by
 obtain ⟨c,r,rfl,hc⟩:=h
 have hc45:c≠45:=by rintro rfl;revert hc;decide
 have hc45':((45:UInt8)==c)=false:=by simpa using fun e:45=c=>hc45 e.symm
 cases n with
 | true =>
  refine ⟨rfl,?_,?_,⟨c,r,rfl,hc⟩,ha⟩
  · simp [negT,Lib.hasPrefix]
  · simp [magT,Lib.trimPrefix,Lib.hasPrefix]
 | false =>
  refine ⟨rfl,?_,?_,⟨c,r,rfl,hc⟩,ha⟩
  · show Lib.hasPrefix (c::r) [45]=false
    rw [pre_one,hc45']
  · show Lib.trimPrefix (c::r) [45]=_
    unfold Lib.trimPrefix
    rw [pre_one,hc45'];rfl
theorem dec_cons (n:Nat):∃ c r,Lib.decDigits n=c::r∧isDig c=true:=by
 have h1:=dec_all n
 cases h:Lib.decDigits n with
 | nil=>exact absurd h (dec_ne n)
 | cons c r =>
  rw [h] at h1
  simp only [List.all_cons,Bool.and_eq_true] at h1
  exact ⟨c,r,rfl,h1.1⟩
theorem dec_mem (n:Nat):∀ c∈Lib.decDigits n,isDig c=true:=fun c hc=>List.all_eq_true.1 (dec_all n) c hc
theorem rt_numTx (q:Rat):∃ m n,NumTx (rt q) m n:=by
 have key:∀ r:List UInt8,(∀ c∈r,isDig c=true∨c=47)→∃ m n,NumTx (Lib.itoa q.num++r) m n:=by
  intro r hr
  unfold Lib.itoa
  split
  · obtain ⟨c,t,e,hc⟩:=dec_cons q.num.natAbs
    refine ⟨Lib.decDigits q.num.natAbs++r,true,?_⟩
    have:=numTx_mk (m:=Lib.decDigits q.num.natAbs++r) true ⟨c,t++r,by rw [e];rfl,hc⟩ (fun x hx=>by
     rcases List.mem_append.1 hx with h | h
     · exact .inl (dec_mem _ x h)
     · exact hr x h)
    exact this
  · obtain ⟨c,t,e,hc⟩:=dec_cons q.num.toNat
    refine ⟨Lib.decDigits q.num.toNat++r,false,?_⟩
    have:=numTx_mk (m:=Lib.decDigits q.num.toNat++r) false ⟨c,t++r,by rw [e];rfl,hc⟩ (fun x hx=>by
     rcases List.mem_append.1 hx with h | h
     · exact .inl (dec_mem _ x h)
     · exact hr x h)
    exact this
 unfold rt
 split
 · have:=key [] (by simp)
   rw [List.append_nil] at this
   exact this
 · refine key _ fun c hc => ?_
   rcases List.mem_cons.1 hc with rfl | hc
   · exact .inr rfl
   · refine .inl ?_
     have e:Lib.itoa (q.den:Int)=Lib.decDigits q.den:=by unfold Lib.itoa;rw [if_neg (by omega)];rfl
     rw [e] at hc
     exact dec_mem _ c hc
theorem NumTx.ne {l m:List UInt8} {n:Bool} (h:NumTx l m n):m≠[]:=by
 obtain ⟨c,r,rfl,_⟩:=h.head;simp
theorem NumTx.space {l m:List UInt8} {n:Bool} (h:NumTx l m n):(32:UInt8)∉m:=by
 intro hm
 rcases h.all _ hm with h | h
 · revert h;decide
 · revert h;decide
theorem NumTx.hd {l m:List UInt8} {n:Bool} (h:NumTx l m n) (c:UInt8) (hc:isDig c=false) (r:List UInt8):m≠c::r:=by
 obtain ⟨d,t,rfl,hd⟩:=h.head
 intro e
 cases e
 rw [hc] at hd;cases hd
theorem NumTx.noX {l m:List UInt8} {n:Bool} (h:NumTx l m n):Lib.hasPrefix m [120]=false:=by
 obtain ⟨d,t,rfl,hd⟩:=h.head
 have:((120:UInt8)==d)=false:=by
  simp only [beq_eq_false_iff_ne,ne_eq]
  rintro rfl;revert hd;decide
 rw [pre_one,this]
theorem NumTx.num {l m:List UInt8} {n:Bool} (h:NumTx l m n):numT n ⟨m.toArray⟩=⟨l.toArray⟩:=by
 have:=h.eq
 unfold numT
 cases n with
 | true=>rw [if_pos rfl];simp at this;rw [this];apply ByteArray.ext;simp
 | false=>rw [if_neg (by simp)];simp at this;rw [this]
theorem name_eq {c:Int} (h:ColIn c):nameT c=120::Lib.decDigits c.toNat:=by
 unfold nameT Lib.itoa;rw [if_neg (by have:=h.1;omega)]
theorem name_space {c:Int} (h:ColIn c):(32:UInt8)∉nameT c:=by
 rw [name_eq h]
 intro hm
 rcases List.mem_cons.1 hm with h1 | h1
 · revert h1;decide
 · have:=dec_mem _ _ h1;revert this;decide
theorem tvc_cons (c:UInt8) (l:List UInt8):tv (c::l)=dig c*10 ^ l.length+tv l:=by
 have h:=tv_append [c] l
 have h2:tv [c]=dig c:=by have:=tv_snoc [] c;rw [tv_nil] at this;simpa using this
 rw [List.singleton_append,h2] at h
 rw [h,Nat.mul_comm,Nat.add_comm]
theorem parse_digits:∀ (l:List UInt8) (acc:Nat),l.all isDig=true→acc*10 ^ l.length+tv l<9223372036854775808→Lib.parseUint10 acc l = .ok (acc*10 ^ l.length+tv l)
 | [],acc,_,_=>by simp [Lib.parseUint10,tv_nil]
 | c::l,acc,h,hb=>by
  simp only [List.all_cons,Bool.and_eq_true] at h
  have hd:=h.1
  unfold isDig at hd
  simp only [Bool.and_eq_true,decide_eq_true_eq] at hd
  rw [tvc_cons] at hb ⊢
  rw [List.length_cons,Nat.pow_succ] at hb ⊢
  have e1:acc*(10 ^ l.length*10)+(dig c*10 ^ l.length+tv l)=(acc*10+dig c)*10 ^ l.length+tv l:=by
   rw [Nat.add_mul]
   have:acc*(10 ^ l.length*10)=acc*10*10 ^ l.length:=by rw [Nat.mul_comm (10 ^ l.length) 10,Nat.mul_assoc]
   omega
  rw [e1] at hb ⊢
  have h1:1≤10 ^ l.length:=Nat.one_le_iff_ne_zero.2 (Nat.pos_iff_ne_zero.1 (Nat.pow_pos (by omega)))
  have h2:acc*10+dig c≤(acc*10+dig c)*10 ^ l.length:=Nat.le_mul_of_pos_right _ h1
  have hdd:dig c=c.toNat-48:=rfl
  unfold Lib.parseUint10
  rw [if_pos ⟨hd.1,hd.2⟩,if_neg (by omega),if_neg (by omega), ← hdd]
  exact parse_digits l _ h.2 hb
theorem atoi_col {c:Int} (h:ColIn c):atoiV ((nameT c).drop 1)=c:=by
 rw [name_eq h,List.drop_succ_cons,List.drop_zero]
 obtain ⟨d,r,e,hd⟩:=dec_cons c.toNat
 have h43:d.toNat≠43∧d.toNat≠45:=by
  unfold isDig at hd;simp only [Bool.and_eq_true,decide_eq_true_eq] at hd;omega
 have hp:=parse_digits (Lib.decDigits c.toNat) 0 (dec_all _) (by rw [tv_dec];have:=h.2;omega)
 rw [tv_dec,Nat.zero_mul,Nat.zero_add] at hp
 rw [e] at hp
 have hall:Lib.atoiAll (Lib.decDigits c.toNat) = .ok c:=by
  rw [e]
  unfold Lib.atoiAll
  simp only [h43.1,h43.2,or_self,if_false]
  unfold Lib.parseMag
  rw [if_neg (by simp),hp]
  have:=h.1
  have:=h.2
  simp only [not_false_eq_true,true_and,false_and,if_false]
  rw [if_neg (by omega)]
  congr 1
  omega
 unfold atoiV
 rw [hall]
def restT (qc:Rat):List Qm→List UInt8
 | []=>if rt qc=[48] then [] else partT (rt qc) [] false
 | p::q=>partT (rt p.2) (nameT p.1) false++restT qc q
def sgnW (n:Bool):List UInt8:=if n=true then [45] else [43]
def termW (p:Qm):List (List UInt8):=if magT (rt p.2)=[49] then [nameT p.1] else [magT (rt p.2),nameT p.1]
def restW (qc:Rat):List Qm→List (List UInt8)
 | []=>if rt qc=[48] then [] else [sgnW (negT (rt qc)),magT (rt qc)]
 | p::q=>sgnW (negT (rt p.2))::(termW p++restW qc q)
theorem part_ne (l name:List UInt8) (f:Bool) (h:name≠[]):partT l name f≠[]:=by
 unfold partT bodyT
 rw [if_neg h]
 split <;> simp [h]
theorem terms_rest (qc:Rat):∀ (q:List Qm) (out:List UInt8),out≠[]→lastT (termsT out q) (rt qc)=out++restT qc q
 | [],out,h=>by
  show lastT out (rt qc)=_
  unfold lastT restT
  split
  · simp
  · rw [show out.isEmpty=false from by cases out <;> simp_all]
 | p::q,out,h=>by
  show lastT (termsT (out++partT (rt p.2) (nameT p.1) out.isEmpty) q) (rt qc)=_
  rw [show out.isEmpty=false from by cases out <;> simp_all,terms_rest qc q _ (by simp [h])]
  show _=out++(partT (rt p.2) (nameT p.1) false++restT qc q)
  rw [List.append_assoc]
theorem form_cons (qc:Rat) (p:Qm) (q:List Qm):formT qc (p::q)=partT (rt p.2) (nameT p.1) true++restT qc q:=by
 unfold formT
 rw [if_neg (by simp)]
 show lastT (termsT ([]++partT (rt p.2) (nameT p.1) true) q) (rt qc)=_
 rw [List.nil_append,terms_rest qc q _ (part_ne _ _ _ (by simp [nameT]))]
theorem sgn_words (n:Bool) (l:List UInt8):sgnT n false++l=32::(sgnW n++32::l):=by
 unfold sgnT sgnW
 cases n <;> simp
theorem sgnW_space (n:Bool):(32:UInt8)∉sgnW n:=by unfold sgnW;cases n <;> decide
theorem body_words (p:Qm) (hc:ColIn p.1) {t:List UInt8} {W:List (List UInt8)} (h:∀ a,(32:UInt8)∉a→splitW (a++t)=a::W) :
 splitW (bodyT (magT (rt p.2)) (nameT p.1)++t)=termW p++W:=by
 obtain ⟨m,n,hn⟩:=rt_numTx p.2
 unfold bodyT termW
 rw [if_neg (by simp [nameT]),hn.mag]
 split
 · rw [h _ (name_space hc)];rfl
 · rw [List.append_assoc,List.cons_append,splitW_some _ _ hn.space,h _ (name_space hc)];rfl
theorem rest_words (qc:Rat):∀ (q:List Qm),(∀ p∈q,ColIn p.1)→∀ a:List UInt8,(32:UInt8)∉a→splitW (a++restT qc q)=a::restW qc q
 | [],_,a,ha=>by
  obtain ⟨m,n,hn⟩:=rt_numTx qc
  unfold restT restW
  split
  · rw [List.append_nil,splitW_none _ ha]
  · unfold partT
    rw [sgn_words,splitW_some _ _ ha,splitW_some _ _ (sgnW_space _)]
    rw [show bodyT (magT (rt qc)) []=magT (rt qc) from by unfold bodyT;rw [if_pos rfl],hn.mag,splitW_none _ hn.space]
 | p::q,hq,a,ha=>by
  have ih:=rest_words qc q (fun x hx=>hq x (by simp [hx]))
  show splitW (a++(partT (rt p.2) (nameT p.1) false++restT qc q))=a::(sgnW (negT (rt p.2))::(termW p++restW qc q))
  unfold partT
  rw [List.append_assoc,sgn_words,splitW_some _ _ ha,splitW_some _ _ (sgnW_space _),body_words p (hq p (by simp)) ih]
theorem orT_full {a b:ByteArray} (h:a.data.toList≠[]):orT a b=a:=if_neg h
theorem orT_none {a b:ByteArray} (h:a.data.toList=[]):orT a b=b:=if_pos h
theorem rd_name {st:RdSt} {c:Int} (h:ColIn c):rdStep st (nameT c)=⟨st.neg,⟨#[]⟩,st.terms++[(c,numT st.neg (orT st.size ⟨#[49]⟩))]⟩:=by
 unfold rdStep
 rw [if_neg (by unfold nameT;simp),if_pos (by unfold nameT;simp [Lib.hasPrefix]),atoi_col h]
theorem rd_mag {st:RdSt} {l m:List UInt8} {n:Bool} (h:NumTx l m n):rdStep st m=⟨st.neg,⟨m.toArray⟩,st.terms⟩:=by
 unfold rdStep
 rw [if_neg (by
  rintro (e | e)
  · exact h.hd 43 (by decide) [] e
  · exact h.hd 45 (by decide) [] e),if_neg (by rw [h.noX];simp)]
theorem rd_sgn {st:RdSt} (n:Bool):rdStep st (sgnW n)=⟨n,st.size,st.terms⟩:=by
 unfold rdStep sgnW
 cases n <;> simp
theorem rdAll_cons (st:RdSt) (x:List UInt8) (l:List (List UInt8)):rdAll st (x::l)=rdAll (rdStep st x) l:=rfl
theorem rd_term (p:Qm) (hc:ColIn p.1) (l:List (List UInt8)) (n:Bool) (ts:List Tm) (hn:negT (rt p.2)=n) :
 rdAll ⟨n,⟨#[]⟩,ts⟩ (termW p++l)=rdAll ⟨n,⟨#[]⟩,ts++[(p.1,txt p.2)]⟩ l:=by
 obtain ⟨m,n',h⟩:=rt_numTx p.2
 obtain rfl:n'=n:=h.neg.symm.trans hn
 unfold termW
 rw [h.mag]
 split
 · next e =>
   show rdAll _ (nameT p.1::l)=_
   rw [rdAll_cons,rd_name hc,orT_none rfl]
   have:=h.num
   rw [e] at this
   dsimp only
   rw [show (⟨#[49]⟩:ByteArray)=⟨([49]:List UInt8).toArray⟩ from rfl,this];rfl
 · show rdAll _ (m::nameT p.1::l)=_
   rw [rdAll_cons,rd_mag h,rdAll_cons,rd_name hc,orT_full (by simpa using h.ne)]
   dsimp only
   rw [h.num];rfl
theorem rd_rest (qc:Rat):∀ (q:List Qm),(∀ p∈q,ColIn p.1)→∀ (n:Bool) (ts:List Tm),rdEnd (rdAll ⟨n,⟨#[]⟩,ts⟩ (restW qc q))=(txt qc,ts++tms q)
 | [],_,n,ts=>by
  unfold restW
  split
  · next e =>
    show rdEnd ⟨n,⟨#[]⟩,ts⟩=_
    unfold rdEnd txt
    rw [if_pos rfl,e,show tms []=[] from rfl,List.append_nil]
  · obtain ⟨m,n',h⟩:=rt_numTx qc
    rw [rdAll_cons,rd_sgn,rdAll_cons,h.mag,h.neg,rd_mag h]
    show rdEnd ⟨n',⟨m.toArray⟩,ts⟩=_
    unfold rdEnd txt
    rw [if_neg (by simpa using h.ne),h.num,show tms []=[] from rfl,List.append_nil]
 | p::q,hq,n,ts=>by
  show rdEnd (rdAll _ (sgnW (negT (rt p.2))::(termW p++restW qc q)))=_
  rw [rdAll_cons,rd_sgn,rd_term p (hq p (by simp)) _ _ _ rfl,rd_rest qc q (fun x hx=>hq x (by simp [hx]))]
  rw [List.append_assoc];rfl
theorem body_head (p:Qm) (t:List UInt8):∃ c r,bodyT (magT (rt p.2)) (nameT p.1)++t=c::r∧c≠45:=by
 obtain ⟨m,n,h⟩:=rt_numTx p.2
 unfold bodyT
 rw [if_neg (by simp [nameT]),h.mag]
 split
 · exact ⟨120,_,rfl,by decide⟩
 · obtain ⟨c,r,e,hc⟩:=h.head
   refine ⟨c,r++32::nameT p.1++t,by rw [e];simp,?_⟩
   rintro rfl;revert hc;decide
theorem first_sign (n:Bool) {b:List UInt8} (h:∃ c r,b=c::r∧c≠45):negT (sgnT n true++b)=n∧magT (sgnT n true++b)=b:=by
 obtain ⟨c,r,rfl,hc⟩:=h
 have:((45:UInt8)==c)=false:=by simpa using fun e:45=c=>hc e.symm
 cases n with
 | true =>
  refine ⟨pre_one 45 45 _,?_⟩
  show Lib.trimPrefix (45::c::r) [45]=_
  unfold Lib.trimPrefix
  rw [pre_one];rfl
 | false =>
  refine ⟨(pre_one 45 c r).trans this,?_⟩
  show Lib.trimPrefix (c::r) [45]=_
  unfold Lib.trimPrefix
  rw [pre_one,this];rfl
theorem read_form {qc:Rat} {q:List Qm} (hq:∀ p∈q,ColIn p.1):readF (formT qc q)=(txt qc,tms q):=by
 cases q with
 | nil =>
  obtain ⟨m,n,h⟩:=rt_numTx qc
  rw [show formT qc []=rt qc from rfl]
  unfold readF rdStart
  rw [h.mag,h.neg,splitW_none _ h.space,rdAll_cons,rd_mag h]
  show rdEnd ⟨n,⟨m.toArray⟩,[]⟩=_
  unfold rdEnd txt
  rw [if_neg (by simpa using h.ne),h.num];rfl
 | cons p q =>
  have hq':∀ x∈q,ColIn x.1:=fun x hx=>hq x (by simp [hx])
  have hw:=rest_words qc q hq'
  have hb:=body_words p (hq p (by simp)) hw
  have hs:=first_sign (negT (rt p.2)) (body_head p (restT qc q))
  rw [form_cons]
  unfold partT
  rw [List.append_assoc]
  unfold readF rdStart
  rw [hs.1,hs.2,hb,rd_term p (hq p (by simp)) _ _ _ rfl,rd_rest qc q hq']
  rfl
end Go.Proofs.YtkhdocdddicgpaaGreatDoor
set_option linter.unusedVariables false
set_option linter.unusedSimpArgs false
namespace Go.Proofs.YtkhdocdddicgpaaGreatDoor
open Go.RowKit Go.Maps _root_.Go.Proofs.YtkhdocdddicgpaaGreatDoor.Nm
set_option maxRecDepth 100000 in
set_option maxHeartbeats 1600000 in
theorem rSign_any (v:Value) (q:Rat) (b:Bool) (w:World) (h:RRef w v q) (hb:Hid (decide (q.num<0)=b)) :
 Calls Tryz.prog 100 #[v] w fun e w'=>(∃ c,e = .returned (.int .i64 c)∧decide (c<0)=b)∧Below w.heap.size w w':=by
 obtain ⟨n1,a1,l1,c1,n2,a2,l2,c2,rfl,h1,h2⟩:=h
 have hA:=(Below.refl w.heap.size w).alloc (Nat.le_refl _) (.cells #[.bool n1,.slice a1 l1 c1,.bool n2,.slice a2 l2 c2] 33)
 have HB:=Lib.hid (B4.new w (.bool n1) (.slice a1 l1 c1) (.bool n2) (.slice a2 l2 c2) 33)
 have HN:=Lib.hid (h1.keep hA (Nat.le_refl _))
 have HW:=Lib.hid hA
 obtain ⟨z,hz⟩:∃ z,decide (q.num=0)=z:=⟨_,rfl⟩
 have HZ:=Lib.hid (And.intro trivial hz)
 have hs:n1=b:=by rw [h1.neg_is, ← hb.out];rfl
 subst hs
 clear hA h1 h2 hz
 obtain ⟨x0,x1,x2,x3⟩:=HB.out.cell
 go_enter Tryz.func100,Tryz.ntmps100
 go_wp2_with fail
 refine (rzero_any _ q.num z _ HN.out HZ).mono ?_
 rintro e w1 ⟨rfl,hb1⟩
 have HB1:=Lib.hid (HB.out.below hb1 HB.out.lt)
 have HW1:=Lib.hid (HW.out.trans (hb1.mono HW.out.size))
 clear hb1 x0 x1 x2 x3
 cases z with
 | true =>
  have e0:n1=false:=by have h3:=of_decide_eq_true HZ.out.2;have h4:=hb.out;rw [h3] at h4;simpa using h4.symm
  subst e0
  go_wp2
  go_ret
  exact ⟨⟨_,rfl,rfl⟩,HW1.out⟩
 | false =>
  obtain ⟨x0,x1,x2,x3⟩:=HB1.out.cell
  cases n1 with
  | true =>
   go_wp2
   go_ret
   exact ⟨⟨_,rfl,rfl⟩,HW1.out⟩
  | false =>
   go_wp2
   go_ret
   exact ⟨⟨_,rfl,rfl⟩,HW1.out⟩
theorem digit_piece:∀ n:Fin 10,(⟨#[48,49,50,51,52,53,54,55,56,57]⟩:ByteArray).extract n.val (n.val+1)=⟨(Lib.decDigits n.val).toArray⟩:=by decide +kernel
theorem dec_size (n:Nat) (h:n<18446744073709551616):(⟨(Lib.decDigits n).toArray⟩:ByteArray).size≤100:=by
 have h1:=Lib.nDigits_le20 n h
 rw [← Lib.decDigits_length] at h1
 show (Lib.decDigits n).toArray.size≤100
 simp;omega
theorem dec_small (n:Nat) (h:n<10):(⟨#[48,49,50,51,52,53,54,55,56,57]⟩:ByteArray).extract n (n+1)=⟨(Lib.decDigits n).toArray⟩:=digit_piece ⟨n,h⟩
theorem dec_big (n:Nat) (h:¬ n<10):(⟨(Lib.decDigits (n/10)).toArray⟩:ByteArray)++⟨(Lib.decDigits (n%10)).toArray⟩=⟨(Lib.decDigits n).toArray⟩:=by
 apply ByteArray.ext
 have h1:Lib.decDigits (n%10)=[UInt8.ofNat (48+n%10)]:=by rw [Lib.decDigits,dif_pos (Nat.mod_lt _ (by omega))]
 have h2:Lib.decDigits n=Lib.decDigits (n/10)++[UInt8.ofNat (48+n%10)]:=by rw [Lib.decDigits,dif_neg h]
 rw [h1,h2]
 simp
set_option maxRecDepth 100000 in
set_option maxHeartbeats 1600000 in
theorem dec_low (n:Nat) (h:n<10) (s:ByteArray) (hs:Hid (s=⟨(Lib.decDigits n).toArray⟩)) (w:World):Calls Tryz.prog 65 #[.int .i64 n] w fun e w'=>e = .returned (.string s)∧w'=w:=by
 have h1:(n:Int)<10:=by omega
 have h2:(0:Int)≤n:=by omega
 have HD:=Lib.hid (And.intro trivial h)
 clear h
 go_enter Tryz.func65,Tryz.ntmps65
 go_wp2
 go_ret
 refine ⟨?_,rfl⟩
 rw [hs.out, ← dec_small n HD.out.2];rfl
set_option maxRecDepth 100000 in
set_option maxHeartbeats 1600000 in
theorem dec_any:∀ (k n:Nat),n≤k→n<100000→∀ (s:ByteArray),Hid (s=⟨(Lib.decDigits n).toArray⟩)→∀ w:World,Calls Tryz.prog 65 #[.int .i64 n] w fun e w'=>e = .returned (.string s)∧w'=w:=by
 intro k
 induction k with
 | zero =>
  intro n hn _ s hs w
  exact dec_low n (by omega) s hs w
 | succ k ih =>
  intro n hn hb s hs w
  by_cases h10:n<10
  · exact dec_low n h10 s hs w
  · have h1:¬ (n:Int)<10:=by omega
    have h2:(0:Int)≤n:=by omega
    obtain ⟨s1,hs1⟩:∃ s1:ByteArray,s1=⟨(Lib.decDigits (n/10)).toArray⟩:=⟨_,rfl⟩
    obtain ⟨s2,hs2⟩:∃ s2:ByteArray,s2=⟨(Lib.decDigits (n%10)).toArray⟩:=⟨_,rfl⟩
    have ih1:=fun w=>ih (n/10) (by omega) (by omega) s1 (Lib.hid hs1) w
    have hdl:=fun w=>dec_low (n%10) (by omega) s2 (Lib.hid hs2) w
    have hz1:s1.size≤100:=by rw [hs1];exact dec_size _ (by omega)
    have hz2:s2.size≤100:=by rw [hs2];exact dec_size _ (by omega)
    have hq0:IntKind.i64.wrap ((n:Int).tdiv 10)=((n/10:Nat):Int):=by
     have:(n:Int).tdiv 10=((n/10:Nat):Int):=by rw [Int.tdiv_eq_ediv_of_nonneg h2];omega
     rw [this];exact IntWalk.i64_in _ (by omega)
    have hr:(n:Int).tmod 10=((n%10:Nat):Int):=by rw [Int.tmod_eq_emod_of_nonneg h2];omega
    have H1:=Lib.hid ih1
    have H2:=Lib.hid hdl
    have HS:Hid (s1++s2=s):=Lib.hid (by rw [hs.out,hs1,hs2];exact dec_big n h10)
    clear ih ih1 hdl hs1 hs2
    go_enter Tryz.func65,Tryz.ntmps65
    go_wp2_with fail
    rw [show (n:Int)/10=((n/10:Nat):Int) from by omega]
    refine (H1.out _).mono ?_
    rintro e w1 ⟨rfl,h⟩
    rw [h]
    clear h w1
    go_wp2_with fail
    rw [show (n:Int)%10=((n%10:Nat):Int) from by omega]
    refine (H2.out _).mono ?_
    rintro e w1 ⟨rfl,h⟩
    rw [h]
    clear h w1
    go_wp2
    go_ret
    exact ⟨by rw [← HS.out];rfl,rfl⟩
end Go.Proofs.YtkhdocdddicgpaaGreatDoor
