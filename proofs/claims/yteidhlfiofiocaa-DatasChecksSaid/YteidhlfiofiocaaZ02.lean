/- The reference's finite. -/
import Derived.Test.YteidhlfiofiocaaZX
set_option linter.unusedVariables false
set_option linter.unusedSimpArgs false
namespace Go.Proofs.Yteidhlfiofiocaa
open Go.RowKit Go.Shelf

theorem MarksAt.put {W : World} {b : Nat} {m : List Bool} (h : MarksAt W b m) (i : Nat) (hi : i < m.length) (x : Bool) : MarksAt (W.setCell ⟨b, i, none⟩ (.bool x)) b (m.set i x) := by
  obtain ⟨hlt, hk⟩ := Array.getElem?_eq_some_iff.1 h
  show (W.heap.modify b _)[b]? = _
  rw [Array.getElem?_eq_getElem (by rw [Array.size_modify]; exact hlt), Array.getElem_modify_self, hk]
  simp [List.map_set]
theorem set_same {m : List Bool} {i : Nat} {x : Bool} (hi : i < m.length) (h : m.getD i false = x) : m.set i x = m := by
  rw [List.getD_eq_getElem?_getD, List.getElem?_eq_getElem hi, Option.getD_some] at h
  rw [← h]; exact List.set_getElem_self hi

/-- What a round has done to the marks up to a constructor of a row. -/
structure Rnd (d : List DataM) (n : Nat) (m : List Bool) (k : Nat) (cs : List ConM) (s : Nat) (m' : List Bool) : Prop where
  one : (m' = m ∧ (∀ i, i < k → Dt.ClosedAt d m i) ∧ ∀ j, j < s → ∀ h : j < cs.length, Dt.finC m cs[j] = true → m.getD (k + 1) false = true) ∨ Dt.falses m' < Dt.falses m
  two : (∀ i, i < n → Dt.ClosedAt d m i) → m' = m

theorem Rnd.start {d : List DataM} {n : Nat} {m : List Bool} : Rnd d n m 0 [] 0 m := ⟨.inl ⟨rfl, fun i h => absurd h (Nat.not_lt_zero _), fun j h => absurd h (Nat.not_lt_zero _)⟩, fun _ => rfl⟩
theorem Rnd.row {d : List DataM} {n : Nat} {m : List Bool} {k : Nat} {m' : List Bool} (cs : List ConM) (h : Rnd d n m k [] 0 m') : Rnd d n m k cs 0 m' :=
  ⟨h.one.imp (fun ⟨a, b, _⟩ => ⟨a, b, fun j h => absurd h (Nat.not_lt_zero _)⟩) id, h.two⟩
theorem Rnd.done {d : List DataM} {n : Nat} {m : List Bool} {k : Nat} {m' : List Bool} {cs : List ConM} {c : Nat} (h : Rnd d n m k cs c m') (hc : cs.length = c) (hk : ∀ hk : k < d.length, d[k].cons = cs) : Rnd d n m (k + 1) [] 0 m' :=
  ⟨h.one.imp (fun ⟨a, b, e⟩ => ⟨a, fun i hi => by
    by_cases hik : i = k
    · subst hik
      intro hd hany
      rw [hk hd, List.any_eq_true] at hany
      obtain ⟨x, hx, hf⟩ := hany
      obtain ⟨j, hj, rfl⟩ := List.getElem_of_mem hx
      exact e j (by omega) hj hf
    · exact b i (by omega), fun j h => absurd h (Nat.not_lt_zero _)⟩) id, h.two⟩
/-- Nothing new at a constructor. -/
theorem Rnd.same {d : List DataM} {n : Nat} {m : List Bool} {k : Nat} {m' : List Bool} {cs : List ConM} {s : Nat} (h : Rnd d n m k cs s m') (hs : s < cs.length) (hh : Dt.finC m' cs[s] = true → m'.getD (k + 1) false = true) : Rnd d n m k cs (s + 1) m' :=
  ⟨h.one.imp (fun ⟨a, b, e⟩ => ⟨a, b, fun j hj hjl hf => by
    by_cases hjs : j = s
    · subst hjs; rw [← a] at hf ⊢; exact hh hf
    · exact e j (by omega) hjl hf⟩) id, h.two⟩
/-- A mark is new. -/
theorem Rnd.new {d : List DataM} {n : Nat} {m : List Bool} {k : Nat} {m' : List Bool} {cs : List ConM} {s : Nat} (h : Rnd d n m k cs s m') (hs : s < cs.length) (hkn : k < n) (hn : d.length = n) (hk : ∀ hk : k < d.length, d[k].cons = cs) (hf : Dt.finC m' cs[s] = true) (hm : m'.getD (k + 1) false = false) (hl : k + 1 < m'.length) : Rnd d n m k cs (s + 1) (m'.set (k + 1) true) := by
  have h1 : m'[k + 1] = false := by rw [List.getD_eq_getElem?_getD, List.getElem?_eq_getElem hl, Option.getD_some] at hm; exact hm
  have h2 := Dt.falses_set m' (k + 1) hl h1
  refine ⟨.inr ?_, fun hc => ?_⟩
  · rcases h.one with ⟨a, _⟩ | a
    · rw [← a]; omega
    · omega
  · exfalso
    have e := h.two hc
    have hd : k < d.length := by omega
    have h3 := hc k hkn hd (by rw [hk hd]; rw [← e]; exact any_true_of (List.getElem_mem hs) hf)
    rw [← e, hm] at h3; cases h3

set_option maxRecDepth 100000 in
set_option maxHeartbeats 12800000 in
theorem rFinite_any (v : Value) (d : List DataM) (r : Bool) (w : World) (hv : DsAt w v d) (hd : Sm d) (hty : Dt.typed d = true) (hr : Hid (r = true ↔ AllFin d)) :
    Calls Try.prog 56 #[v] w fun e w' => e = .returned (.bool r) ∧ Below w.heap.size w w' := by
  obtain ⟨ad, cap, rfl⟩ := hv.slice
  have hl := hd.1
  have hok : ∀ x ∈ d, ∀ c ∈ x.cons, ∀ f ∈ c.fields, Dt.ok d f = true := by
    simp [Dt.typed, Dt.offD, Dt.offC, Dt.offT] at hty
    exact hty
  have HSS := Lib.hid (sound_start d)
  have HF0 : Hid (((List.replicate (d.length + 1) false).set 0 true).getD 0 false = true) := Lib.hid (by simp [List.replicate_succ])
  have HFL : Hid (Dt.falses ((List.replicate (d.length + 1) false).set 0 true) ≤ d.length) := Lib.hid (by
    rw [List.replicate_succ, List.set_cons_zero]
    simp [Dt.falses])
  obtain ⟨n, hln⟩ : ∃ n, d.length = n := ⟨_, rfl⟩
  rw [hln] at hv hl HSS HF0 HFL ⊢
  have HL := Lib.hid hln
  have HV := Lib.hid hv
  have HD := Lib.hid hd
  have HOK := Lib.hid hok
  obtain ⟨i0, hi, hz0, hz1, hz2⟩ := info_parts infoBool
  have HI := Lib.hid hi
  have HZ0 := Lib.hid hz0
  have HZ1 := Lib.hid hz1
  have HZ2 := Lib.hid hz2
  clear hv hd hln hok hty hi hz0 hz1 hz2
  have hwn : IntKind.i64.wrap ((n : Int) + 1) = ((n + 1 : Nat) : Int) := by rw [IntWalk.i64_in _ (by omega)]; omega
  go_enter Try.func56, Try.ntmps56
  go_wp2_with (refine wpList_make_full _ rfl (.tmp 13) (.tmp 13) 91 rfl w.heap.size 4 i0 (.bool false) 1 Try.underlying91 HI.out HZ0.out HZ1.out .i64 .i64 _ _ (n + 1) rfl rfl (by simp) (by simp) (by rw [HZ2.out]; omega) (by unfold maxLen; omega) (Nat.le_refl _) ?_; intro w1 hown hgrow; refine hold ?_)
  rw [madeBool] at hown
  have hm1 := marks_of_row hown
  have hb1 := (Below.refl w.heap.size w).grown hgrow (Nat.le_refl _) (fun k e => by cases e)
  have hc0 := hm1.cell 0 (by simp)
  have hf0 := hm1.frozen 0
  rw [show (List.replicate (n + 1) false).getD 0 false = false from by rw [List.replicate_succ]; rfl] at hc0
  have HM1 := Lib.hid hm1
  have HB1 := Lib.hid hb1
  clear hown hgrow hm1 hb1
  refine go_on ?_
  go_wp2
  have HM2 := Lib.hid (HM1.out.set 0 (by simp))
  have HB2 := Lib.hid (HB1.out.setCell (p := ⟨w.heap.size, 0, none⟩) (Nat.le_refl _) (.bool true))
  generalize hW2 : w1.setCell ⟨w.heap.size, 0, none⟩ (.bool true) = w2 at HM2 HB2 ⊢
  clear hW2 hc0 hf0 HM1 HB1 HI HZ0 HZ1 HZ2 hwn w1
  generalize hm0 : (List.replicate (n + 1) false).set 0 true = m0 at HM2 HSS HF0 HFL
  clear hm0
  obtain ⟨N1, hN1⟩ : ∃ N1, n + 1 = N1 := ⟨_, rfl⟩
  rw [hN1]
  have HN1 := Lib.hid hN1
  clear hN1
  go_loopw [4] (fun i wr => ∃ (q : Nat) (m : List Bool), q ≤ N1 ∧ i = .int .i64 q ∧ Hid (MarksAt wr w.heap.size m) ∧ Hid (Dt.Sound d m) ∧ Hid (m.getD 0 false = true) ∧ Hid ((∀ i, i < n → Dt.ClosedAt d m i) ∨ Dt.falses m + q ≤ n) ∧ Hid (Below w.heap.size w wr)) (fun i _ => N1 - (intOf i).toNat)
  case atStart => exact ⟨0, m0, Nat.zero_le _, rfl, HM2, HSS, HF0, Lib.hid (.inr HFL.out), HB2⟩
  case round =>
    obtain ⟨q, m, hq, rfl, HM, HS, H0, HCF, HW⟩ := hrel
    have hq1000 : q ≤ 1000 := by have := HN1.out; omega
    by_cases hqn : q ≤ n
    · have hqz : (q : Int) ≤ (n : Int) := by omega
      go_wp2
      go_loopw [5] (fun i wx => ∃ (k : Nat) (m' : List Bool), k ≤ n ∧ i = .int .i64 k ∧ Hid (MarksAt wx w.heap.size m') ∧ Hid (Dt.Sound d m') ∧ Hid (m'.getD 0 false = true) ∧ Hid (Rnd d n m k [] 0 m') ∧ Hid (Below w.heap.size w wx)) (fun i _ => n - (intOf i).toNat)
      case atStart => exact ⟨0, m, Nat.zero_le _, rfl, HM, HS, H0, Lib.hid Rnd.start, HW⟩
      case round =>
        obtain ⟨k, m1, hk, rfl, HM1, HS1, H01, HR1, HW1⟩ := hrel
        by_cases hlt : k < n
        · have hltz : (k : Int) < (n : Int) := by omega
          have hkd : k < d.length := by rw [HL.out]; exact hlt
          obtain ⟨b, off, fa, fc, rfl, hb, c0, c1, hcs⟩ := HV.out.at k hkd
          obtain ⟨y, hy⟩ : ∃ y, d[k] = y := ⟨_, rfl⟩
          rw [hy] at c1 hcs
          have hyd : y ∈ d := by rw [← hy]; exact List.getElem_mem hkd
          have hys := HD.out.2 y hyd
          have hyok := HOK.out y hyd
          obtain ⟨cs, hcse⟩ : ∃ cs, y.cons = cs := ⟨_, rfl⟩
          have hcl := hys.2.1
          have hcsm := hys.2.2
          rw [hcse] at c1 hcs hcl hcsm hyok
          have HCE : Hid (∀ hk : k < d.length, d[k].cons = cs) := Lib.hid (fun _ => by rw [← hcse, ← hy])
          obtain ⟨cl, hcl2⟩ : ∃ cl, cs.length = cl := ⟨_, rfl⟩
          rw [hcl2] at c1 hcs hcl
          have HCL := Lib.hid hcl2
          have HCS := Lib.hid hcs
          have HCSM := Lib.hid hcsm
          have HYOK := Lib.hid hyok
          have HC1 := Lib.hid c1
          have HBB := Lib.hid hb
          obtain ⟨K1, hK1⟩ : ∃ K1, k + 1 = K1 := ⟨_, rfl⟩
          have hwk : IntKind.i64.wrap ((k : Int) + 1) = (K1 : Int) := by rw [← hK1]; exact wrap_succ k (by omega)
          have hwk2 : wrap64 ((k : Int) + 1) = (K1 : Int) := by rw [← hK1]; exact wrap_succ2 k (by omega)
          have hkn1 : (K1 : Int) < (N1 : Int) := lt_succ_cast hlt hK1 HN1.out
          have HK1 := Lib.hid hK1
          have HK10 : Hid (K1 ≠ 0) := Lib.hid (by rw [← hK1]; exact Nat.succ_ne_zero k)
          have HWK := Lib.hid hwk
          have HWK2 := Lib.hid hwk2
          clear hy hyd hys hyok hcse hcl2 hcs hcsm c0 c1 hb hK1 hwk hwk2
          go_wp2
          go_loopw [6] (fun i wx => ∃ (s : Nat) (m' : List Bool), s ≤ cl ∧ i = .int .i64 s ∧ Hid (MarksAt wx w.heap.size m') ∧ Hid (Dt.Sound d m') ∧ Hid (m'.getD 0 false = true) ∧ Hid (Rnd d n m k cs s m') ∧ Hid (Below w.heap.size w wx)) (fun i _ => cl - (intOf i).toNat)
          case atStart => exact ⟨0, m1, Nat.zero_le _, rfl, HM1, HS1, H01, Lib.hid (HR1.out.row cs), HW1⟩
          case round =>
            obtain ⟨s, m2, hs, rfl, HM2, HS2, H02, HR2, HW2⟩ := hrel
            have hc1 := (HW2.out.cell (p := ⟨b, off + k * 2 + 1, none⟩) HBB.out).trans HC1.out
            by_cases hslt : s < cl
            · have hsz : (s : Int) < (cl : Int) := by omega
              have hsl : s < cs.length := by rw [HCL.out]; exact hslt
              obtain ⟨b2, off2, ga, gc, rfl, hb2, e0, e1, hfs⟩ := HCS.out.at s hsl
              replace e1 := (HW2.out.cell (p := ⟨b2, off2 + s * 2 + 1, none⟩) hb2).trans e1
              obtain ⟨z, hz⟩ : ∃ z, cs[s] = z := ⟨_, rfl⟩
              rw [hz] at e1 hfs
              have HZ := Lib.hid hz
              have hzm : z ∈ cs := by rw [← hz]; exact List.getElem_mem hsl
              have hzs := HCSM.out z hzm
              have hzok := HYOK.out z hzm
              obtain ⟨fl, hfl⟩ : ∃ fl, z.fields = fl := ⟨_, rfl⟩
              have HFLE := Lib.hid hfl
              have hfl1 := hzs.2.1
              rw [hfl] at e1 hfs hfl1 hzok
              obtain ⟨g, hg⟩ : ∃ g, fl.length = g := ⟨_, rfl⟩
              rw [hg] at e1 hfs hfl1
              have HG := Lib.hid hg
              have HFS := Lib.hid hfs
              have HZOK := Lib.hid hzok
              have HLN2 : Hid (m2.length = N1) := Lib.hid (by rw [HS2.out.1, HL.out, HN1.out])
              clear hz hzm hzs hzok hfl hg hfs e0
              go_wp2
              clear hc1 e1
              go_loop [7, 9] (fun a j => ∃ t : Nat, t ≤ g ∧ j = .int .i64 t ∧ a = .bool ((fl.take t).all (Dt.mk m2))) (fun _ j => g - (intOf j).toNat)
              case atStart => exact ⟨0, Nat.zero_le _, rfl, rfl⟩
              case round =>
                obtain ⟨t, ht, rfl, rfl⟩ := hrel
                obtain ⟨al, hal⟩ : ∃ al, (fl.take t).all (Dt.mk m2) = al := ⟨_, rfl⟩
                rw [hal]
                have HAL := Lib.hid hal
                clear hal
                by_cases htlt : t < g
                · have htz : (t : Int) < (g : Int) := by omega
                  have htl : t < fl.length := by rw [HG.out]; exact htlt
                  have HTK : Hid (fl.take (t + 1) = fl.take t ++ [fl[t]]) := Lib.hid (List.take_append_getElem htl).symm
                  have hfo := HZOK.out fl[t] (List.getElem_mem htl)
                  rw [ok_iff, HL.out] at hfo
                  obtain ⟨fn, hfn⟩ : ∃ fn : Nat, fl[t] = fn := ⟨fl[t].toNat, by omega⟩
                  obtain ⟨b3, off3, rfl, hb3, s0⟩ := HFS.out.at t htl
                  replace s0 := (HW2.out.cell (p := ⟨b3, off3 + t, none⟩) hb3).trans s0
                  rw [hfn] at hfo s0
                  have hfn1 : fn < N1 := by have := HN1.out; omega
                  have hfnz : (fn : Int) < (N1 : Int) := by omega
                  have cm := HM2.out.cell fn (by rw [HLN2.out]; exact hfn1)
                  obtain ⟨mv, hmv⟩ : ∃ mv, m2.getD fn false = mv := ⟨_, rfl⟩
                  rw [hmv] at cm
                  have HNX : Hid ((fl.take (t + 1)).all (Dt.mk m2) = (al && mv)) := Lib.hid (by
                    rw [HTK.out, List.all_append, HAL.out, hfn]
                    simp [Dt.mk, ← hmv])
                  clear hfo hfn hmv
                  cases al with
                  | true =>
                    go_wp2
                    go_round
                    case rel => exact ⟨t + 1, by omega, by go_num, by rw [HNX.out]; rfl⟩
                    case measure => simp [intOf]; omega
                  | false =>
                    go_wp2
                    go_round
                    case rel => exact ⟨t + 1, by omega, by go_num, by rw [HNX.out]; rfl⟩
                    case measure => simp [intOf]; omega
                · obtain rfl : g = t := by omega
                  have hnn : ¬ (g : Int) < g := by omega
                  have HFIN : Hid (Dt.finC m2 (cs[s]'hsl) = al) := Lib.hid (by
                    have h := HAL.out
                    rw [List.take_of_length_le (by rw [HG.out]; exact Nat.le_refl _)] at h
                    rw [HZ.out, Dt.finC, HFLE.out]; exact h)
                  have hK1l : K1 < m2.length := by rw [HLN2.out]; omega
                  have cM := HM2.out.cell K1 hK1l
                  have hfM := HM2.out.frozen K1
                  obtain ⟨mk1, hmk1⟩ : ∃ mk1, m2.getD K1 false = mk1 := ⟨_, rfl⟩
                  rw [hmk1] at cM
                  have HMK := Lib.hid hmk1
                  have hwk := HWK.out
                  have hwk2 := HWK2.out
                  have HPT := Lib.hid (HM2.out.put K1 hK1l true)
                  have HPF := Lib.hid (HM2.out.put K1 hK1l false)
                  have HWT := Lib.hid (HW2.out.setCell (p := ⟨w.heap.size, K1, none⟩) (Nat.le_refl _) (.bool true))
                  have HWF := Lib.hid (HW2.out.setCell (p := ⟨w.heap.size, K1, none⟩) (Nat.le_refl _) (.bool false))
                  have HK1L := Lib.hid hK1l
                  clear hmk1 hK1l
                  cases mk1 with
                  | true =>
                    rw [set_same HK1L.out HMK.out] at HPT
                    go_wp2
                    go_roundw
                    case rel =>
                      exact ⟨s + 1, m2, by omega, by go_num, HPT, HS2, H02, Lib.hid (HR2.out.same hsl (fun _ => by rw [HK1.out]; exact HMK.out)), HWT⟩
                    case measure => simp [intOf]; omega
                  | false =>
                    cases al with
                    | false =>
                      rw [set_same HK1L.out HMK.out] at HPF
                      go_wp2
                      go_roundw
                      case rel =>
                        exact ⟨s + 1, m2, by omega, by go_num, HPF, HS2, H02, Lib.hid (HR2.out.same hsl (fun h => by rw [HFIN.out] at h; cases h)), HWF⟩
                      case measure => simp [intOf]; omega
                    | true =>
                      have HRN : Hid (Rnd d n m k cs (s + 1) (m2.set K1 true)) := Lib.hid (by
                        have h1 := HMK.out
                        have h2 := HK1L.out
                        rw [← HK1.out] at h1 h2 ⊢
                        exact HR2.out.new hsl hlt HL.out HCE.out HFIN.out h1 h2)
                      have HSN : Hid (Dt.Sound d (m2.set K1 true)) := Lib.hid (by
                        rw [← HK1.out]
                        refine Dt.sound_set HS2.out k hkd ?_ ?_
                        · intro c hc f hf; rw [HCE.out hkd] at hc; exact HYOK.out c hc f hf
                        · rw [HCE.out hkd]; exact any_true_of (List.getElem_mem hsl) HFIN.out)
                      have H0N : Hid ((m2.set K1 true).getD 0 false = true) := Lib.hid (by
                        rw [List.getD_eq_getElem?_getD, List.getElem?_set_ne HK10.out, ← List.getD_eq_getElem?_getD]
                        exact H02.out)
                      go_wp2
                      go_roundw
                      case rel => exact ⟨s + 1, m2.set K1 true, by omega, by go_num, HPT, HSN, H0N, HRN, HWT⟩
                      case measure => simp [intOf]; omega
            · obtain rfl : cl = s := by omega
              have hnn : ¬ (cl : Int) < cl := by omega
              have HRD := Lib.hid (HR2.out.done HCL.out HCE.out)
              have hwk := HWK.out
              have hwk2 := HWK2.out
              go_wp2
              go_roundw
              case rel =>
                have hK := HK1.out
                exact ⟨k + 1, m2, by omega, by first | (go_num; done) | (rw [hK]; done) | (rw [hK]; first | rfl | exact congrArg (Value.int .i64) hwk | exact congrArg (Value.int .i64) hwk2), HM2, HS2, H02, HRD, HW2⟩
              case measure => have hK := HK1.out; simp [intOf]; omega
        · obtain rfl : n = k := by omega
          have hnn : ¬ (n : Int) < n := by omega
          go_wp2
          go_roundw
          case rel =>
            have hq1 : q + 1 ≤ N1 := by rw [← HN1.out]; exact Nat.succ_le_succ hqn
            refine ⟨q + 1, m1, hq1, by go_num, HM1, HS1, H01, Lib.hid ?_, HW1⟩
            rcases HCF.out with h | h
            · exact .inl (by rw [HR1.out.two h]; exact h)
            · rcases HR1.out.one with ⟨a, b, _⟩ | a
              · exact .inl (by rw [a]; exact b)
              · exact .inr (Nat.le_trans (Nat.succ_le_of_lt (Nat.add_lt_add_right a q)) h)
          case measure => have hq1 : q < N1 := (by rw [← HN1.out]; exact Nat.lt_succ_of_le hqn); simp [intOf]; omega
    · have hqz : ¬ (q : Int) ≤ (n : Int) := by omega
      have HALL : Hid ((!m.any (fun x => !x)) = true ↔ AllFin d) := Lib.hid (allFin_of HS.out H0.out (fun i hi => by
        rcases HCF.out with h | h
        · exact h i (by rw [← HL.out]; exact hi)
        · omega))
      have HLN : Hid (m.length = N1) := Lib.hid (by rw [HS.out.1, HL.out, HN1.out])
      go_wp2
      clear hqz hqn
      go_loop [10] (fun i => ∃ k : Nat, k ≤ N1 ∧ i = .int .i64 k ∧ Hid (∀ j (h : j < k) (h2 : j < m.length), (!m[j]'h2) = false)) (fun i => N1 - (intOf i).toNat)
      case atStart => exact ⟨0, Nat.zero_le _, rfl, Lib.hid (fun j h => absurd h (Nat.not_lt_zero _))⟩
      case round =>
        obtain ⟨k, hk, rfl, A⟩ := hrel
        have hk1000 : k ≤ 1000 := by have := HN1.out; omega
        by_cases hlt : k < N1
        · have hltz : (k : Int) < (N1 : Int) := by omega
          have hkm : k < m.length := by rw [HLN.out]; exact hlt
          have c0 := HM.out.cell k hkm
          rw [List.getD_eq_getElem?_getD, List.getElem?_eq_getElem hkm, Option.getD_some] at c0
          obtain ⟨o, ho⟩ : ∃ o, m[k] = o := ⟨_, rfl⟩
          rw [ho] at c0
          have HO := Lib.hid ho
          clear ho
          cases o with
          | false =>
            have HRE : Hid (r = false) := Lib.hid (by
              have h1 : m.any (fun x => !x) = true := any_true_of (List.getElem_mem hkm) (by rw [HO.out]; rfl)
              have h2 := HALL.out
              rw [h1] at h2
              have h3 := hr.out
              cases r with
              | false => rfl
              | true => have := h2.2 (h3.1 rfl); simp at this)
            go_wp2
            go_ret
            exact ⟨by rw [HRE.out] <;> rfl, HW.out⟩
          | true =>
            go_wp2
            go_round
            case rel =>
              refine ⟨k + 1, by omega, by go_num, Lib.hid (fun j h h2 => ?_)⟩
              by_cases e : j = k
              · subst e; rw [HO.out]; rfl
              · exact A.out j (by omega) h2
            case measure => simp [intOf]; omega
        · obtain rfl : N1 = k := by omega
          have hnn : ¬ (N1 : Int) < N1 := by omega
          have HRE : Hid (r = true) := Lib.hid (by
            have h1 : m.any (fun x => !x) = false := any_false_of HLN.out A.out
            have h2 := HALL.out
            rw [h1] at h2
            exact hr.out.2 (h2.1 rfl))
          go_wp2
          go_ret
          exact ⟨by rw [HRE.out] <;> rfl, HW.out⟩

end Go.Proofs.Yteidhlfiofiocaa
