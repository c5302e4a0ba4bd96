/- The law SyntaxSubs. -/
import Derived.Test.YtpeihgbkolihgaaDoorU44
import Derived.Test.YtpeihgbkolihgaaDoorU42
set_option linter.unusedVariables false
set_option linter.unusedSimpArgs false
namespace Go.Proofs.YtpeihgbkolihgaaDoor
open Go.RowKit

namespace Sx
theorem posK_lt (sz : Int → Nat) : ∀ (l : List Int) (b : Nat), ∀ p ∈ posK sz l b, (b : Int) ≤ p ∧ p ≤ (b : Int) + (szL sz l : Nat)
  | [], _, p, h => by cases h
  | q :: l, b, p, h => by
    rw [posK] at h
    rw [szL]
    rcases List.mem_cons.1 h with rfl | h
    · omega
    · have := posK_lt sz l _ p h
      omega
theorem flat_sm {L : List LeafM} (hS : ∀ x ∈ L, SmL x) : ∀ (k : Nat) (t : Int) (b : Nat), Hh L k t → b + sizeF L k t ≤ 1000000 → ∀ x ∈ flat L k t b, SmL x
  | 0, _, _, h, _, _, _ => h.elim
  | k + 1, t, b, h, hb, x, hx => by
    rw [flat] at hx
    rw [sizeF_succ] at hb
    rcases List.mem_cons.1 hx with rfl | hx
    · have hs := hS _ (leafOf_mem h.1)
      refine ⟨hs.1, ?_, hs.2.2.1, hs.2.2.2.1, hs.2.2.2.2.1, hs.2.2.2.2.2.1, fun p hp => ?_⟩
      · show (posK _ _ _).length ≤ _
        rw [posK_len, kidsOf_leaf h.1]
        exact hs.2.1
      · have := posK_lt _ _ _ p hp
        unfold In64
        omega
    · have : ∀ (l : List Int) (c : Nat), (∀ q ∈ l, Hh L k q) → c + szL (sizeF L k) l ≤ 1000000 → x ∈ flatK (flat L k) (sizeF L k) l c → SmL x := by
        intro l
        induction l with
        | nil => intro c _ _ h; cases h
        | cons q l ih =>
          intro c hq hc h
          rw [szL] at hc
          rw [flatK, List.mem_append] at h
          rcases h with h | h
          · exact flat_sm hS k q c (hq q (by simp)) (by omega) x h
          · exact ih (c + sizeF L k q) (fun r hr => hq r (by simp [hr])) (by omega) h
      exact this _ _ h.2 (by omega) hx
theorem below_sm {L : List LeafM} {root : Int} (hS : SmT L) (hc : check L root = 0) {t : Int} (ht : isLeaf L t = true) : SmT (flat L (L.length + 1) t 0) := by
  have ok := check_ok hc
  obtain ⟨h1, h2⟩ := ok.sub ht
  have := ok.many
  exact ⟨by rw [flat_len]; omega, flat_sm hS.2 _ _ _ h1 (by omega)⟩
theorem below_dump {L : List LeafM} {root : Int} (hf : few L = true) (h64 : H64 L) (hc : check L root = 0) {t : Int} (ht : isLeaf L t = true) : dumpR (flat L (L.length + 1) t 0) 0 = (dumpF L (L.length + 1) t, 0) := by
  obtain ⟨h1, h2, _⟩ := below_text hc ht
  have ok := check_ok hc
  obtain ⟨h3, h4⟩ := ok.sub ht
  unfold few at hf
  rw [Bool.and_eq_true, decide_eq_true_eq, List.all_eq_true] at hf
  have h5 := dump_few hf.1 h64 h3
  have h6 : 92 * (pre L (L.length + 1) t).length ≤ 92 * 120 := Nat.mul_le_mul_left _ (Nat.le_trans h4 hf.2)
  unfold dumpR
  rw [if_neg (by rw [h1]; simp), h2, if_neg (by omega)]
theorem subs {L : List LeafM} {root t : Int} (hc : check L root = 0) (ht : isLeaf L t = true) : subE L root t = 0 ∧ subL L root t = flat L (L.length + 1) t 0 := by
  have h : subE L root t = 0 := by unfold subE; rw [if_neg (by rw [hc]; simp), if_pos ht]
  refine ⟨h, ?_⟩
  unfold subL
  rw [if_pos h]
end Sx

theorem ext_mid (a b c : List UInt8) : (⟨(a ++ (b ++ c)).toArray⟩ : ByteArray).extract a.length (a.length + b.length) = ⟨b.toArray⟩ := by
  apply ByteArray.ext
  simp

set_option maxRecDepth 100000 in
set_option maxHeartbeats 25600000 in
theorem law_SyntaxSubs (v : Value) (L : List LeafM) (root t : Int) (ht64 : In64 t) (w : World) (hv : LsAt w v L) (h64 : Sx.H64 L) (hr64 : In64 root) (hl : L.length ≤ maxLen) (htab : Tab w) :
    Calls Tryd.prog 7 #[.agg #[v, .int .i64 root], .int .i64 t] w fun e w' => e = .returned (.bool true) ∧ Below w.heap.size w w' := by
  obtain ⟨ad, cap, rfl⟩ := hv.slice
  obtain ⟨n, hn⟩ : ∃ n, L.length = n := ⟨_, rfl⟩
  rw [hn] at hv ⊢
  obtain ⟨A, hA⟩ : ∃ A, w.heap.size = A := ⟨_, rfl⟩
  obtain ⟨W2, h2⟩ : ∃ W, W = w.alloc (treeO (.slice ad n cap) root) := ⟨_, rfl⟩
  have b3 : W2.heap[A]? = some (treeO (.slice ad n cap) root) := by rw [h2, ← hA]; exact World.alloc_heap_new w _
  have hB : Below w.heap.size w W2 := by rw [h2]; exact (Below.refl _ w).alloc (Nat.le_refl _) _
  have HSX : Hid (∀ X : World, Below W2.heap.size W2 X → X.cell? ⟨A, 0, none⟩ = some (.slice ad n cap) ∧ X.cell? ⟨A, 1, none⟩ = some (.int .i64 root)) := Lib.hid (fun X hX => ⟨(hX.cell (p := ⟨A, 0, none⟩) (lt_of b3)).trans (cell_at (i := 0) b3 rfl), (hX.cell (p := ⟨A, 1, none⟩) (lt_of b3)).trans (cell_at (i := 1) b3 rfl)⟩)
  have HA2 := Lib.hid (hv.keep hB (Nat.le_refl _))
  have HTB := Lib.hid (tab_keep htab hB (Nat.le_refl _))
  have HB := Lib.hid hB
  have HA := Lib.hid (And.intro trivial hA)
  have HN := Lib.hid hn
  have H64 := Lib.hid h64
  have HL : Hid (L.length ≤ 9223372036854775807) := Lib.hid hl
  have hch := h2
  unfold treeO at hch
  have HCH := Lib.hid hch.symm
  have HAW := Lib.hid (awake_any W2 HTB.out)
  clear h2 b3 hB hA hch hv hn h64 hl htab
  go_enter Tryd.func7, Tryd.ntmps7
  go_upto_region 1 with fail
  rw [HCH.out, HA.out.2]
  clear HCH
  go_wp2_with fail
  refine HAW.out.mono ?_
  rintro e w3 ⟨rfl, hb3⟩
  have HB3 := Lib.hid hb3
  clear hb3 HAW
  obtain ⟨x0, x1⟩ := HSX.out w3 HB3.out
  have HC1 := Lib.hid (Few_any _ L root (Sx.few L) w3 (HA2.out.keep HB3.out (Nat.le_refl _)) HL.out (Lib.hid rfl))
  obtain ⟨fa, hfa⟩ : ∃ f, Sx.few L = f := ⟨_, rfl⟩
  rw [hfa] at HC1
  have HFA := Lib.hid hfa
  clear hfa
  go_wp2_with fail
  refine HC1.out.mono ?_
  rintro e w4 ⟨rfl, hb4⟩
  have HB4 := Lib.hid (HB3.out.trans (hb4.mono HB3.out.size))
  clear hb4 HC1 HB3 x0 x1
  cases fa with
  | false =>
    go_wp2
    go_ret
    exact ⟨rfl, HB.out.trans (HB4.out.mono HB.out.size)⟩
  | true =>
  have HSA := Lib.hid (Sx.few_sm HFA.out H64.out)
  obtain ⟨x0, x1⟩ := HSX.out w4 HB4.out
  have HC3 := Lib.hid (Check_any _ L root w4 (HA2.out.keep HB4.out (Nat.le_refl _)) HSA.out)
  obtain ⟨ca, hca⟩ : ∃ c, Sx.check L root = c := ⟨_, rfl⟩
  rw [hca] at HC3
  have HQA := Lib.hid hca
  clear hca
  go_wp2_with fail
  refine HC3.out.mono ?_
  rintro e w6 ⟨rfl, hb6⟩
  have HB6 := Lib.hid (HB4.out.trans (hb6.mono HB4.out.size))
  clear hb6 HC3 HB4 x0 x1
  obtain ⟨x0, x1⟩ := HSX.out w6 HB6.out
  by_cases hc : ca = 0
  rotate_left
  · have hcf : (ca == 0) = false := by simpa using hc
    go_wp2
    go_ret
    exact ⟨rfl, HB.out.trans (HB6.out.mono HB.out.size)⟩
  subst hc
  by_cases ht0 : 0 ≤ t
  rotate_left
  · have g1 : t < 0 := by omega
    go_wp2
    go_ret
    exact ⟨rfl, HB.out.trans (HB6.out.mono HB.out.size)⟩
  have g1 : ¬ t < 0 := by omega
  by_cases ht1 : t < n
  rotate_left
  · have g2 : (n : Int) ≤ t := by omega
    go_wp2
    go_ret
    exact ⟨rfl, HB.out.trans (HB6.out.mono HB.out.size)⟩
  have g2 : ¬ (n : Int) ≤ t := by omega
  have htl : Sx.isLeaf L t = true := (Sx.isLeaf_iff L t).2 ⟨ht0, by rw [HN.out]; exact ht1⟩
  have hrl : Sx.isLeaf L root = true := Sx.hh_leaf (Sx.check_ok HQA.out).hh
  have HTL := Lib.hid htl
  have HRL := Lib.hid hrl
  clear htl hrl
  -- the trees below the leaf and below the root
  go_upto_region 5 with fail
  have HC5 := Lib.hid (Sub_any _ L root t w6 (HA2.out.keep HB6.out (Nat.le_refl _)) HSA.out)
  rw [(Sx.subs HQA.out HTL.out).1, (Sx.subs HQA.out HTL.out).2] at HC5
  go_wp2_with fail
  refine HC5.out.mono ?_
  rintro e w7 ⟨⟨v7, rfl, hl7⟩, hb7⟩
  obtain ⟨a7, c7, rfl⟩ := hl7.slice
  have HB7 := Lib.hid (HB6.out.trans (hb7.mono HB6.out.size))
  have HS7 := Lib.hid (Sx.below_sm HSA.out HQA.out HTL.out)
  have HT7 := Lib.hid (Sx.below_text HQA.out HTL.out)
  have HD7 := Lib.hid (Sx.below_dump HFA.out H64.out HQA.out HTL.out)
  generalize Sx.flat L (L.length + 1) t 0 = F7 at hl7 HS7 HT7 HD7 ⊢
  generalize hm7 : F7.length = m7 at hl7 ⊢
  have HL7 := Lib.hid hl7
  clear hb7 hl7 hm7 HC5 HB6 x0 x1 g1 g2
  have hbs : Below w7.heap.size w7 (w7.alloc (treeO (.slice a7 m7 c7) 0)) := (Below.refl _ _).alloc (Nat.le_refl _) _
  have ts := World.alloc_heap_new w7 (treeO (.slice a7 m7 c7) 0)
  unfold treeO at hbs ts
  go_upto_region 6 with fail
  generalize w7.alloc (.cells #[.slice a7 m7 c7, .int .i64 0] 24) = w8 at hbs ts ⊢
  generalize w7.heap.size = sB at ts ⊢
  have HB8 := Lib.hid (HB7.out.trans (hbs.mono HB7.out.size))
  have HL8 := Lib.hid (HL7.out.keep hbs (Nat.le_refl _))
  have HTS := Lib.hid ts
  clear hbs ts HL7 HB7
  obtain ⟨x0, x1⟩ := HSX.out w8 HB8.out
  have HC6 := Lib.hid (Sub_any _ L root root w8 (HA2.out.keep HB8.out (Nat.le_refl _)) HSA.out)
  rw [(Sx.subs HQA.out HRL.out).1, (Sx.subs HQA.out HRL.out).2] at HC6
  go_wp2_with fail
  refine HC6.out.mono ?_
  rintro e w9 ⟨⟨v9, rfl, hl9⟩, hb9⟩
  obtain ⟨a9, c9, rfl⟩ := hl9.slice
  have HB9 := Lib.hid (HB8.out.trans (hb9.mono HB8.out.size))
  have HS9 := Lib.hid (Sx.below_sm HSA.out HQA.out HRL.out)
  have HW9 := Lib.hid (Sx.below_whole HQA.out)
  generalize Sx.flat L (L.length + 1) root 0 = F9 at hl9 HS9 HW9 ⊢
  generalize hm9 : F9.length = m9 at hl9 ⊢
  have HL9 := Lib.hid hl9
  have HL89 := Lib.hid (HL8.out.keep hb9 (Nat.le_refl _))
  have HTS9 := Lib.hid ((hb9.block sB (lt_of HTS.out)).trans HTS.out)
  clear hb9 hl9 hm9 HC6 HB8 x0 x1 HL8
  have hbs : Below w9.heap.size w9 (w9.alloc (treeO (.slice a9 m9 c9) 0)) := (Below.refl _ _).alloc (Nat.le_refl _) _
  have ts := World.alloc_heap_new w9 (treeO (.slice a9 m9 c9) 0)
  unfold treeO at hbs ts
  go_upto_region 7 with fail
  generalize w9.alloc (.cells #[.slice a9 m9 c9, .int .i64 0] 24) = w10 at hbs ts ⊢
  generalize w9.heap.size = wB at ts ⊢
  have HB10 := Lib.hid (HB9.out.trans (hbs.mono HB9.out.size))
  have HLS := Lib.hid (HL89.out.keep hbs (Nat.le_refl _))
  have HLW := Lib.hid (HL9.out.keep hbs (Nat.le_refl _))
  have HTS10 := Lib.hid ((hbs.block sB (lt_of HTS9.out)).trans HTS9.out)
  have HTW10 := Lib.hid ts
  have HSX2 : Hid (∀ X : World, Below w10.heap.size w10 X → (X.cell? ⟨A, 0, none⟩ = some (.slice ad n cap) ∧ X.cell? ⟨A, 1, none⟩ = some (.int .i64 root)) ∧ (X.cell? ⟨sB, 0, none⟩ = some (.slice a7 m7 c7) ∧ X.cell? ⟨sB, 1, none⟩ = some (.int .i64 0)) ∧ (X.cell? ⟨wB, 0, none⟩ = some (.slice a9 m9 c9) ∧ X.cell? ⟨wB, 1, none⟩ = some (.int .i64 0))) := Lib.hid (fun X hX => ⟨HSX.out X (HB10.out.trans (hX.mono HB10.out.size)), ⟨(hX.cell (p := ⟨sB, 0, none⟩) (lt_of HTS10.out)).trans (cell_at (i := 0) HTS10.out rfl), (hX.cell (p := ⟨sB, 1, none⟩) (lt_of HTS10.out)).trans (cell_at (i := 1) HTS10.out rfl)⟩, ⟨(hX.cell (p := ⟨wB, 0, none⟩) (lt_of HTW10.out)).trans (cell_at (i := 0) HTW10.out rfl), (hX.cell (p := ⟨wB, 1, none⟩) (lt_of HTW10.out)).trans (cell_at (i := 1) HTW10.out rfl)⟩⟩)
  clear hbs ts HL89 HL9 HTS HTS9 HB9
  -- the texts
  obtain ⟨⟨x0, x1⟩, ⟨y0, y1⟩, ⟨z0, z1⟩⟩ := HSX2.out w10 (Below.refl _ _)
  have HC7 := Lib.hid (Dump_any _ F7 0 w10 HLS.out HS7.out (tab_keep HTB.out HB10.out (Nat.le_refl _)))
  rw [HD7.out] at HC7
  obtain ⟨tx, htx⟩ : ∃ t', Sx.dumpF L (L.length + 1) t = t' := ⟨_, rfl⟩
  obtain ⟨ty, hty⟩ : ∃ t', Sx.text L root = t' := ⟨_, rfl⟩
  have hinf := HT7.out.2.2
  rw [htx, hty] at hinf
  rw [htx] at HC7
  have HTY := Lib.hid hty
  have HINF := Lib.hid hinf
  clear htx hty hinf
  go_wp2_with fail
  refine HC7.out.mono ?_
  rintro e w11 ⟨rfl, hb11⟩
  have HB11 := Lib.hid hb11
  clear hb11 HC7 x0 x1 y0 y1 z0 z1
  obtain ⟨⟨x0, x1⟩, ⟨y0, y1⟩, ⟨z0, z1⟩⟩ := HSX2.out w11 HB11.out
  have HC8 := Lib.hid (Dump_any _ L root w11 (HA2.out.keep (HB10.out.trans (HB11.out.mono HB10.out.size)) (Nat.le_refl _)) HSA.out (tab_keep HTB.out (HB10.out.trans (HB11.out.mono HB10.out.size)) (Nat.le_refl _)))
  rw [Sx.few_text HFA.out H64.out HQA.out, HTY.out] at HC8
  go_wp2_with fail
  refine HC8.out.mono ?_
  rintro e w12 ⟨rfl, hb12⟩
  have HB12 := Lib.hid (HB11.out.trans (hb12.mono HB11.out.size))
  clear hb12 HC8 HB11 x0 x1 y0 y1 z0 z1
  obtain ⟨⟨x0, x1⟩, ⟨y0, y1⟩, ⟨z0, z1⟩⟩ := HSX2.out w12 HB12.out
  have HC9 := Lib.hid (Check_any _ F7 0 w12 (HLS.out.keep HB12.out (Nat.le_refl _)) HS7.out)
  rw [HT7.out.1] at HC9
  go_wp2_with fail
  refine HC9.out.mono ?_
  rintro e w13 ⟨rfl, hb13⟩
  have HB13 := Lib.hid (HB12.out.trans (hb13.mono HB12.out.size))
  clear hb13 HC9 HB12 x0 x1 y0 y1 z0 z1
  obtain ⟨⟨x0, x1⟩, ⟨y0, y1⟩, ⟨z0, z1⟩⟩ := HSX2.out w13 HB13.out
  have HC10 := Lib.hid (Same_any _ _ F9 L 0 root w13 true (HLW.out.keep HB13.out (Nat.le_refl _)) (HA2.out.keep (HB10.out.trans (HB13.out.mono HB10.out.size)) (Nat.le_refl _)) HS9.out HSA.out HW9)
  go_wp2_with fail
  refine HC10.out.mono ?_
  rintro e w14 ⟨rfl, hb14⟩
  have HB14 := Lib.hid (HB13.out.trans (hb14.mono HB13.out.size))
  clear hb14 HC10 HB13 x0 x1 y0 y1 z0 z1
  obtain ⟨⟨x0, x1⟩, ⟨y0, y1⟩, ⟨z0, z1⟩⟩ := HSX2.out w14 HB14.out
  have HEND := Lib.hid (HB.out.trans ((HB10.out.trans (HB14.out.mono HB10.out.size)).mono HB.out.size))
  have hsz : tx.length ≤ ty.length ∧ ty.length ≤ 65536 := by
    obtain ⟨p1, p2, hp⟩ := HINF.out
    refine ⟨by rw [hp, List.length_append, List.length_append]; omega, ?_⟩
    have h := Sx.few_text HFA.out H64.out HQA.out
    have h2 : ¬ 65536 < (Sx.text L root).length := by
      intro hn
      unfold Sx.dumpR at h
      rw [if_neg (by rw [HQA.out]; simp), if_pos hn] at h
      cases h
    rw [HTY.out] at h2
    omega
  obtain ⟨SX, hSX⟩ : ∃ s : ByteArray, (⟨tx.toArray⟩ : ByteArray) = s := ⟨_, rfl⟩
  obtain ⟨SY, hSY⟩ : ∃ s : ByteArray, (⟨ty.toArray⟩ : ByteArray) = s := ⟨_, rfl⟩
  have hzx : SX.size = tx.length := by rw [← hSX]; rfl
  have hzy : SY.size = ty.length := by rw [← hSY]; rfl
  have hfind : ∃ P, P + SX.size ≤ SY.size ∧ (SY.extract P (P + SX.size)) = SX := by
    obtain ⟨p1, p2, hp⟩ := HINF.out
    refine ⟨p1.length, by rw [hzx, hzy, hp, List.length_append, List.length_append]; omega, ?_⟩
    rw [hzx, ← hSX, ← hSY, hp]
    exact ext_mid p1 tx p2
  obtain ⟨P, hP1, hP2⟩ := hfind
  rw [hSX, hSY]
  have HP := Lib.hid hP2
  have HZ : Hid (SX.size ≤ 65536 ∧ SY.size ≤ 65536) := Lib.hid ⟨by omega, by omega⟩
  clear hsz hSX hSY hzx hzy hP2
  go_upto_region 11 with fail
  clear x0 x1 y0 y1 z0 z1
  go_wp2_with fail
  go_loopw [13] (fun iv wr => ∃ (c : Nat), c ≤ P ∧ iv = .int .i64 c ∧ wr = w14) (fun iv _ => P + 1 - (intOf iv).toNat)
  case atStart => exact ⟨0, Nat.zero_le _, rfl, rfl⟩
  case round =>
    obtain ⟨c, hc, rfl, rfl⟩ := hrel
    have hz := HZ.out
    have g1 : ((c : Int) + SX.size) ≤ SY.size := by omega
    have g0 : (0 : Int) ≤ c := by omega
    have hw1 : wrap64 ((c : Int) + SX.size) = (c : Int) + SX.size := IntWalk.wrap64_in _ (by omega)
    have hw1' : IntKind.i64.wrap ((c : Int) + SX.size) = (c : Int) + SX.size := IntWalk.i64_in _ (by omega)
    clear hz
    go_upto_region 14 with fail
    have k1 : (c : Int) ≤ (c : Int) + SX.size := by omega
    have k2 : c ≤ c + SX.size := by omega
    have k3 : c + SX.size ≤ SY.size := by omega
    obtain ⟨q, hq⟩ : ∃ q, ((SY.extract c (c + SX.size)).toList == SX.toList) = q := ⟨_, rfl⟩
    have hno : q = false → c ≠ P := by
      rintro rfl rfl
      rw [HP.out] at hq
      simp at hq
    have HNO := Lib.hid hno
    clear hno
    cases q with
    | true =>
      go_wp2
      go_ret
      exact ⟨rfl, HEND.out⟩
    | false =>
      have hlt : c < P := by have := HNO.out rfl; omega
      have hz := HZ.out
      have hwi := wrap_one c (by omega)
      clear hz
      go_wp2
      refine ⟨⟨c + 1, by omega, ?_, trivial⟩, ?_⟩
      · first | (rw [hwi]; rfl) | rfl
      · first | rw [hwi] | skip
        show P + 1 - ((c : Int) + 1).toNat < P + 1 - (c : Int).toNat
        omega

end Go.Proofs.YtpeihgbkolihgaaDoor
