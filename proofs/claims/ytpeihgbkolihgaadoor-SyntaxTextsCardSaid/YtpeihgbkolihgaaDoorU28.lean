/- What Dump does. -/
import Derived.Test.YtpeihgbkolihgaaDoorU27a
import Derived.Test.YtpeihgbkolihgaaDoorU27b
import Derived.Test.YtpeihgbkolihgaaDoorU27c
import Derived.Test.YtpeihgbkolihgaaDoorU27d
import Derived.Shelf.Strings.Builder1
set_option linter.unusedVariables false
set_option linter.unusedSimpArgs false
namespace Go.Proofs.YtpeihgbkolihgaaDoor
open Go.RowKit

theorem dump_ok (G T F A n cap : Nat) (ad : Option Addr) (w0 : World) (hG : w0.heap.size = G) (hT : T ≠ G) (hF : F ≠ G) (hA : A < G) (root : Int) (L : List LeafM) (ht : w0.heap[A]? = some (treeO (.slice ad n cap) root)) (hL : LsAt w0 (.slice ad n cap) L) (hS : SmT L) (hn : L.length = n) (hfo : Sx.forms L = true) (htab : Tab w0) :
    ∀ k, DpOk G T F A w0 L k
  | 0 => fun t bs W fa fc h _ _ _ => h.elim
  | k + 1 => fun t bs W fa fc h hlen hm hk => by
    have ih := dump_ok G T F A n cap ad w0 hG hT hF hA root L ht hL hS hn hfo htab k
    by_cases htx : (Sx.leafOf L t).text.size = 0
    · by_cases hnu : (Sx.form (Sx.leafOf L t).kind.toNat).num = 0
      · exact dump_d G T F A n cap ad w0 hG hT hF hA root L ht hL hS hn hfo htab k ih t bs W fa fc h hlen hm hk htx hnu
      · exact dump_c G T F A n cap ad w0 hG hT hF hA root L ht hL hS hn hfo htab k ih t bs W fa fc h hlen hm hk htx hnu
    · by_cases hnu : (Sx.form (Sx.leafOf L t).kind.toNat).num = 0
      · exact dump_b G T F A n cap ad w0 hG hT hF hA root L ht hL hS hn hfo htab k ih t bs W fa fc h hlen hm hk htx hnu
      · exact dump_a G T F A n cap ad w0 hG hT hF hA root L ht hL hS hn hfo htab k ih t bs W fa fc h hlen hm hk htx hnu

theorem len_any (G : Nat) (bs : List UInt8) (w : World) (h : Bd G bs w) :
    Calls Tryd.prog 38 #[.pointer (some ⟨G, 0, none⟩)] w fun e w' => e = .returned (.int .i64 (bs.length : Nat)) ∧ w' = w := by
  obtain ⟨p, h⟩ : ∃ p, Lib.BuilderAt 63 5 G G p (Lib.byteCells bs) w := by
    rcases h with h | h
    · exact ⟨_, h⟩
    · exact ⟨_, h⟩
  obtain ⟨hB, v, hbk, hown, hne⟩ := h
  have c1 : w.cell? ⟨G, 1, none⟩ = some v := by rw [Lib.cell_of_heap hbk]; rfl
  rw [Lib.byteCells_length] at hown
  obtain ⟨ad, cap, rfl⟩ : ∃ ad cap, v = .slice ad bs.length cap := by
    rcases hown.2 with ⟨h, h0⟩ | ⟨g, cap, cur, h, _⟩
    · exact ⟨none, 0, by rw [h, h0]⟩
    · exact ⟨_, cap, h⟩
  clear hown hbk hne
  go_enter Tryd.func38, Tryd.ntmps38
  go_wp2
  go_ret
  exact ⟨rfl, rfl⟩

namespace Sx
/-- What Dump answers. -/
def text (L : List LeafM) (root : Int) : List UInt8 := dumpF L (L.length + 1) root
def dumpR (L : List LeafM) (root : Int) : List UInt8 × Int :=
  if check L root ≠ 0 then ([], check L root) else if 65536 < (text L root).length then ([], 5) else (text L root, 0)
end Sx

set_option maxRecDepth 100000 in
set_option maxHeartbeats 6400000 in
theorem Dump_any (v : Value) (L : List LeafM) (root : Int) (w : World) (hv : LsAt w v L) (hS : SmT L) (htab : Tab w) :
    Calls Tryd.prog 19 #[.agg #[v, .int .i64 root]] w fun e w' => e = .returned (.tuple #[.string ⟨(Sx.dumpR L root).1.toArray⟩, .int .i64 (Sx.dumpR L root).2]) ∧ Below w.heap.size w w' := by
  obtain ⟨c, hc⟩ : ∃ c, Sx.check L root = c := ⟨_, rfl⟩
  have hrr : Sx.dumpR L root = if c ≠ 0 then ([], c) else if 65536 < (Sx.text L root).length then ([], 5) else (Sx.text L root, 0) := by unfold Sx.dumpR; rw [hc]
  obtain ⟨R, hR⟩ : ∃ R, Sx.dumpR L root = R := ⟨_, rfl⟩
  rw [hR]
  rw [hR] at hrr
  have HR := Lib.hid hrr
  clear hrr hR
  obtain ⟨ad, cap, rfl⟩ := hv.slice
  obtain ⟨n, hn⟩ : ∃ n, L.length = n := ⟨_, rfl⟩
  rw [hn] at hv ⊢
  have hA : Below w.heap.size w (w.alloc (treeO (.slice ad n cap) root)) := (Below.refl _ _).alloc (Nat.le_refl _) _
  have t0 := World.alloc_heap_new w (treeO (.slice ad n cap) root)
  have hv1 := hv.keep hA (Nat.le_refl _)
  have hT1 := tab_keep htab hA (Nat.le_refl _)
  have HCK := Lib.hid (Check_any (.slice ad n cap) L root _ hv1 hS)
  rw [hc] at HCK
  unfold treeO at hA t0 hv1 hT1 HCK
  go_enter Tryd.func19, Tryd.ntmps19
  go_upto_region 1 with fail
  generalize w.alloc (.cells #[.slice ad n cap, .int .i64 root] 24) = W1 at hA t0 hv1 hT1 HCK ⊢
  obtain ⟨A, hAe⟩ : ∃ A, w.heap.size = A := ⟨_, rfl⟩
  rw [hAe] at t0 ⊢
  have HA := Lib.hid hA
  have HT0 := Lib.hid t0
  have HV := Lib.hid hv1
  have HTB := Lib.hid hT1
  have HS := Lib.hid hS
  have HN := Lib.hid hn
  have HC := Lib.hid hc
  have HLTA := Lib.hid (lt_of t0)
  have c0 := cell_at (i := 0) t0 rfl
  have c1 := cell_at (i := 1) t0 rfl
  clear hA t0 hv1 hT1 hS hn hc hv htab hAe
  go_wp2_with fail
  refine HCK.out.mono ?_
  rintro e w2 ⟨rfl, hb⟩
  clear c0 c1
  have HB2 := Lib.hid (HA.out.trans (hb.mono HA.out.size))
  by_cases hc0 : c = 0
  rotate_left
  · have hc1 : (c == 0) = false := by simpa using hc0
    have hr := HR.out
    rw [if_pos hc0] at hr
    clear hb hc0
    go_wp2
    go_ret2
    rw [hr]
    exact ⟨rfl, HB2.out⟩
  subst hc0
  have hr := HR.out
  rw [if_neg (by simp)] at hr
  have HR2 := Lib.hid hr
  clear hr HR
  have hok := Sx.check_ok HC.out
  have HOK := Lib.hid hok
  have t2 := (hb.block A HLTA.out).trans HT0.out
  have HV2 := Lib.hid (HV.out.keep hb (Nat.le_refl _))
  have HTB2 := Lib.hid (tab_keep HTB.out hb (Nat.le_refl _))
  have HT2 := Lib.hid t2
  have HA2 := Lib.hid (lt_of t2)
  clear hb hok t2
  go_upto_region 5 with fail
  have hbn := Lib.fresh_isBuilder 63 5 w2
  have hB3 : Below w2.heap.size w2 (w2.alloc (.cells #[.pointer none, .slice none 0 0] 63)) := (Below.refl _ _).alloc (Nat.le_refl _) _
  generalize w2.alloc (.cells #[.pointer none, .slice none 0 0] 63) = W3 at hbn hB3 ⊢
  obtain ⟨G, hG⟩ : ∃ G, w2.heap.size = G := ⟨_, rfl⟩
  rw [hG] at hbn hB3 ⊢
  have HBN := Lib.hid (show Bd G [] W3 from hbn)
  have HB3 := Lib.hid hB3
  have HG := Lib.hid (And.intro trivial hG)
  clear hbn hB3 hG
  have HF := Lib.hid (forms_any W3)
  go_wp2_with fail
  refine HF.out.mono ?_
  rintro e w4 ⟨rfl, hb⟩
  have HB4 := Lib.hid (HB3.out.trans (hb.mono (Nat.le_trans (Nat.le_of_eq HG.out.2.symm) HB3.out.size)))
  have HBN4 := Lib.hid (bd_keep HBN.out hb)
  clear hb HF HB3 HBN
  have hst := run_storeCells_new (P := Tryd.prog) w4 69 Tryd.zeroCells69 Sx.formTab infoForms zeroForms formTab_one
  have HST := Lib.hid hst
  clear hst
  go_wp2_with fail
  rw [HST.out]
  simp only [Result.andThen]
  rw [Oper.upon_skip]
  have tb := World.alloc_heap_new w4 (.cells Sx.formTab 69)
  have hB5 : Below w4.heap.size w4 (w4.alloc (.cells Sx.formTab 69)) := (Below.refl _ _).alloc (Nat.le_refl _) _
  generalize w4.alloc (.cells Sx.formTab 69) = W5 at tb hB5 ⊢
  have hgt : w4.heap.size ≠ G := by have := bd_lt HBN4.out; omega
  obtain ⟨T, hT⟩ : ∃ T, w4.heap.size = T := ⟨_, rfl⟩
  rw [hT] at tb hgt ⊢
  have HBN5 := Lib.hid (bd_keep HBN4.out hB5)
  have HB5 := Lib.hid (HB4.out.trans (hB5.mono (Nat.le_trans (Nat.le_of_eq HG.out.2.symm) HB4.out.size)))
  have HTB5 := Lib.hid tb
  have HTG := Lib.hid (And.intro hgt trivial)
  clear HB4 HBN4 tb hgt hB5 hT HST
  go_upto_region 7 with fail
  go_upto_region 8 with fail
  have fn6 := World.alloc_heap_new W5 (dmFn G T W5.heap.size A)
  have hB6 : Below W5.heap.size W5 (W5.alloc (dmFn G T W5.heap.size A)) := (Below.refl _ _).alloc (Nat.le_refl _) _
  have hFG : W5.heap.size ≠ G := by have := bd_lt HBN5.out; omega
  unfold dmFn dmCaps at fn6 hB6
  generalize W5.alloc (.cells #[.func (.func 34) #[] #[.pointer (some ⟨T, 0, none⟩), .pointer (some ⟨G, 0, none⟩), .pointer (some ⟨W5.heap.size, 0, none⟩), .pointer (some ⟨A, 0, none⟩)]] 71) = W6 at fn6 hB6 ⊢
  have hbn6 := bd_keep HBN5.out hB6
  have hB06 := HB5.out.trans (hB6.mono (Nat.le_trans (Nat.le_of_eq HG.out.2.symm) HB5.out.size))
  have htb6 := (hB6.block T (lt_of HTB5.out)).trans HTB5.out
  obtain ⟨F, hF⟩ : ∃ F, W5.heap.size = F := ⟨_, rfl⟩
  rw [hF] at fn6 hFG ⊢
  have hm6 : DmM G T F A w2 [] W6 := ⟨hbn6, by rw [← HG.out.2]; rw [← HG.out.2] at hB06; exact hB06, htb6, fn6⟩
  have hlr := (Sx.isLeaf_iff L root).1 HOK.out.hh.1
  obtain ⟨i, rfl⟩ := Int.eq_ofNat_of_zero_le hlr.1
  have hi : i < L.length := by omega
  have hleaf : Sx.leafOf L (i : Int) = L[i] := by unfold Sx.leafOf; rw [Int.toNat_natCast, List.getElem?_eq_getElem hi]; rfl
  obtain ⟨b, off, xa, xc, rfl, hbl, ⟨e0, e1, e2, e3, e4, e5⟩, hks⟩ := HV2.out.at i hi
  rw [← hleaf] at e0 e1 e2 e3 e4 e5 hks
  have hAG : A < G := by rw [← HG.out.2]; exact HA2.out
  have hbG : b < G := by rw [← HG.out.2]; exact hbl
  have hlen : ([] : List UInt8).length + (Sx.dumpF L (L.length + 1) (i : Int)).length ≤ 140737488355328 := by
    have h1 := Sx.dump_len HS.out.2 HOK.out.hh
    have h2 := HOK.out.all
    have h3 := HOK.out.many
    rw [h2] at h1
    have h4 : 100042 * L.length ≤ 100042 * 4096 := Nat.mul_le_mul_left _ h3
    simp only [List.length_nil]
    omega
  have hcall := dump_ok G T F A n cap (some ⟨b, off, none⟩) w2 HG.out.2 HTG.out.1 hFG hAG (i : Int) L HT2.out HV2.out HS.out HN.out HOK.out.forms HTB2.out (L.length + 1) (i : Int) [] W6.drew xa xc HOK.out.hh hlen (hm6.keep ((Below.refl _ _).drew)) hks
  unfold leafV at hcall
  have HCALL := Lib.hid hcall
  have HSX : Hid (∀ X : World, Below G w2 X → X.heap[F]? = some (dmFn G T F A) → X.cell? ⟨A, 0, none⟩ = some (.slice (some ⟨b, off, none⟩) n cap) ∧ X.cell? ⟨A, 1, none⟩ = some (.int .i64 (i : Int)) ∧ X.cell? ⟨F, 0, none⟩ = some (.func (.func 34) #[] #[.pointer (some ⟨T, 0, none⟩), .pointer (some ⟨G, 0, none⟩), .pointer (some ⟨F, 0, none⟩), .pointer (some ⟨A, 0, none⟩)]) ∧ X.cell? ⟨b, off + i * 6, none⟩ = some (.int .i64 (Sx.leafOf L (i : Int)).kind) ∧ X.cell? ⟨b, off + i * 6 + 1, none⟩ = some (.string (Sx.leafOf L (i : Int)).text) ∧ X.cell? ⟨b, off + i * 6 + 2, none⟩ = some (.int .i64 (Sx.leafOf L (i : Int)).num) ∧ X.cell? ⟨b, off + i * 6 + 3, none⟩ = some (.slice xa (Sx.leafOf L (i : Int)).kids.length xc) ∧ X.cell? ⟨b, off + i * 6 + 4, none⟩ = some (.int .i64 (Sx.leafOf L (i : Int)).frm) ∧ X.cell? ⟨b, off + i * 6 + 5, none⟩ = some (.int .i64 (Sx.leafOf L (i : Int)).to)) :=
    Lib.hid (fun X hB hf => ⟨(hB.cell (p := ⟨A, 0, none⟩) (by exact hAG)).trans (cell_at (i := 0) HT2.out rfl), (hB.cell (p := ⟨A, 1, none⟩) (by exact hAG)).trans (cell_at (i := 1) HT2.out rfl), cell_at (i := 0) hf rfl, (hB.cell (p := ⟨b, off + i * 6, none⟩) (by exact hbG)).trans e0, (hB.cell (p := ⟨b, off + i * 6 + 1, none⟩) (by exact hbG)).trans e1, (hB.cell (p := ⟨b, off + i * 6 + 2, none⟩) (by exact hbG)).trans e2, (hB.cell (p := ⟨b, off + i * 6 + 3, none⟩) (by exact hbG)).trans e3, (hB.cell (p := ⟨b, off + i * 6 + 4, none⟩) (by exact hbG)).trans e4, (hB.cell (p := ⟨b, off + i * 6 + 5, none⟩) (by exact hbG)).trans e5⟩)
  generalize (Sx.leafOf L (i : Int)).kind = xk at HSX HCALL
  generalize (Sx.leafOf L (i : Int)).text = xt at HSX HCALL
  generalize (Sx.leafOf L (i : Int)).num = xn at HSX HCALL
  generalize (Sx.leafOf L (i : Int)).kids.length = xm at HSX HCALL
  generalize (Sx.leafOf L (i : Int)).frm = xf at HSX HCALL
  generalize (Sx.leafOf L (i : Int)).to = xo at HSX HCALL
  have HM6 := Lib.hid hm6
  have g3 : (0 : Int) ≤ i := by omega
  have g4 : (i : Int) < n := by rw [← HN.out]; omega
  have HS7 := Lib.hid (HSX.out W6.drew (below_drew hm6.below) hm6.fn)
  have HB02 := Lib.hid (show ∀ X, Below G w2 X → Below w.heap.size w X from fun X hX => HB2.out.trans (hX.mono (by rw [← HG.out.2]; exact HB2.out.size)))
  clear hm6 hcall e0 e1 e2 e3 e4 e5 hks hleaf hlr hi hbl hlen hB06 hbn6 htb6 hB6 fn6 hF hFG hAG hbG
  refine region_plainX (S := fun X => X.cell? ⟨A, 0, none⟩ = some (.slice (some ⟨b, off, none⟩) n cap) ∧ X.cell? ⟨A, 1, none⟩ = some (.int .i64 (i : Int)) ∧ X.cell? ⟨F, 0, none⟩ = some (.func (.func 34) #[] #[.pointer (some ⟨T, 0, none⟩), .pointer (some ⟨G, 0, none⟩), .pointer (some ⟨F, 0, none⟩), .pointer (some ⟨A, 0, none⟩)]) ∧ X.cell? ⟨b, off + i * 6, none⟩ = some (.int .i64 xk) ∧ X.cell? ⟨b, off + i * 6 + 1, none⟩ = some (.string xt) ∧ X.cell? ⟨b, off + i * 6 + 2, none⟩ = some (.int .i64 xn) ∧ X.cell? ⟨b, off + i * 6 + 3, none⟩ = some (.slice xa xm xc) ∧ X.cell? ⟨b, off + i * 6 + 4, none⟩ = some (.int .i64 xf) ∧ X.cell? ⟨b, off + i * 6 + 5, none⟩ = some (.int .i64 xo)) (m := 8) (by kernel_rfl) ?_
  refine x_take0 (i := 0) (v := (.func (.func 34) #[] #[.pointer (some ⟨T, 0, none⟩), .pointer (some ⟨G, 0, none⟩), .pointer (some ⟨F, 0, none⟩), .pointer (some ⟨A, 0, none⟩)])) rfl rfl (by kernel_rfl) (by kernel_rfl) (by kernel_rfl) (fun _ _ _ h => h) (.inl ⟨by rfl, ?_⟩) HS7.out ?_
  · intro X hX; (try dsimp only at hX); obtain ⟨u1, u2, u3, u4, u5, u6, u7, u8, u9⟩ := hX; go_simp
  simp only [List.getElem_toArray, List.getElem_cons_succ, List.getElem_cons_zero, Act.put, List.setIfInBounds_toArray, List.set_cons_zero, List.set_cons_succ]
  refine x_take0 (i := 1) (v := .pointer (some ⟨A, 0, none⟩)) rfl rfl (by kernel_rfl) (by kernel_rfl) (by kernel_rfl) (fun _ _ _ h => h) (.inl ⟨by rfl, ?_⟩) HS7.out ?_
  · intro X hX; (try dsimp only at hX); obtain ⟨u1, u2, u3, u4, u5, u6, u7, u8, u9⟩ := hX; go_simp
  simp only [List.getElem_toArray, List.getElem_cons_succ, List.getElem_cons_zero, Act.put, List.setIfInBounds_toArray, List.set_cons_zero, List.set_cons_succ]
  refine x_take0 (i := 2) (v := (.slice (some ⟨b, off, none⟩) n cap)) rfl rfl (by kernel_rfl) (by kernel_rfl) (by kernel_rfl) (fun _ _ _ h => h) (.inl ⟨by rfl, ?_⟩) HS7.out ?_
  · intro X hX; (try dsimp only at hX); obtain ⟨u1, u2, u3, u4, u5, u6, u7, u8, u9⟩ := hX; go_simp
  simp only [List.getElem_toArray, List.getElem_cons_succ, List.getElem_cons_zero, Act.put, List.setIfInBounds_toArray, List.set_cons_zero, List.set_cons_succ]
  refine x_take0 (i := 3) (v := (.pointer (some ⟨A, 1, none⟩))) rfl rfl (by kernel_rfl) (by kernel_rfl) (by kernel_rfl) (fun _ _ _ h => h) (.inl ⟨by rfl, ?_⟩) HS7.out ?_
  · intro X hX; (try dsimp only at hX); obtain ⟨u1, u2, u3, u4, u5, u6, u7, u8, u9⟩ := hX; go_simp
  simp only [List.getElem_toArray, List.getElem_cons_succ, List.getElem_cons_zero, Act.put, List.setIfInBounds_toArray, List.set_cons_zero, List.set_cons_succ]
  refine x_take0 (i := 4) (v := (.int .i64 (i : Int))) rfl rfl (by kernel_rfl) (by kernel_rfl) (by kernel_rfl) (fun _ _ _ h => h) (.inl ⟨by rfl, ?_⟩) HS7.out ?_
  · intro X hX; (try dsimp only at hX); obtain ⟨u1, u2, u3, u4, u5, u6, u7, u8, u9⟩ := hX; go_simp
  simp only [List.getElem_toArray, List.getElem_cons_succ, List.getElem_cons_zero, Act.put, List.setIfInBounds_toArray, List.set_cons_zero, List.set_cons_succ]
  refine x_take0 (i := 5) (v := (.pointer (some ⟨b, off + i * 6, none⟩))) rfl rfl (by kernel_rfl) (by kernel_rfl) (by kernel_rfl) (fun _ _ _ h => h) (.inl ⟨by rfl, ?_⟩) HS7.out ?_
  · intro X hX; (try dsimp only at hX); obtain ⟨u1, u2, u3, u4, u5, u6, u7, u8, u9⟩ := hX; go_simp
  simp only [List.getElem_toArray, List.getElem_cons_succ, List.getElem_cons_zero, Act.put, List.setIfInBounds_toArray, List.set_cons_zero, List.set_cons_succ]
  refine x_take0 (i := 6) (v := (.agg #[.int .i64 xk, .string xt, .int .i64 xn, .slice xa xm xc, .int .i64 xf, .int .i64 xo])) rfl rfl (by kernel_rfl) (by kernel_rfl) (by kernel_rfl) (fun _ _ _ h => h) (.inl ⟨by rfl, ?_⟩) HS7.out ?_
  · intro X hX; (try dsimp only at hX); obtain ⟨u1, u2, u3, u4, u5, u6, u7, u8, u9⟩ := hX; go_simp
  simp only [List.getElem_toArray, List.getElem_cons_succ, List.getElem_cons_zero, Act.put, List.setIfInBounds_toArray, List.set_cons_zero, List.set_cons_succ]
  refine x_one (i := 7) (by kernel_rfl) rfl (fun K' hK' => ?_)
  go_simp
  refine HCALL.out.mono ?_
  rintro e w8 ⟨rfl, hm8⟩
  have HM8 := Lib.hid hm8
  dsimp only
  refine hK'.out _ _ (fun _ => HSX.out _ hm8.below hm8.fn) ?_
  clear hK' K' hm8
  refine x_done (by kernel_rfl) ?_ _
  have hr := HR2.out
  obtain ⟨tx, htx⟩ : ∃ tx, Sx.text L (i : Int) = tx := ⟨_, rfl⟩
  have htx2 : ([] : List UInt8) ++ Sx.dumpF L (L.length + 1) (i : Int) = tx := htx
  rw [htx] at hr
  have hM8 := HM8.out
  rw [htx2] at hM8
  clear HM8 HR2
  have HM8 := Lib.hid hM8
  have HR3 := Lib.hid hr
  clear hM8 hr htx htx2
  go_wp2_with fail
  refine (len_any G tx w8 HM8.out.bld).mono ?_
  rintro e w9 ⟨rfl, h⟩
  rw [h]
  clear h w9
  by_cases hbig : 65536 < tx.length
  · have g5 : (65536 : Int) < tx.length := by omega
    have hr := HR3.out
    rw [if_pos hbig] at hr
    clear hbig
    go_wp2
    go_ret2
    rw [hr]
    exact ⟨rfl, HB02.out _ HM8.out.below⟩
  · have g5 : ¬ (65536 : Int) < tx.length := by omega
    have hr := HR3.out
    rw [if_neg hbig] at hr
    have HR4 := Lib.hid hr
    clear hbig hr
    go_wp2_with fail
    refine (Tryd.Builder_String_any G G tx w8 HM8.out.bld (Nat.le_of_lt (bd_lt HM8.out.bld))).mono ?_
    rintro e w9 ⟨rfl, hb9⟩
    have HB9 := Lib.hid hb9
    clear hb9
    go_wp2
    go_ret2
    rw [HR4.out]
    exact ⟨rfl, HB02.out _ (HM8.out.below.trans HB9.out)⟩

end Go.Proofs.YtpeihgbkolihgaaDoor
