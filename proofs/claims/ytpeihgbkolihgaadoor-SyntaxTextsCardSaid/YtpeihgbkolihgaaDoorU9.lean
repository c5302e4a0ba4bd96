/- fitsCount and fitsNum. -/
import Derived.Test.YtpeihgbkolihgaaDoorU8
import Derived.Test.YtpeihgbkolihgaaDoorU3
set_option linter.unusedVariables false
set_option linter.unusedSimpArgs false
namespace Go.Proofs.YtpeihgbkolihgaaDoor
open Go.RowKit

/-- A leaf as a value. -/
def leafV (kind : Int) (text : ByteArray) (num : Int) (vk : Value) (frm to : Int) : Value := .agg #[.int .i64 kind, .string text, .int .i64 num, vk, .int .i64 frm, .int .i64 to]
def leafO (kind : Int) (text : ByteArray) (num : Int) (vk : Value) (frm to : Int) : Obj := .cells #[.int .i64 kind, .string text, .int .i64 num, vk, .int .i64 frm, .int .i64 to] 38
def treeO (v : Value) (root : Int) : Obj := .cells #[v, .int .i64 root] 24

namespace Sx
def leafOf (L : List LeafM) (k : Int) : LeafM := (L[k.toNat]?).getD default
def cntF (L : List LeafM) : List Int → Nat → Option Nat
  | [], c => some c
  | k :: ks, c => if (leafOf L k).kind ≠ 17 then cntF L ks (c + 1) else if (leafOf L k).kids.length ≠ c + 1 then none else cntF L ks c
def fitsCount (L : List LeafM) (kids : List Int) (num : Int) : Bool := match cntF L kids 0 with
  | none => false
  | some c => decide (num = (c : Int))
def inside (L : List LeafM) (kids : List Int) : Prop := ∀ k ∈ kids, 0 ≤ k ∧ k < (L.length : Int)
def fitsNum (wanted : Int) (L : List LeafM) (x : LeafM) : Bool :=
  if wanted = 1 then true else if wanted = 2 then decide (x.num = 0) || decide (x.num = 1) else if wanted = 3 then decide (0 ≤ x.num) && decide (x.num < 8) else if wanted = 4 then fitsCount L x.kids x.num else decide (x.num = 0)
end Sx

set_option maxRecDepth 100000 in
set_option maxHeartbeats 6400000 in
theorem fitsCount_any (v : Value) (L : List LeafM) (root : Int) (x : LeafM) (vk : Value) (r : Bool) (w : World) (hv : LsAt w v L) (hS : SmT L) (hk : IsAt w vk x.kids) (hkl : x.kids.length ≤ 100000) (hin : Sx.inside L x.kids) (hr : Hid (Sx.fitsCount L x.kids x.num = r)) :
    Calls Tryd.prog 70 #[.agg #[v, .int .i64 root], leafV x.kind x.text x.num vk x.frm x.to] w fun e w' => e = .returned (.bool r) ∧ Below w.heap.size w w' := by
  obtain ⟨ad, cap, rfl⟩ := hv.slice
  obtain ⟨fa, fc, rfl⟩ := hk.slice
  obtain ⟨n, hn⟩ : ∃ n, L.length = n := ⟨_, rfl⟩
  obtain ⟨ks, hks⟩ : ∃ ks, x.kids = ks := ⟨_, rfl⟩
  rw [hks] at hk hkl hin ⊢
  have hr2 := hr.out
  rw [hks] at hr2
  unfold Sx.fitsCount at hr2
  obtain ⟨O, hO⟩ : ∃ O, Sx.cntF L ks 0 = O := ⟨_, rfl⟩
  rw [hO] at hr2
  obtain ⟨m, hm⟩ : ∃ m, ks.length = m := ⟨_, rfl⟩
  rw [hm] at hk hkl ⊢
  rw [hn] at hv ⊢
  obtain ⟨W2, hW2⟩ : ∃ W2, (w.alloc (treeO (.slice ad n cap) root)).alloc (leafO x.kind x.text x.num (.slice fa m fc) x.frm x.to) = W2 := ⟨_, rfl⟩
  have hA : Below w.heap.size w W2 := by rw [← hW2]; exact ((Below.refl _ _).alloc (Nat.le_refl _) _).alloc (by simp) _
  have t0 : W2.heap[w.heap.size]? = some (treeO (.slice ad n cap) root) := by rw [← hW2]; exact (Below.heap_alloc _ _ _ (by simp)).trans (World.alloc_heap_new w _)
  have l0 : W2.heap[w.heap.size + 1]? = some (leafO x.kind x.text x.num (.slice fa m fc) x.frm x.to) := by
    have h := World.alloc_heap_new (w.alloc (treeO (.slice ad n cap) root)) (leafO x.kind x.text x.num (.slice fa m fc) x.frm x.to)
    rw [← hW2]
    simpa using h
  have T0 := Lib.hid (cell_at (i := 0) t0 rfl)
  have B0 := Lib.hid (lt_of t0)
  have N0 := cell_at (i := 2) l0 rfl
  have K0 := cell_at (i := 3) l0 rfl
  have B1 := Lib.hid (lt_of l0)
  have N0H := Lib.hid N0
  have HV := Lib.hid (hv.keep hA (Nat.le_refl _))
  have HK := Lib.hid (hk.keep hA (Nat.le_refl _))
  have HA := Lib.hid hA
  have HO := Lib.hid hO
  have HR := Lib.hid hr2
  have HIN := Lib.hid hin
  have HS := Lib.hid hS
  have HM := Lib.hid hm
  have HN := Lib.hid hn
  unfold treeO leafO at hW2
  clear hv hk hA hO hr2 hin hm hr hks t0 l0 hS hn
  unfold leafV
  go_enter Tryd.func70, Tryd.ntmps70
  go_wp2
  clear N0 K0
  go_loopw [5, 12] (fun sv iv wr => ∃ (c q : Nat), c ≤ m ∧ sv = .int .i64 q ∧ q ≤ c ∧ iv = .int .i64 c ∧ Hid (Sx.cntF L (ks.drop c) q = O) ∧ Hid (Below W2.heap.size W2 wr)) (fun _ iv _ => m - (intOf iv).toNat)
  case atStart => exact ⟨0, 0, Nat.zero_le _, rfl, Nat.zero_le _, rfl, Lib.hid (by rw [List.drop_zero]; exact HO.out), Lib.hid (Below.refl _ _)⟩
  case round =>
    obtain ⟨c, q, hc, rfl, hqc, rfl, HC, HB⟩ := hrel
    by_cases hlt : c < m
    · have hcl : c < ks.length := by rw [HM.out]; exact hlt
      obtain ⟨bk, ok, rfl, hbk, hck⟩ := HK.out.at c hcl
      have hkc := (HB.out.cell (p := ⟨bk, ok + c, none⟩) hbk).trans hck
      have hdr := HC.out
      rw [List.drop_eq_getElem_cons hcl, Sx.cntF] at hdr
      have hi := HIN.out ks[c] (List.getElem_mem _)
      obtain ⟨i, hi'⟩ := Int.eq_ofNat_of_zero_le hi.1
      rw [hi'] at hkc hdr hi
      have hil : i < L.length := by omega
      have hlo : Sx.leafOf L (i : Int) = L[i] := by unfold Sx.leafOf; rw [Int.toNat_natCast, List.getElem?_eq_getElem hil]; rfl
      rw [hlo] at hdr
      obtain ⟨b, off, fa, fc', rfl, hbl, ⟨e0, e1, e2, e3, e4, e5⟩, hks⟩ := HV.out.at i hil
      obtain ⟨y, hy⟩ : ∃ y, L[i] = y := ⟨_, rfl⟩
      rw [hy] at hdr e0 e1 e2 e3 e4 e5
      have f0 := (HB.out.cell (p := ⟨b, off + i * 6, none⟩) hbl).trans e0
      have f1 := (HB.out.cell (p := ⟨b, off + i * 6 + 1, none⟩) hbl).trans e1
      have f2 := (HB.out.cell (p := ⟨b, off + i * 6 + 2, none⟩) hbl).trans e2
      have f3 := (HB.out.cell (p := ⟨b, off + i * 6 + 3, none⟩) hbl).trans e3
      have f4 := (HB.out.cell (p := ⟨b, off + i * 6 + 4, none⟩) hbl).trans e4
      have f5 := (HB.out.cell (p := ⟨b, off + i * 6 + 5, none⟩) hbl).trans e5
      have t0 := (HB.out.cell (p := ⟨w.heap.size, 0, none⟩) B0.out).trans T0.out
      have h1 : (0 : Int) ≤ c := by omega
      have h2 : (c : Int) < m := by omega
      have h3 : (0 : Int) ≤ i := by omega
      have h4 : (i : Int) < n := by have := HN.out; omega
      have hyl : y.kids.length ≤ 100000 := by rw [← hy]; exact (HS.out.2 _ (List.getElem_mem _)).2.1
      have HBN : Hid (∀ o, Below W2.heap.size W2 (wr.alloc o)) := Lib.hid (fun o => HB.out.alloc HB.out.size o)
      by_cases hkd : y.kind = 17
      · rw [if_neg (fun h => h hkd)] at hdr
        by_cases hq : y.kids.length = q + 1
        · rw [if_neg (fun h => h hq)] at hdr
          have HD := Lib.hid hdr
          rw [hkd] at f0
          rw [hq] at f3
          clear hdr e0 e1 e2 e3 e4 e5 hks hck hkd hi' hi hlo hy hq hil hcl hyl hbk hbl HC
          go_wp2
          go_roundw
          case rel => exact ⟨c + 1, q, by omega, rfl, by omega, by go_num, HD, Lib.hid (HBN.out _)⟩
          case measure => simp [intOf]; omega
        · rw [if_pos hq] at hdr
          have hrf : r = false := by rw [← HR.out, ← hdr]
          subst hrf
          obtain ⟨u, hu⟩ : ∃ u, y.kids.length = u := ⟨_, rfl⟩
          rw [hkd] at f0
          rw [hu] at f3 hq hyl
          have g1 : ((u : Int) != (q : Int) + 1) = true := by simp; omega
          clear hdr e0 e1 e2 e3 e4 e5 hks hck hkd hi' hi hlo hy hil hcl hbk hbl HC hu
          go_wp2
          go_ret
          exact ⟨rfl, HA.out.trans ((HBN.out _).mono HA.out.size)⟩
      · rw [if_pos hkd] at hdr
        have HD := Lib.hid hdr
        obtain ⟨kd, hkd'⟩ : ∃ kd, y.kind = kd := ⟨_, rfl⟩
        rw [hkd'] at f0 hkd
        have g1 : (kd != 17) = true := by simpa using hkd
        clear hdr e0 e1 e2 e3 e4 e5 hks hck hi' hi hlo hy hil hcl hbk hbl HC hkd'
        go_wp2
        go_roundw
        case rel => exact ⟨c + 1, q + 1, by omega, by go_num, by omega, by go_num, HD, Lib.hid (HBN.out _)⟩
        case measure => simp [intOf]; omega
    · obtain rfl : m = c := by omega
      have hnn : ¬ (m : Int) < m := by omega
      have hdr := HC.out
      rw [List.drop_eq_nil_of_le (by rw [HM.out]; exact Nat.le_refl _), Sx.cntF] at hdr
      have hre := HR.out
      rw [← hdr] at hre
      have HRE : Hid (decide (x.num = (q : Int)) = r) := Lib.hid hre
      have N0 : wr.cell? ⟨w.heap.size + 1, 2, none⟩ = some (.int .i64 x.num) := (HB.out.cell (p := ⟨w.heap.size + 1, 2, none⟩) B1.out).trans N0H.out
      clear hdr hre
      go_wp2
      go_ret
      exact ⟨by rw [← HRE.out] <;> rfl, HA.out.trans (HB.out.mono HA.out.size)⟩

end Go.Proofs.YtpeihgbkolihgaaDoor
