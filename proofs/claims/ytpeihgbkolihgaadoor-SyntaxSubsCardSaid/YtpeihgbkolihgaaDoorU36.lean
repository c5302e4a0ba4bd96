/- What below does. -/
import Derived.Test.YtpeihgbkolihgaaDoorU35
import Derived.Laws.Rows
set_option linter.unusedVariables false
set_option linter.unusedSimpArgs false
namespace Go.Proofs.YtpeihgbkolihgaaDoor
open Go.RowKit

theorem infoTree : (Tryd.prog.info? 24).map (·.size) = some (#[Value.slice none 0 0, Value.int .i64 0] : Array Value).size := by kernel_rfl

/-- It reads as before where older blocks alone are written. -/
theorem RowL.ls_far {B X S : Nat} {W W' : World} {v : Value} {P : List Ent} (h : RowL B X W v P) (hB : S ≤ B) (hf : Fresh S P) (hs : W.heap.size ≤ W'.heap.size) (hk : ∀ j, S ≤ j → W'.heap[j]? = W.heap[j]?) : LsAt W' v (P.map (·.1)) :=
  RowL.ls (B := B) (X := X) ⟨own_same h.own fun g hg => hk g (Nat.le_trans hB (h.lt g hg).1), h.ne, fun p hp => ⟨(h.kids p hp).1.blocks hs fun ad n cap e hn _ => hk _ (hf p hp ad n cap e hn), (h.kids p hp).2⟩⟩

set_option maxRecDepth 100000 in
set_option maxHeartbeats 6400000 in
theorem below_any (v : Value) (L : List LeafM) (root t : Int) (w : World) (k : Nat) (hv : LsAt w v L) (hS : SmT L) (hh : Sx.Hh L k t) (hz : Sx.sizeF L k t ≤ 100000) :
    Calls Tryd.prog 23 #[.agg #[v, .int .i64 root], .int .i64 t] w fun e w' => (∃ v', e = .returned (.agg #[v', .int .i64 0]) ∧ LsAt w' v' (Sx.flat L k t 0) ∧ ∀ X : World, w'.heap.size ≤ X.heap.size → (∀ j, w.heap.size ≤ j → X.heap[j]? = w'.heap[j]?) → LsAt X v' (Sx.flat L k t 0)) ∧ Below w.heap.size w w' := by
  obtain ⟨ad, cap, rfl⟩ := hv.slice
  obtain ⟨n, hn⟩ : ∃ n, L.length = n := ⟨_, rfl⟩
  rw [hn] at hv ⊢
  obtain ⟨A, hA⟩ : ∃ A, w.heap.size = A := ⟨_, rfl⟩
  obtain ⟨W1, h1⟩ : ∃ W, W = w.alloc (treeO (.slice ad n cap) root) := ⟨_, rfl⟩
  obtain ⟨W2, h2⟩ : ∃ W, W = W1.alloc (treeO (.slice none 0 0) 0) := ⟨_, rfl⟩
  obtain ⟨W3, h3⟩ : ∃ W, W = W2.alloc (treeO (.slice none 0 0) 0) := ⟨_, rfl⟩
  obtain ⟨W4, h4⟩ : ∃ W, W = W3.alloc (bwFn A) := ⟨_, rfl⟩
  have s1 : W1.heap.size = A + 1 := by rw [h1]; simp [hA]
  have s2 : W2.heap.size = A + 1 + 1 := by rw [h2]; simp [s1]
  have s3 : W3.heap.size = A + 1 + 1 + 1 := by rw [h3]; simp [s2]
  have k4 : ∀ k, k < W3.heap.size → W4.heap[k]? = W3.heap[k]? := fun k h => by rw [h4]; exact Below.heap_alloc _ _ _ h
  have k3 : ∀ k, k < W2.heap.size → W4.heap[k]? = W2.heap[k]? := fun k h => (k4 k (by omega)).trans (by rw [h3]; exact Below.heap_alloc _ _ _ h)
  have k2 : ∀ k, k < W1.heap.size → W4.heap[k]? = W1.heap[k]? := fun k h => (k3 k (by omega)).trans (by rw [h2]; exact Below.heap_alloc _ _ _ h)
  have b0 := (k2 A (by omega)).trans (show W1.heap[A]? = some _ by rw [h1, ← hA]; exact World.alloc_heap_new w _)
  have b1 := (k3 (A + 1) (by omega)).trans (show W2.heap[A + 1]? = some _ by rw [h2, ← s1]; exact World.alloc_heap_new W1 _)
  have b2 := (k4 (A + 1 + 1) (by omega)).trans (show W3.heap[A + 1 + 1]? = some _ by rw [h3, ← s2]; exact World.alloc_heap_new W2 _)
  have b3 := (show W4.heap[A + 1 + 1 + 1]? = some _ by rw [h4, ← s3]; exact World.alloc_heap_new W3 _)
  have q4 : Below A w W4 := by
    rw [h4, h3, h2, h1]
    exact ((((Below.refl A w).alloc (by omega) _).alloc (by simp; omega) _).alloc (by simp; omega) _).alloc (by simp; omega) _
  have hm : BwM A w (.slice ad n cap) root (.slice none 0 0) [] W4 := ⟨q4, b0, b2, b3, RowL.nil _ _ _⟩
  have hcall := below_ok A n cap ad w hA root L hv hS hn k t W4 (.slice none 0 0) [] hh (by simpa using hz) hm
  unfold bwArgs at hcall
  have HCALL := Lib.hid hcall
  have HM := Lib.hid hm
  have HB1 := Lib.hid b1
  have HA := Lib.hid (And.intro trivial hA)
  have hch := h4
  rw [h3, h2, h1] at hch
  unfold treeO bwFn at hch
  rw [← hA] at hch
  have HCH := Lib.hid hch.symm
  have c3 : W4.cell? ⟨A + 3, 0, none⟩ = some (.func (.func 43) #[] #[.pointer (some ⟨A, 0, none⟩), .pointer (some ⟨A + 2, 0, none⟩), .pointer (some ⟨A + 3, 0, none⟩)]) := cell_at (i := 0) b3 rfl
  have HC3 := Lib.hid c3
  clear h1 h2 h3 h4 s1 s2 s3 k2 k3 k4 b0 b1 b2 b3 q4 hm hcall hA hch c3 hv hS hh hz hn
  go_enter Tryd.func23, Tryd.ntmps23
  go_upto_region 4 with fail
  generalize hgen : World.alloc (World.alloc (World.alloc (World.alloc w _) _) _) _ = WX
  have hwx : WX = W4 := hgen.symm.trans HCH.out
  subst hwx
  clear hgen HCH
  rw [HA.out.2]
  have c3 : WX.cell? ⟨A + 1 + 1 + 1, 0, none⟩ = some (.func (.func 43) #[] #[.pointer (some ⟨A, 0, none⟩), .pointer (some ⟨A + 1 + 1, 0, none⟩), .pointer (some ⟨A + 1 + 1 + 1, 0, none⟩)]) := HC3.out
  go_wp2_with fail
  refine HCALL.out.mono ?_
  rintro e w5 ⟨rfl, v', Q, hm5, hq5, hf5, hr5⟩
  rw [List.nil_append] at hm5
  have hrow := hm5.row
  obtain ⟨za, zn, zc, rfl⟩ : ∃ a n c, v' = .slice a n c := by
    rcases hrow.own.2 with ⟨h, _⟩ | ⟨g, cp, cur, h, _⟩
    · exact ⟨_, _, _, h⟩
    · exact ⟨_, _, _, h⟩
  have h1 := (hf5.same (A + 1) (lt_of HB1.out) (by omega) (fun e => by cases e)).trans HB1.out
  have x0 : w5.cell? ⟨A + 1 + 1, 0, none⟩ = some (.slice za zn zc) := cell_at (i := 0) hm5.out rfl
  have x1 : w5.cell? ⟨A + 1 + 1, 1, none⟩ = some (.int .i64 0) := cell_at (i := 1) hm5.out rfl
  have y0 : w5.cell? ⟨A + 1, 0, none⟩ = some (.slice none 0 0) := cell_at (i := 0) h1 rfl
  have y1 : w5.cell? ⟨A + 1, 1, none⟩ = some (.int .i64 0) := cell_at (i := 1) h1 rfl
  have f0 : w5.frozen? ⟨A + 1, 0, none⟩ = false := cells_frozen h1
  have f1 : w5.frozen? ⟨A + 1, 1, none⟩ = false := cells_frozen h1
  have hoff : ∀ p ∈ Q, OffK p.2 (A + 1) := fun p hp ad' n' c' e hn' e2 => by
    have h2 := hr5 p hp ad' n' c' e hn'
    have h3 := lt_of HB1.out
    omega
  have hne : (Value.slice za zn zc).ownBlock ≠ some (A + 1) := hrow.not h1 (by decide)
  have hm7 := (hm5.far 0 (.slice za zn zc) (K := A + 1) (by omega) (by omega) (by omega) (by omega) hne hoff).far 1 (.int .i64 0) (K := A + 1) (by omega) (by omega) (by omega) (by omega) hne hoff
  have h7 := cells_set (i := 1) (.int .i64 0) (cells_set (i := 0) (.slice za zn zc) h1)
  have hls := hm7.row.ls
  have hfar : ∀ X : World, ((w5.setCell ⟨A + 1, 0, none⟩ (.slice za zn zc)).setCell ⟨A + 1, 1, none⟩ (.int .i64 0)).heap.size ≤ X.heap.size → (∀ j, A ≤ j → X.heap[j]? = ((w5.setCell ⟨A + 1, 0, none⟩ (.slice za zn zc)).setCell ⟨A + 1, 1, none⟩ (.int .i64 0)).heap[j]?) → LsAt X (.slice za zn zc) (Q.map (·.1)) := fun X hs hk => hm7.row.ls_far (Nat.le_refl A) (hr5.mono (by have := lt_of HB1.out; omega)) hs hk
  have hq5' : Q.map (·.1) = Sx.flat L k t 0 := hq5
  rw [hq5'] at hls hfar
  have HFAR := Lib.hid hfar
  have HLS := Lib.hid hls
  have HB7 := Lib.hid hm7.below
  have H7 := Lib.hid (show ((w5.setCell ⟨A + 1, 0, none⟩ (.slice za zn zc)).setCell ⟨A + 1, 1, none⟩ (.int .i64 0)).heap[A + 1]? = some (.cells #[.slice za zn zc, .int .i64 0] 24) from h7)
  clear hfar hm5 hq5 hf5 hr5 hrow h1 hoff hne hm7 h7 hls hq5' HM HB1 HC3 c3 HCALL
  go_wp2
  refine bodyPost_ret (v := .agg #[.slice za zn zc, .int .i64 0]) (results_cell_row Tryd.results23 _ _ (A + 1) _ #[.slice za zn zc, .int .i64 0] _ _ (by rfl) H7.out Tryd.underlying24 rfl infoTree) rfl ?_
  exact ⟨⟨_, rfl, HLS.out, fun X hs hk => HFAR.out X hs (fun j hj => hk j (by rw [HA.out.2]; exact hj))⟩, by rw [HA.out.2]; exact HB7.out⟩

end Go.Proofs.YtpeihgbkolihgaaDoor
