/- What Reach does. -/
import Derived.Test.YtphlokjhfbfogaaZK
set_option linter.unusedVariables false
set_option linter.unusedSimpArgs false
namespace Go.Proofs.Ytphlokjhfbfogaa
open Go.RowKit Go.Shelf Go.Maps

theorem collect_ok (A : Ad) (hA : A.Good) (w : World) (hbase : A.base = w.heap.size) (d : List DataM) (hd : Sm d) (dv : Value) (hdv : DsAt w dv d) : ∀ k, ColOk A w d dv k
  | 0 => fun t depth W o l _ _ _ _ h => absurd h (Nat.not_lt_zero _)
  | k + 1 => fun t depth W o l ht h0 hdep hS hun hol hll => by
    have ih := collect_ok A hA w hbase d hd dv hdv k
    obtain ⟨vo, vl, hs⟩ := hS
    by_cases hto : t ∈ o
    · have e : Dt.reachF d (k + 1) t o = o := by rw [Dt.reachF, if_neg (fun h => h.2 hto)]
      rw [e]
      refine (collect_met A w dv t depth W o l vo vl ht hs hto).mono ?_
      rintro e W' ⟨h, rfl⟩
      exact ⟨h, ⟨vo, vl, hs⟩, KeepsFrom.refl _ _⟩
    · cases hok : Dt.ok d t with
      | false =>
        have e : Dt.reachF d (k + 1) t o = o := by rw [Dt.reachF, if_neg (fun h => by rw [hok] at h; cases h.1)]
        rw [e]
        refine (collect_not A w d dv t depth W o l vo vl ht hs hto hdv hok).mono ?_
        rintro e W' ⟨h, rfl⟩
        exact ⟨h, ⟨vo, vl, hs⟩, KeepsFrom.refl _ _⟩
      | true =>
        have e : Dt.reachF d (k + 1) t o = (Dt.fieldsOf d t).foldl (fun l f => Dt.reachF d k f l) (o ++ [t]) := by rw [Dt.reachF, if_pos ⟨hok, hto⟩]
        rw [e]
        exact collect_new A hA w hbase d hd dv hdv k ih t depth W o l ht h0 (by omega) ⟨vo, vl, hs⟩ hun hol hll hto hok

theorem row_types {A : Ad} {W : World} {b : Nat} {v : Value} {l : List Int} (h : RowIn A W b v l) : FsAt W v l := by
  rcases h.2.2 with ⟨hv, h0⟩ | ⟨g, cap, cur, hv, hg, hgb, hnc, hcm, hcs, htk⟩
  · obtain rfl := List.length_eq_zero_iff.1 h0
    rw [hv]; exact FsAt.nil W
  · refine ⟨_, _, _, hv, rfl, .inr ⟨g, 0, rfl, (Array.getElem?_eq_some_iff.1 hgb).1, fun i hi => ?_⟩⟩
    have h1 := congrArg (fun l => l[i]?) htk
    rw [List.getElem?_take_of_lt (by omega)] at h1
    simp only [World.cell?, hgb, Nat.zero_add]
    simpa [ints, hi] using h1

/-- A slice whose length is within its room. -/
def Fits (u : Value) : Prop := ∃ a n c, u = .slice a n c ∧ n ≤ c
theorem row_fits {A : Ad} {W : World} {b : Nat} {v : Value} {l : List Int} (h : RowIn A W b v l) : Fits v := by
  rcases h.2.2 with ⟨hv, h0⟩ | ⟨g, cap, cur, hv, hg, hgb, hnc, hcm, hcs, htk⟩
  · exact ⟨_, _, _, hv, Nat.le_refl _⟩
  · exact ⟨_, _, _, hv, hnc⟩

/-- The types that a type reaches. -/
def Dt.reach (d : List DataM) (t : Int) : List Int := Dt.reachF d 150 t []

set_option maxRecDepth 100000 in
set_option maxHeartbeats 6400000 in
theorem Reach_fits (v : Value) (d : List DataM) (t : Int) (w : World) (hv : DsAt w v d) (hd : Sm d) (ht : In64 t) :
    Calls Try.prog 10 #[v, .int .i64 t] w fun e w' => (∃ u, e = .returned u ∧ FsAt w' u (Dt.reach d t) ∧ Fits u) ∧ Below w.heap.size w w' := by
  obtain ⟨ad, cap, hvE⟩ := hv.slice
  have hmm := @run_makeMap Try.prog
  have HV := Lib.hid hv
  have HD := Lib.hid hd
  have HT := Lib.hid ht
  generalize d.length = n at hvE
  subst hvE
  clear hv hd ht
  obtain ⟨W1, hW1⟩ : ∃ W1, W1 = w.alloc (.cells #[.slice ad n cap] 22) := ⟨_, rfl⟩
  obtain ⟨W2, hW2⟩ : ∃ W2, W2 = W1.alloc (.cells #[.slice none 0 0] 32) := ⟨_, rfl⟩
  obtain ⟨W3, hW3⟩ : ∃ W3, W3 = W2.alloc (.cells #[.slice none 0 0] 32) := ⟨_, rfl⟩
  obtain ⟨W4, hW4⟩ : ∃ W4, W4 = W3.alloc (.map #[] 0) := ⟨_, rfl⟩
  obtain ⟨W5, hW5⟩ : ∃ W5, W5 = W4.alloc (.cells #[.map (some (w.heap.size + 1 + 1 + 1))] 46) := ⟨_, rfl⟩
  obtain ⟨W6, hW6⟩ : ∃ W6, W6 = W5.alloc (.cells #[.nilFunc] 47) := ⟨_, rfl⟩
  have s1 : W1.heap.size = w.heap.size + 1 := by rw [hW1]; simp
  have s2 : W2.heap.size = w.heap.size + 1 + 1 := by rw [hW2]; simp [s1]
  have s3 : W3.heap.size = w.heap.size + 1 + 1 + 1 := by rw [hW3]; simp [s2]
  have s4 : W4.heap.size = w.heap.size + 1 + 1 + 1 + 1 := by rw [hW4]; simp [s3]
  have s5 : W5.heap.size = w.heap.size + 1 + 1 + 1 + 1 + 1 := by rw [hW5]; simp [s4]
  have b1 : Boxed W1 w.heap.size 22 (.slice ad n cap) := by rw [hW1]; exact Boxed.new w _ _
  have b2 : Boxed W2 (w.heap.size + 1) 32 (.slice none 0 0) := by rw [hW2, ← s1]; exact Boxed.new W1 _ _
  have b3 : Boxed W3 (w.heap.size + 1 + 1) 32 (.slice none 0 0) := by rw [hW3, ← s2]; exact Boxed.new W2 _ _
  have b4 : MapSet W4 27 (w.heap.size + 1 + 1 + 1) 0 (Dt.keyI []) := by rw [hW4, ← s3]; exact (MapSet.new W3 _).to Dt.keyI_nil
  have b5 : Boxed W5 (w.heap.size + 1 + 1 + 1 + 1) 46 (.map (some (w.heap.size + 1 + 1 + 1))) := by rw [hW5, ← s4]; exact Boxed.new W4 _ _
  have b6 : Boxed W6 (w.heap.size + 1 + 1 + 1 + 1 + 1) 47 .nilFunc := by rw [hW6, ← s5]; exact Boxed.new W5 _ _
  have k6 : ∀ {b t v}, Boxed W5 b t v → Boxed W6 b t v := fun h => by rw [hW6]; exact h.alloc _
  have k5 : ∀ {b t v}, Boxed W4 b t v → Boxed W6 b t v := fun h => k6 (by rw [hW5]; exact h.alloc _)
  have k4 : ∀ {b t v}, Boxed W3 b t v → Boxed W6 b t v := fun h => k5 (by rw [hW4]; exact h.alloc _)
  have k3 : ∀ {b t v}, Boxed W2 b t v → Boxed W6 b t v := fun h => k4 (by rw [hW3]; exact h.alloc _)
  have k2 : ∀ {b t v}, Boxed W1 b t v → Boxed W6 b t v := fun h => k3 (by rw [hW2]; exact h.alloc _)
  have m6 : MapSet W6 27 (w.heap.size + 1 + 1 + 1) 0 (Dt.keyI []) := b4.keep (by rw [hW6, Below.heap_alloc _ _ _ (by omega), hW5, Below.heap_alloc _ _ _ (by omega)])
  have hb6 : Below w.heap.size w W6 := by
    rw [hW6, hW5, hW4, hW3, hW2, hW1]
    exact ((((((Below.refl w.heap.size w).alloc (Nat.le_refl _) _).alloc (by simp) _).alloc (by simp; omega) _).alloc (by simp; omega) _).alloc (by simp; omega) _).alloc (by simp; omega) _
  have c8 := b6.cell
  have f8 := b6.frozen
  obtain ⟨A, hA⟩ : ∃ A : Ad, A = ⟨w.heap.size, w.heap.size, w.heap.size + 1, w.heap.size + 1 + 1, w.heap.size + 1 + 1 + 1, w.heap.size + 1 + 1 + 1 + 1, w.heap.size + 1 + 1 + 1 + 1 + 1⟩ := ⟨_, rfl⟩
  have hG : A.Good := by rw [hA]; exact ⟨Nat.le_refl _, by show _ < _; simp, by show _ < _; simp, by show _ < _; simp, by show _ < _; simp, by show _ < _; simp⟩
  have hst : St A w (.slice ad n cap) (W6.setCell ⟨w.heap.size + 1 + 1 + 1 + 1 + 1, 0, none⟩ (.func (.func 23) #[] A.caps)) [] [] := by
    have far : ∀ k, k ≠ w.heap.size + 1 + 1 + 1 + 1 + 1 → (W6.setCell ⟨w.heap.size + 1 + 1 + 1 + 1 + 1, 0, none⟩ (.func (.func 23) #[] A.caps)).heap[k]? = W6.heap[k]? := fun k hk => Below.heap_setCell _ _ _ k hk
    refine ⟨.slice none 0 0, .slice none 0 0, ?_⟩
    rw [hA] at far ⊢
    exact ⟨hb6.setCell (p := ⟨w.heap.size + 1 + 1 + 1 + 1 + 1, 0, none⟩) (by dsimp only; omega) _, (far _ (by dsimp only; omega)).trans (k2 b1), (far _ (by dsimp only; omega)).trans (k6 b5), b6.set _, m6.keep (far _ (by first | omega | (dsimp only; omega))), ⟨(far _ (by dsimp only; omega)).trans (k3 b2), World.ownsRow_nil _ _ _ _⟩, ⟨(far _ (by dsimp only; omega)).trans (k4 b3), World.ownsRow_nil _ _ _ _⟩, fun g h => by cases h⟩
  have hum := Dt.unmet_le d []
  have hd1 := HD.out.1
  have HCALL := Lib.hid (collect_ok A hG w (by rw [hA]) d HD.out (.slice ad n cap) HV.out 150 t 0 _ [] [] HT.out (by omega) (by omega) hst (by omega) (by simp; omega) (by simp))
  rw [hA] at HCALL
  unfold colArgs Ad.caps at HCALL
  dsimp only at HCALL
  have hrun : Sem.run Try.prog (store ⟨w.heap.size + 1 + 1 + 1 + 1 + 1, 0, none⟩ (.func (.func 23) #[] #[.pointer (some ⟨w.heap.size + 1 + 1 + 1 + 1, 0, none⟩), .pointer (some ⟨w.heap.size, 0, none⟩), .pointer (some ⟨w.heap.size + 1, 0, none⟩), .pointer (some ⟨w.heap.size + 1 + 1, 0, none⟩), .pointer (some ⟨w.heap.size + 1 + 1 + 1 + 1 + 1, 0, none⟩)])) W6 = .ok () (W6.setCell ⟨w.heap.size + 1 + 1 + 1 + 1 + 1, 0, none⟩ (.func (.func 23) #[] #[.pointer (some ⟨w.heap.size + 1 + 1 + 1 + 1, 0, none⟩), .pointer (some ⟨w.heap.size, 0, none⟩), .pointer (some ⟨w.heap.size + 1, 0, none⟩), .pointer (some ⟨w.heap.size + 1 + 1, 0, none⟩), .pointer (some ⟨w.heap.size + 1 + 1 + 1 + 1 + 1, 0, none⟩)])) := by
    rw [run_store _ _ _ _ _ rfl, c8, f8]
    rfl
  have c10 := (b6.set (.func (.func 23) #[] #[.pointer (some ⟨w.heap.size + 1 + 1 + 1 + 1, 0, none⟩), .pointer (some ⟨w.heap.size, 0, none⟩), .pointer (some ⟨w.heap.size + 1, 0, none⟩), .pointer (some ⟨w.heap.size + 1 + 1, 0, none⟩), .pointer (some ⟨w.heap.size + 1 + 1 + 1 + 1 + 1, 0, none⟩)])).cell
  have hch := hW6
  rw [hW5, hW4, hW3, hW2, hW1] at hch
  replace hch := hch.symm
  clear hW1 hW2 hW3 hW4 hW5 hW6 s1 s2 s3 s4 s5 b1 b2 b3 b4 b5 b6 k2 k3 k4 k5 k6 m6 hb6 hst hum hd1
  go_enter Try.func10, Try.ntmps10
  go_wp2_with fail
  refine HCALL.out.mono ?_
  rintro e W7 ⟨⟨vv, rfl⟩, hst7, hkf7⟩
  obtain ⟨vo, vl, hs7⟩ := hst7
  have HFS := Lib.hid (row_types hs7.out)
  have HFI := Lib.hid (row_fits hs7.out)
  have HB7 := Lib.hid hs7.below
  obtain ⟨ao, co, rfl⟩ := hs7.out.slice
  have c9 := hs7.out.1.cell
  dsimp only at c9
  clear hs7 hkf7 c8 f8 c10 hrun
  go_wp2
  go_ret
  exact ⟨⟨_, rfl, HFS.out, HFI.out⟩, HB7.out⟩

theorem Reach_any (v : Value) (d : List DataM) (t : Int) (w : World) (hv : DsAt w v d) (hd : Sm d) (ht : In64 t) :
    Calls Try.prog 10 #[v, .int .i64 t] w fun e w' => (∃ u, e = .returned u ∧ FsAt w' u (Dt.reach d t)) ∧ Below w.heap.size w w' :=
  (Reach_fits v d t w hv hd ht).mono fun e w' ⟨⟨u, h1, h2, _⟩, h3⟩ => ⟨⟨u, h1, h2⟩, h3⟩

theorem In64_zero : In64 0 := by unfold In64; omega

end Go.Proofs.Ytphlokjhfbfogaa
