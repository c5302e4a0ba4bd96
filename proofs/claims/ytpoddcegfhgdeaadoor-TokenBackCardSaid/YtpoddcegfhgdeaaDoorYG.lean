/- The mathematics of the law TokenCovers: a scan that goes on covers a source. -/
import Derived.Test.YtpoddcegfhgdeaaDoorYB
set_option linter.unusedVariables false
set_option linter.unusedSimpArgs false
namespace Go.Proofs.YtpoddcegfhgdeaaDoor
open Go.RowKit

theorem good_step (l : List UInt8) (ts : List Tk.Tok) (o : Nat) (ho : o < l.length) : Good o l.length (Tk.stepF l ts o) := by
  rw [← restF_zero]
  have key : ∀ n, Good o l.length (restG l ts o n) := by
    intro n
    induction n with
    | zero => exact .inr (.inl rfl)
    | succ n ih =>
      unfold restG
      cases h : partF l ts o (4 - n) with
      | none => exact ih
      | some r => exact good_part l ts o ho _ r h
  exact key _

/-- What a scan adds begins where it begins; at the end stands the End. -/
theorem scanL_pre (l : List UInt8) : ∀ (g o : Nat) (ts : List Tk.Tok) (ns : List (Nat × Nat)) (ts' : List Tk.Tok) (ns' : List (Nat × Nat)), o ≤ l.length → Tk.scanL l g o ts ns = .inr (ts', ns') →
    ∃ r q, ts' = ts ++ r ∧ ns' = ns ++ q ∧ r ≠ [] ∧ (∀ t ∈ r, o ≤ t.2.1) ∧ ∀ n ∈ q, o ≤ n.1
  | 0, o, ts, ns, ts', ns', _, h => by unfold Tk.scanL at h; cases h
  | g + 1, o, ts, ns, ts', ns', ho, h => by
    by_cases hlt : o < l.length
    · have hg := good_step l ts o hlt
      cases hs : Tk.stepF l ts o with
      | bad e => unfold Tk.scanL at h; rw [if_pos hlt, hs] at h; cases h
      | sp b =>
        rw [hs] at hg
        obtain ⟨r, q, h1, h2, h3, h4, h5⟩ := scanL_pre l g b ts ns ts' ns' hg.2 (scan_sp h hlt hs)
        exact ⟨r, q, h1, h2, h3, fun t ht => Nat.le_trans (Nat.le_of_lt hg.1) (h4 t ht), fun n hn => Nat.le_trans (Nat.le_of_lt hg.1) (h5 n hn)⟩
      | note b =>
        rw [hs] at hg
        obtain ⟨r, q, h1, h2, h3, h4, h5⟩ := scanL_pre l g b ts _ ts' ns' hg.2 (scan_note h hlt hs)
        refine ⟨r, (o, b) :: q, h1, by rw [h2, List.append_assoc]; rfl, h3, fun t ht => Nat.le_trans (Nat.le_of_lt hg.1) (h4 t ht), fun n hn => ?_⟩
        rcases List.mem_cons.1 hn with rfl | hn
        · exact Nat.le_refl _
        · exact Nat.le_trans (Nat.le_of_lt hg.1) (h5 n hn)
      | tok kd b =>
        rw [hs] at hg
        obtain ⟨r, q, h1, h2, h3, h4, h5⟩ := scanL_pre l g b _ ns ts' ns' hg.2 (scan_tok h hlt hs)
        refine ⟨(kd, o, b) :: r, q, by rw [h1, List.append_assoc]; rfl, h2, by simp, fun t ht => ?_, fun n hn => Nat.le_trans (Nat.le_of_lt hg.1) (h5 n hn)⟩
        rcases List.mem_cons.1 ht with rfl | ht
        · exact Nat.le_refl _
        · exact Nat.le_trans (Nat.le_of_lt hg.1) (h4 t ht)
    · have e := scan_end h hlt
      cases e
      exact ⟨[(6, o, o)], [], rfl, by simp, by simp, fun t ht => by simp at ht; rw [ht]; exact Nat.le_refl _, fun n hn => by cases hn⟩

/-- The state of the law's walk over a source: the scan itself, behind i tokens and k comments. -/
def Cov (l : List UInt8) (ts' : List Tk.Tok) (ns' : List (Nat × Nat)) (p i k : Nat) : Prop :=
  ∃ g, l.length < p + g ∧ Tk.scanL l g p (ts'.take i) (ns'.take k) = .inr (ts', ns') ∧ i ≤ ts'.length ∧ k ≤ ns'.length ∧ p ≤ l.length

theorem Cov.rest {l : List UInt8} {ts' : List Tk.Tok} {ns' : List (Nat × Nat)} {p i k : Nat} (h : Cov l ts' ns' p i k) : (∃ hi : i < ts'.length, p ≤ ts'[i].2.1) ∧ ∀ hk : k < ns'.length, p ≤ ns'[k].1 := by
  obtain ⟨g, h1, h2, h3, h4, h5⟩ := h
  obtain ⟨r, q, e1, e2, e3, e4, e5⟩ := scanL_pre l g p _ _ ts' ns' h5 h2
  have l1 : (ts'.take i).length = i := by rw [List.length_take]; omega
  have l2 : (ns'.take k).length = k := by rw [List.length_take]; omega
  have hr : ts'.drop i = r := by
    have : ts'.take i ++ ts'.drop i = ts'.take i ++ r := by rw [List.take_append_drop]; exact e1
    exact List.append_cancel_left this
  have hq : ns'.drop k = q := by
    have : ns'.take k ++ ns'.drop k = ns'.take k ++ q := by rw [List.take_append_drop]; exact e2
    exact List.append_cancel_left this
  have hi : i < ts'.length := by
    rcases Nat.lt_or_ge i ts'.length with h | h
    · exact h
    · rw [List.drop_eq_nil_of_le h] at hr
      exact absurd hr.symm e3
  refine ⟨⟨hi, e4 _ ?_⟩, fun hk => e5 _ ?_⟩
  · rw [← hr, List.drop_eq_getElem_cons hi]; exact List.mem_cons_self ..
  · rw [← hq, List.drop_eq_getElem_cons hk]; exact List.mem_cons_self ..

theorem cov_start {l : List UInt8} {ts' : List Tk.Tok} {ns' : List (Nat × Nat)} (h : Tk.scanF l = .inr (ts', ns')) : Cov l ts' ns' 0 0 0 := by
  unfold Tk.scanF at h
  split at h
  · cases h
  · split at h
    · cases h
    · exact ⟨l.length + 1, by omega, h, Nat.zero_le _, Nat.zero_le _, Nat.zero_le _⟩

theorem cov_end {l : List UInt8} {ts' : List Tk.Tok} {ns' : List (Nat × Nat)} {p i k : Nat} (h : Cov l ts' ns' p i k) (hp : ¬ p < l.length) : p = l.length ∧ k = ns'.length ∧ i + 1 = ts'.length ∧ ts'[i]? = some (6, l.length, l.length) := by
  obtain ⟨g, h1, h2, h3, h4, h5⟩ := h
  obtain ⟨g, rfl⟩ : ∃ g', g = g' + 1 := ⟨g - 1, by omega⟩
  obtain rfl : p = l.length := by omega
  have e := scan_end h2 hp
  injection e with e
  injection e with e1 e2
  have l1 : (ts'.take i).length = i := by rw [List.length_take]; omega
  have l2 : (ns'.take k).length = k := by rw [List.length_take]; omega
  refine ⟨rfl, ?_, ?_, ?_⟩
  · have := congrArg List.length e2; rw [l2] at this; exact this.symm
  · have := congrArg List.length e1; rw [List.length_append, l1] at this; simp at this; omega
  · rw [e1, List.getElem?_append_right (by rw [l1]; exact Nat.le_refl _), l1]; simp

theorem take_push {α : Type} {x : List α} {i : Nat} {y : α} {r : List α} (hi : i ≤ x.length) (h : x = (x.take i ++ [y]) ++ r) : x.take (i + 1) = x.take i ++ [y] ∧ ∃ hi : i < x.length, x[i] = y := by
  have l1 : (x.take i).length = i := by rw [List.length_take]; omega
  have hlen : i < x.length := by
    have := congrArg List.length h
    simp only [List.length_append, l1, List.length_cons, List.length_nil] at this
    omega
  have hg : x[i]? = some y := by
    rw [h, List.append_assoc, List.getElem?_append_right (by rw [l1]; exact Nat.le_refl _), l1]
    simp
  have hg2 : x[i] = y := by
    rw [List.getElem?_eq_getElem hlen] at hg
    exact Option.some.inj hg
  exact ⟨by rw [List.take_succ_eq_append_getElem hlen, hg2], hlen, hg2⟩

theorem note_two (l : List UInt8) (p b : Nat) (hp : p < l.length) (h : Tk.noteF l p = some (.note b)) : p + 1 < b ∧ ([45, 45] : List UInt8).isPrefixOf (l.drop p) = true := by
  unfold Tk.noteF at h
  split at h
  · next hx =>
    cases h
    refine ⟨?_, hx⟩
    have hl := prefix_len _ _ hx
    rw [List.length_drop] at hl
    simp at hl
    have hp1 : p + 1 < l.length := by omega
    rw [List.drop_eq_getElem_cons hp, List.drop_eq_getElem_cons hp1] at hx
    simp [List.isPrefixOf] at hx
    rw [Tk.run_yes _ _ _ hp (by rw [← hx.1]; rfl), Tk.run_yes _ _ _ hp1 (by rw [← hx.2]; rfl)]
    exact Nat.lt_of_lt_of_le (Nat.lt_succ_self _) (Tk.run_ge _ _ _)
  · cases h

/-- Which part answers a step. -/
theorem step_parts (l : List UInt8) (ts : List Tk.Tok) (o : Nat) : (∀ b, Tk.stepF l ts o = .sp b → Tk.spaceF l o = some (.sp b)) ∧ (∀ b, Tk.stepF l ts o = .note b → Tk.noteF l o = some (.note b)) := by
  have hw : ∀ r, Tk.wordF l ts o = some r → (∀ b, r ≠ .sp b) ∧ ∀ b, r ≠ .note b := by
    intro r h
    unfold Tk.wordF at h
    split at h
    · cases h
    · split at h
      · cases h
      · split at h
        · cases h; exact ⟨(fun b e => by cases e), (fun b e => by cases e)⟩
        · split at h
          · cases h; exact ⟨(fun b e => by cases e), (fun b e => by cases e)⟩
          · split at h
            · cases h; exact ⟨(fun b e => by cases e), (fun b e => by cases e)⟩
            · cases h; exact ⟨(fun b e => by cases e), (fun b e => by cases e)⟩
  have hn : ∀ r, Tk.numF l ts o = some r → (∀ b, r ≠ .sp b) ∧ ∀ b, r ≠ .note b := by
    intro r h
    unfold Tk.numF at h
    split at h
    · cases h
    · split at h
      · cases h; exact ⟨(fun b e => by cases e), (fun b e => by cases e)⟩
      · cases h; exact ⟨(fun b e => by cases e), (fun b e => by cases e)⟩
  have hs : ∀ r, Tk.signF l o = some r → (∀ b, r ≠ .sp b) ∧ ∀ b, r ≠ .note b := by
    intro r h
    unfold Tk.signF at h
    split at h
    · cases h; exact ⟨(fun b e => by cases e), (fun b e => by cases e)⟩
    · cases h
  have hsp : ∀ r, Tk.spaceF l o = some r → ∀ b, r ≠ .note b := by
    intro r h b
    unfold Tk.spaceF at h
    split at h
    · cases h; intro e; cases e
    · cases h
  have hno : ∀ r, Tk.noteF l o = some r → ∀ b, r ≠ .sp b := by
    intro r h b
    unfold Tk.noteF at h
    split at h
    · cases h; intro e; cases e
    · cases h
  unfold Tk.stepF
  cases h0 : Tk.spaceF l o with
  | some r => exact ⟨(fun b e => by dsimp only at e; rw [e]), fun b e => absurd e (hsp r h0 b)⟩
  | none =>
    dsimp only
    cases h1 : Tk.noteF l o with
    | some r => exact ⟨fun b e => absurd e (hno r h1 b), fun b e => by dsimp only at e; rw [e]⟩
    | none =>
      dsimp only
      cases h2 : Tk.wordF l ts o with
      | some r => exact ⟨fun b e => absurd e ((hw r h2).1 b), fun b e => absurd e ((hw r h2).2 b)⟩
      | none =>
        dsimp only
        cases h3 : Tk.numF l ts o with
        | some r => exact ⟨fun b e => absurd e ((hn r h3).1 b), fun b e => absurd e ((hn r h3).2 b)⟩
        | none =>
          dsimp only
          cases h4 : Tk.signF l o with
          | some r => exact ⟨fun b e => absurd e ((hs r h4).1 b), fun b e => absurd e ((hs r h4).2 b)⟩
          | none => exact ⟨(fun b e => by cases e), (fun b e => by cases e)⟩

theorem space_at (l : List UInt8) (o b : Nat) (ho : o < l.length) (h : Tk.spaceF l o = some (.sp b)) : Tk.isSp l[o] = true ∧ o < b ∧ Tk.run Tk.isSp l o = b := by
  unfold Tk.spaceF at h
  split at h
  · next hlt =>
    cases h
    refine ⟨?_, hlt, rfl⟩
    cases hp : Tk.isSp l[o] with
    | true => rfl
    | false => rw [Tk.run_no _ _ _ ho hp] at hlt; omega
  · cases h

theorem cov_step {l : List UInt8} {ts' : List Tk.Tok} {ns' : List (Nat × Nat)} {p i k : Nat} (h : Cov l ts' ns' p i k) (hp : p < l.length) :
    (∃ kd b, (∃ hi : i < ts'.length, ts'[i] = (kd, p, b)) ∧ p < b ∧ b ≤ l.length ∧ Cov l ts' ns' b (i + 1) k) ∨
    (∃ b, (∃ hk : k < ns'.length, ns'[k] = (p, b)) ∧ (∃ hi : i < ts'.length, p < ts'[i].2.1) ∧ p + 1 < b ∧ b ≤ l.length ∧ ([45, 45] : List UInt8).isPrefixOf (l.drop p) = true ∧ Cov l ts' ns' b i (k + 1)) ∨
    ((∃ hi : i < ts'.length, p < ts'[i].2.1) ∧ (∀ hk : k < ns'.length, p < ns'[k].1) ∧ Tk.isSp l[p] = true ∧ Cov l ts' ns' (p + 1) i k) := by
  obtain ⟨g, h1, h2, h3, h4, h5⟩ := h
  obtain ⟨g, rfl⟩ : ∃ g', g = g' + 1 := ⟨g - 1, by omega⟩
  have hg := good_step l (ts'.take i) p hp
  cases hs : Tk.stepF l (ts'.take i) p with
  | bad e => unfold Tk.scanL at h2; rw [if_pos hp, hs] at h2; cases h2
  | sp b =>
    rw [hs] at hg
    obtain ⟨w1, w2, w3⟩ := space_at l p b hp ((step_parts l _ p).1 b hs)
    have hb := scan_sp h2 hp hs
    have hC : Cov l ts' ns' b i k := ⟨g, by omega, hb, h3, h4, hg.2⟩
    obtain ⟨⟨r1, r2⟩, r3⟩ := hC.rest
    have r4 : p < ts'[i].2.1 := Nat.lt_of_lt_of_le w2 r2
    refine .inr (.inr ⟨⟨r1, r4⟩, fun hk => by have := r3 hk; omega, w1, ?_⟩)
    by_cases he : p + 1 = b
    · rw [he]; exact hC
    · have hg2 : b ≤ l.length := hg.2
      have hp1 : p + 1 < l.length := by omega
      have hrun : Tk.run Tk.isSp l (p + 1) = b := by rw [← Tk.run_yes _ _ _ hp w1]; exact w3
      have hst : Tk.stepF l (ts'.take i) (p + 1) = .sp b := by
        unfold Tk.stepF Tk.spaceF
        rw [hrun, if_pos (by omega)]
      refine ⟨g + 1, by omega, ?_, h3, h4, by omega⟩
      unfold Tk.scanL
      rw [if_pos hp1, hst]
      exact hb
  | note b =>
    rw [hs] at hg
    have hb := scan_note h2 hp hs
    obtain ⟨n1, n2⟩ := note_two l p b hp ((step_parts l _ p).2 b hs)
    obtain ⟨r, q, e1, e2, e3, e4, e5⟩ := scanL_pre l g b _ _ ts' ns' hg.2 hb
    obtain ⟨t1, t2, t3⟩ := take_push h4 e2
    have hC : Cov l ts' ns' b i (k + 1) := ⟨g, by omega, by rw [t1]; exact hb, h3, t2, hg.2⟩
    obtain ⟨⟨r1, r2⟩, r3⟩ := hC.rest
    have r4 : p < ts'[i].2.1 := Nat.lt_of_lt_of_le hg.1 r2
    exact .inr (.inl ⟨b, ⟨t2, t3⟩, ⟨r1, r4⟩, n1, hg.2, n2, hC⟩)
  | tok kd b =>
    rw [hs] at hg
    have hb := scan_tok h2 hp hs
    obtain ⟨r, q, e1, e2, e3, e4, e5⟩ := scanL_pre l g b _ _ ts' ns' hg.2 hb
    obtain ⟨t1, t2, t3⟩ := take_push h3 e1
    have hg1 : p < b := hg.1
    exact .inl ⟨kd, b, ⟨t2, t3⟩, hg.1, hg.2, g, by omega, by rw [t1]; exact hb, t2, h4, hg.2⟩

/-- What a failed scan answers lies in the source. -/
theorem scanL_bad (l : List UInt8) : ∀ (g o : Nat) (ts : List Tk.Tok) (ns : List (Nat × Nat)) (p : Nat × Nat), o ≤ l.length → Tk.scanL l g o ts ns = .inl p → p.1 ≤ l.length
  | 0, o, ts, ns, p, ho, h => by unfold Tk.scanL at h; cases h; exact ho
  | g + 1, o, ts, ns, p, ho, h => by
    by_cases hlt : o < l.length
    · have hg := good_step l ts o hlt
      cases hs : Tk.stepF l ts o with
      | bad e => unfold Tk.scanL at h; rw [if_pos hlt, hs] at h; cases h; exact ho
      | sp b => rw [hs] at hg; exact scanL_bad l g b ts ns p hg.2 (scan_sp h hlt hs)
      | note b => rw [hs] at hg; exact scanL_bad l g b ts _ p hg.2 (scan_note h hlt hs)
      | tok kd b => rw [hs] at hg; exact scanL_bad l g b _ ns p hg.2 (scan_tok h hlt hs)
    · have e := scan_end h hlt
      cases e
theorem scanF_bad (l : List UInt8) (p : Nat × Nat) (h : Tk.scanF l = .inl p) : p.1 ≤ l.length := by
  unfold Tk.scanF at h
  split at h
  · cases h; exact Nat.zero_le _
  · split at h
    · next i hi =>
      cases h
      have := List.findIdx?_eq_some_iff_findIdx_eq.1 hi
      exact Nat.le_of_lt this.1
    · exact scanL_bad l _ _ _ _ p (Nat.zero_le _) h

end Go.Proofs.YtpoddcegfhgdeaaDoor
