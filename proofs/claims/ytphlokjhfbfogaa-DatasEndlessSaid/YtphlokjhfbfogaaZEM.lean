/- A table copied into a row of the call's own, and one type more behind it. -/
import Derived.Test.YtphlokjhfbfogaaZEN
import Derived.Maps.AppendAt
import Derived.Lib.AppendZeros
set_option linter.unusedVariables false
set_option linter.unusedSimpArgs false
namespace Go.Proofs.Ytphlokjhfbfogaa
open Go.RowKit Go.Shelf

/-- The cells of a table. -/
def tabN (w : World) (b off n : Nat) : List Value := (List.range (n * 2)).map (fun j => (w.cell? ⟨b, off + j, none⟩).getD (.bool false))
theorem tabN_length (w : World) (b off n : Nat) : (tabN w b off n).length = n * 2 := by simp [tabN]
theorem tab_cell {w : World} {b off n cap : Nat} {d : List DataM} (hv : DsAt w (.slice (some ⟨b, off, none⟩) n cap) d) (hn : d.length = n) (j : Nat) (hj : j < n * 2) : ∃ u, w.cell? ⟨b, off + j, none⟩ = some u ∧ u.oneCell' = true := by
  obtain ⟨b', off', fa, fc, e, hb, c0, c1, hcs⟩ := hv.at (j / 2) (by omega)
  cases e
  by_cases h : j % 2 = 0
  · rw [show off + j / 2 * 2 = off + j by omega] at c0
    exact ⟨_, c0, rfl⟩
  · rw [show off + j / 2 * 2 + 1 = off + j by omega] at c1
    exact ⟨_, c1, rfl⟩
theorem tabN_at {w : World} {b off n j : Nat} {u : Value} (h : w.cell? ⟨b, off + j, none⟩ = some u) (hj : j < n * 2) : (tabN w b off n)[j]? = some u := by
  simp [tabN, hj, h]
theorem tabN_news {w : World} {b off n cap : Nat} {d : List DataM} (hv : DsAt w (.slice (some ⟨b, off, none⟩) n cap) d) (hn : d.length = n) : ∀ j u, (tabN w b off n)[j]? = some u → w.cell? ((⟨b, off, none⟩ : Addr).add j) = some u := by
  intro j u h
  have hj : j < n * 2 := by
    have := (List.getElem?_eq_some_iff.1 h).1
    rwa [tabN_length] at this
  obtain ⟨u', hu', _⟩ := tab_cell hv hn j hj
  rw [tabN_at hu' hj] at h
  cases h
  unfold Addr.add
  by_cases h0 : j = 0
  · subst h0; simpa using hu'
  · rw [if_neg h0]; exact hu'
theorem tabN_one {w : World} {b off n cap : Nat} {d : List DataM} (hv : DsAt w (.slice (some ⟨b, off, none⟩) n cap) d) (hn : d.length = n) : ∀ u ∈ tabN w b off n, u.oneCell' = true := by
  intro u hu
  obtain ⟨j, hj, rfl⟩ := List.getElem_of_mem hu
  have hj2 : j < n * 2 := by rwa [tabN_length] at hj
  obtain ⟨u', hu', ho⟩ := tab_cell hv hn j hj2
  have h := tabN_at (n := n) hu' hj2
  rw [List.getElem?_eq_getElem hj] at h
  injection h with h
  rw [h]; exact ho
/-- The table with one type more. -/
theorem tab_row {w W' : World} {B b off n cap g cap' : Nat} {d : List DataM} {nm : ByteArray} {vc : Value} {cs : List ConM} (hv : DsAt w (.slice (some ⟨b, off, none⟩) n cap) d) (hn : d.length = n) (hb : Below w.heap.size w W') (hc : CsAt W' vc cs)
    (hrow : W'.ownsRow B 37 2 (.slice (some ⟨g, 0, none⟩) (n + 1) cap') (n + 1) (tabN w b off n ++ [.string nm, vc])) : DsAt W' (.slice (some ⟨g, 0, none⟩) (n + 1) cap') (d ++ [⟨nm, cs⟩]) := by
  rcases hrow.2 with ⟨h, _⟩ | ⟨g', cp, cur, e, hg, hgb, hnc, hcm, hcsz, htk⟩
  · cases h
  cases e
  have cell : ∀ j u, j < (n + 1) * 2 → (tabN w b off n ++ [.string nm, vc])[j]? = some u → W'.cell? ⟨g, j, none⟩ = some u := by
    intro j u hj h
    rw [← htk, List.getElem?_take_of_lt hj] at h
    simp only [World.cell?, hgb]
    simpa using h
  refine ⟨_, _, _, rfl, by simp [hn], .inr ⟨g, 0, rfl, (Array.getElem?_eq_some_iff.1 hgb).1, fun i hi => ?_⟩⟩
  rw [List.length_append, List.length_singleton] at hi
  by_cases hin : i < n
  · obtain ⟨b', off', fa, fc, e, hbb, c0, c1, hcs⟩ := hv.at i (by omega)
    cases e
    rw [List.getElem_append_left (by omega)]
    refine ⟨?_, _, ?_, hcs.keep hb (Nat.le_refl _)⟩
    · refine cell (0 + i * 2) _ (by omega) ?_
      rw [Nat.zero_add, List.getElem?_append_left (by rw [tabN_length]; omega)]
      exact tabN_at c0 (by omega)
    · refine cell (0 + i * 2 + 1) _ (by omega) ?_
      rw [Nat.zero_add, List.getElem?_append_left (by rw [tabN_length]; omega)]
      exact tabN_at (by rw [← Nat.add_assoc]; exact c1) (by omega)
  · have hin2 : i = n := by omega
    subst hin2
    rw [List.getElem_append_right (by omega)]
    simp only [hn, Nat.sub_self, List.getElem_cons_zero]
    refine ⟨?_, vc, ?_, hc⟩
    · refine cell (0 + i * 2) _ (by omega) ?_
      rw [Nat.zero_add, List.getElem?_append_right (by rw [tabN_length]; omega), tabN_length, Nat.sub_self]
      rfl
    · refine cell (0 + i * 2 + 1) _ (by omega) ?_
      rw [Nat.zero_add, List.getElem?_append_right (by rw [tabN_length]; omega), tabN_length, show i * 2 + 1 - i * 2 = 1 by omega]
      rfl

/-- An append in a region that draws its order. -/
theorem step_append {P : Program} (w : World) {ops : Array Oper} {o : Oper} {a : Act} {K : Act → World → Prop} {Q : Exit → Act → World → Prop} {E : Prop} (hgd : o.guard = none) (s x : Operand) (t : TypeId)
    (ho : o.op = .call { callee := .builtin .append, args := #[s, x], argTypes := #[t, t] })
    (base : Nat) (e : TypeId) (i : TypeInfo) (z : Value) (size bytes : Nat) (ht : P.underlying t = some (.slice e)) (hi : P.info? e = some i) (hz : i.zero = some z)
    (hsize : i.size = size) (hby : i.bytes = bytes) (hzs : z.cells.size = size) (hsz : 0 < size)
    (v : Value) (n : Nat) (xs : List Value) (hs : a.eval s = v) (hown : w.ownsRow base e size v n xs)
    (ad : Addr) (m c : Nat) (news : List Value) (hx : a.eval x = .slice (some ad) m c) (hl : news.length = m * size) (hnews : ∀ j u, news[j]? = some u → w.cell? (ad.add j) = some u) (h1 : ∀ u ∈ news, u.oneCell' = true)
    (h63 : n + m ≤ maxLen) (hbytes : (n + m) * bytes ≤ 140737488355328) (hbase : base ≤ w.heap.size)
    (h : ∀ v' w', w'.ownsRow base e size v' (n + m) (xs ++ news) → w.grownBy w' v.ownBlock → (v'.ownBlock = v.ownBlock ∨ v'.ownBlock = some w.heap.size) → K (a.put o.dst v') w') :
    if Region.wanted o (yielded ops a.tmps) = true then Oper.wp P o a w K Q else E := by
  obtain ⟨v', w', hr, h2, h3, _, h5⟩ := run_append_own_at (P := P) (w := w) base t o.type e i z size bytes ht hi hz hsize hby hzs hsz v n xs hown ad m c news hl hnews h1 h63 hbytes hbase
  rw [if_pos (by simp [Region.wanted, hgd])]
  exact Lib.wp_append_run w s x t t ho _ _ hs hx _ _ hr (h v' w' h2 h3 h5)
theorem infoData : (Try.prog.info? 37).map (fun i => (i.zero, i.size, i.bytes)) = some (some (.agg #[.string ⟨#[]⟩, .slice none 0 0]), 2, 40) := by kernel_rfl

end Go.Proofs.Ytphlokjhfbfogaa
