/- Names that differ; the law DatasNames. -/
import Derived.Test.YtphlokjhfbfogaaZU
set_option linter.unusedVariables false
set_option linter.unusedSimpArgs false
namespace Go.Proofs.Ytphlokjhfbfogaa
open Go.RowKit Go.Shelf

namespace Dt
theorem seq_self (a : ByteArray) : seq a a = true := by unfold seq; simp
theorem seq_comm (a b : ByteArray) : seq a b = seq b a := by unfold seq; exact Bool.beq_comm
theorem inS_app (S T : List ByteArray) (x : ByteArray) : inS (S ++ T) x = (inS S x || inS T x) := by unfold inS; exact List.any_append
theorem inS_mem {S : List ByteArray} {x y : ByteArray} (h : inS S x = false) (hy : y ∈ S) : seq y x = false := by
  unfold inS at h
  rw [List.any_eq_false] at h
  simpa using h y hy
theorem twice_of_check {d : List DataM} (h : check d = 0) : twice d = false := by
  unfold check at h
  split at h
  · omega
  · split at h
    · omega
    · split at h
      · omega
      · next h4 => simpa using h4
theorem twF_names : ∀ (l : List DataM) (T S : List ByteArray), twF T S l = false → ∀ i (h : i < l.length), inS (T ++ (l.take i).map (·.name)) l[i].name = false
  | [], T, S, h, i, hi => by simp at hi
  | x :: l, T, S, h, i, hi => by
    unfold twF at h
    split at h
    · cases h
    · next h1 =>
      split at h
      · cases h
      · next S' hS =>
        cases i with
        | zero => simpa using h1
        | succ i =>
          have := twF_names l (T ++ [x.name]) S' h i (by simpa using hi)
          simpa using this
theorem conStep_some : ∀ (cs : List ConM) (S S' : List ByteArray), conStep S cs = some S' → S' = S ++ cs.map (·.name) ∧ ∀ k (h : k < cs.length), inS (S ++ (cs.take k).map (·.name)) cs[k].name = false
  | [], S, S', h => by
    unfold conStep at h
    cases h
    exact ⟨by simp, fun k hk => by simp at hk⟩
  | c :: cs, S, S', h => by
    unfold conStep at h
    split at h
    · cases h
    · next h1 =>
      obtain ⟨e, hh⟩ := conStep_some cs (S ++ [c.name]) S' h
      refine ⟨by rw [e]; simp, fun k hk => ?_⟩
      cases k with
      | zero => simpa using h1
      | succ k =>
        have := hh k (by simpa using hk)
        simpa using this
theorem twF_con : ∀ (l : List DataM) (T S : List ByteArray) (s : Int), twF T S l = false → ∀ i (h : i < l.length) k (hk : k < l[i].cons.length), inS S l[i].cons[k].name = false ∧ conFrom l[i].cons[k].name l s = (s + i + 1, (k : Int), true)
  | [], T, S, s, h, i, hi, k, hk => by simp at hi
  | x :: l, T, S, s, h, i, hi, k, hk => by
    unfold twF at h
    split at h
    · cases h
    · split at h
      · cases h
      · next S' hS =>
        obtain ⟨e, hh⟩ := conStep_some x.cons S S' hS
        cases i with
        | zero =>
          have hk2 : k < x.cons.length := by simpa using hk
          have h1 := hh k hk2
          show inS S x.cons[k].name = false ∧ conFrom x.cons[k].name (x :: l) s = _
          rw [inS_app, Bool.or_eq_false_iff] at h1
          refine ⟨h1.1, ?_⟩
          have hf : fidx (fun c => seq c.name x.cons[k].name) x.cons = k := by
            refine fidx_hit _ _ k hk2 (seq_self _) (fun j hj => ?_)
            refine inS_mem h1.2 ?_
            rw [List.mem_map]
            exact ⟨x.cons[j], by rw [List.mem_take_iff_getElem]; exact ⟨j, by omega, rfl⟩, rfl⟩
          unfold conFrom
          rw [hf, if_pos (by omega)]
          simp
        | succ i =>
          have hi2 : i < l.length := by simpa using hi
          have hk2 : k < l[i].cons.length := by simpa using hk
          obtain ⟨h1, h2⟩ := twF_con l (T ++ [x.name]) S' (s + 1) h i hi2 k hk2
          show inS S l[i].cons[k].name = false ∧ conFrom l[i].cons[k].name (x :: l) s = _
          rw [e, inS_app, Bool.or_eq_false_iff] at h1
          refine ⟨h1.1, ?_⟩
          have hf : fidx (fun c => seq c.name l[i].cons[k].name) x.cons = -1 := by
            refine fidx_miss _ _ (fun j hj => ?_)
            refine inS_mem h1.2 ?_
            rw [List.mem_map]
            exact ⟨x.cons[j], List.getElem_mem hj, rfl⟩
          unfold conFrom
          rw [hf, if_neg (by omega), h2]
          simp
          omega
theorem typeOf_own {d : List DataM} (h : twice d = false) (i : Nat) (hi : i < d.length) : typeOf d d[i].name = ((i : Int) + 1, true) := by
  have h1 := twF_names d [intN] [] h i hi
  rw [inS_app, Bool.or_eq_false_iff] at h1
  have h2 : seq d[i].name intN = false := by rw [seq_comm]; exact inS_mem h1.1 (by simp)
  have hf : fidx (fun x => seq x.name d[i].name) d = i := by
    refine fidx_hit _ _ i hi (seq_self _) (fun j hj => ?_)
    refine inS_mem h1.2 ?_
    rw [List.mem_map]
    exact ⟨d[j], by rw [List.mem_take_iff_getElem]; exact ⟨j, by omega, rfl⟩, rfl⟩
  unfold typeOf
  rw [h2, hf]
  simp
theorem conOf_own {d : List DataM} (h : twice d = false) (i : Nat) (hi : i < d.length) (k : Nat) (hk : k < d[i].cons.length) : conOf d d[i].cons[k].name = ((i : Int) + 1, (k : Int), true) := by
  have := (twF_con d [intN] [] 0 h i hi k hk).2
  unfold conOf
  rw [this]
  simp
theorem nameOf_own {d : List DataM} (i : Nat) (hi : i < d.length) : nameOf d ((i : Int) + 1) = d[i].name := by
  have h1 : ok d ((i : Int) + 1) = true := by simp [ok]; omega
  have h2 : ((i : Int) + 1 - 1).toNat = i := by omega
  unfold nameOf
  rw [if_neg (by omega), if_pos h1, h2, List.getElem?_eq_getElem hi]
  rfl
end Dt


end Go.Proofs.Ytphlokjhfbfogaa
