/- What strings.Join does with a space between names. What Text does. -/
import Derived.Test.YteidhlfiofiocabBld
import Derived.Test.YteidhlfiofiocabZY
import Derived.Deep.QuietTactic
import Derived.BigQuiet
import Derived.Test.YteidhlfiofiocabSI
import Derived.Test.YteidhlfiofiocabZEM
import Derived.Test.YteidhlfiofiocabYX
set_option linter.unusedVariables false
set_option linter.unusedSimpArgs false
namespace Go.Proofs.Yteidhlfiofiocab
open Go.RowKit Go.Shelf

set_option maxRecDepth 100000 in
set_option maxHeartbeats 3200000 in
theorem Grow_new (b n : Nat) (B : Nat) (w : World) (hB : B ≤ b) (hbk : w.heap[b]? = some (.cells #[.pointer none, .slice none 0 0] 57 (0, 0))) (hBw : B ≤ w.heap.size) (h0 : 0 < n) (hn : n ≤ 100000000) :
    Calls Try.prog 16 #[.pointer (some ⟨b, 0, none⟩), .int .i64 n] w fun e w' => e = .returned (.tuple #[]) ∧ (Lib.BuilderAt 57 5 B b (.pointer (some ⟨b, 0, none⟩)) [] w' ∧ Below B w w') := by
  have HCC := Lib.hid (copyCheck_fresh b w (by rw [Lib.cell_of_heap hbk]; rfl) (by simp [World.shape?, hbk]) (Lib.frozen_of_heap hbk 0))
  have hbk1 : (w.setCell ⟨b, 0, none⟩ (.pointer (some ⟨b, 0, none⟩))).heap[b]? = some (.cells #[.pointer (some ⟨b, 0, none⟩), .slice none 0 0] 57 (0, 0)) := by
    simp [World.setCell, Array.getElem?_modify, hbk]
  have hsz : (w.setCell ⟨b, 0, none⟩ (.pointer (some ⟨b, 0, none⟩))).heap.size = w.heap.size := by simp [World.setCell]
  have HB1 := Lib.hid ((Below.refl B w).setCell (p := ⟨b, 0, none⟩) hB (.pointer (some ⟨b, 0, none⟩)))
  generalize w.setCell ⟨b, 0, none⟩ (.pointer (some ⟨b, 0, none⟩)) = W1 at hbk1 hsz HB1 HCC
  have HG : Hid (∀ W : World, W.heap[b]? = W1.heap[b]? → W.heap.size = W1.heap.size → Calls Try.prog 28 #[.pointer (some ⟨b, 0, none⟩), .int .i64 n] W fun e w' => e = .returned (.tuple #[]) ∧ (Lib.BuilderAt 57 5 B b (.pointer (some ⟨b, 0, none⟩)) [] w' ∧ Below B W w')) :=
    Lib.hid fun W h1 h2 => Try.Builder_grow_fresh B b n W hB (h1.trans hbk1) (by rw [h2, hsz]; exact hBw) (by omega)
  have c1 : W1.cell? ⟨b, 1, none⟩ = some (.slice none 0 0) := by rw [Lib.cell_of_heap hbk1]; rfl
  have hpos : ¬ (n : Int) < 0 := by omega
  have hpos2 : (0 : Int) < n := by omega
  clear hbk hbk1
  go_enter Try.func16, Try.ntmps16
  go_wp2_with fail
  refine HCC.out.mono ?_
  rintro e w' ⟨rfl, h⟩
  rw [h]
  clear h w'
  go_wp2
  go_quiet ((fail))
  have HQ := Lib.hid (HB1.out.trans ((below_drewNg W1 nq).mono (by rw [hsz]; exact hBw)))
  have HGC := Lib.hid (HG.out (W1.drewN nq) rfl rfl)
  generalize W1.drewN nq = W2 at HQ HGC ⊢
  clear c1
  go_wp2_with fail
  refine HGC.out.mono ?_
  rintro e w3 ⟨rfl, h1, h2⟩
  have H1 := Lib.hid h1
  have H2 := Lib.hid (HQ.out.trans h2)
  clear h1 h2
  go_wp2
  go_end0
  exact ⟨rfl, H1.out, H2.out⟩

/-- The bytes of names with a space between each two. -/
def jtl (l : List ByteArray) : List UInt8 := l.flatMap (fun y => 32 :: y.data.toList)
def jnl : List ByteArray → List UInt8
  | [] => []
  | x :: r => x.data.toList ++ jtl r
theorem jtl_snoc (l : List ByteArray) (y : ByteArray) : jtl (l ++ [y]) = jtl l ++ 32 :: y.data.toList := by simp [jtl]
def lens (l : List ByteArray) : Nat := (l.map ByteArray.size).sum
theorem lens_snoc (l : List ByteArray) (y : ByteArray) : lens (l ++ [y]) = lens l + y.size := by simp [lens]
theorem lens_le {l : List ByteArray} (h : ∀ x ∈ l, x.size ≤ 1000) : lens l ≤ 1000 * l.length := by
  induction l with
  | nil => simp [lens]
  | cons x l ih =>
    have h1 := h x (by simp)
    have h2 := ih (fun y hy => h y (by simp [hy]))
    simp [lens] at h2 ⊢
    omega
theorem jtl_len {l : List ByteArray} (h : ∀ x ∈ l, x.size ≤ 1000) : (jtl l).length ≤ 1001 * l.length := by
  induction l with
  | nil => simp [jtl]
  | cons x l ih =>
    have h1 := h x (by simp)
    have h2 := ih (fun y hy => h y (by simp [hy]))
    have h3 : x.data.toList.length = x.size := by rw [Array.length_toList]; rfl
    simp [jtl] at h2 ⊢
    have h4 : x.data.size = x.size := rfl
    omega
theorem jnl_snoc (l : List ByteArray) (y : ByteArray) : jnl (l ++ [y]) = if l = [] then y.data.toList else jnl l ++ 32 :: y.data.toList := by
  cases l with
  | nil => simp [jnl, jtl]
  | cons a r => rw [if_neg (by simp)]; show a.data.toList ++ jtl (r ++ [y]) = _; rw [jtl_snoc]; simp [jnl]

theorem SsAt.keep {w w' : World} {v : Value} {l : List ByteArray} {B : Nat} (h : SsAt w v l) (hb : Below B w w') (hB : w.heap.size ≤ B) : SsAt w' v l := by
  obtain ⟨ad, n, cap, rfl, hn, h⟩ := h
  refine ⟨ad, n, cap, rfl, hn, ?_⟩
  rcases h with h | ⟨b, off, rfl, h1, h2⟩
  · exact .inl h
  · exact .inr ⟨b, off, rfl, Nat.lt_of_lt_of_le h1 hb.size, fun i hi => (hb.cell (p := ⟨b, off + i, none⟩) (Nat.lt_of_lt_of_le h1 hB)).trans (h2 i hi)⟩

set_option maxRecDepth 100000 in
set_option maxHeartbeats 1600000 in
theorem Join_none (ad : Option Addr) (cap : Nat) (w : World) :
    Calls Try.prog 11 #[.slice ad 0 cap, .string ⟨#[32]⟩] w fun e w' => e = .returned (.string ⟨#[]⟩) ∧ w' = w := by
  go_enter Try.func11, Try.ntmps11
  go_wp2
  go_ret
  exact ⟨rfl, rfl⟩
set_option maxRecDepth 100000 in
set_option maxHeartbeats 1600000 in
theorem Join_one (b off cap : Nat) (x : ByteArray) (w : World) (hc : w.cell? ⟨b, off, none⟩ = some (.string x)) :
    Calls Try.prog 11 #[.slice (some ⟨b, off, none⟩) 1 cap, .string ⟨#[32]⟩] w fun e w' => e = .returned (.string x) ∧ w' = w := by
  go_enter Try.func11, Try.ntmps11
  go_wp2
  go_ret
  exact ⟨rfl, rfl⟩

set_option maxRecDepth 100000 in
set_option maxHeartbeats 12800000 in
theorem Join_many (v : Value) (x0 : ByteArray) (r : List ByteArray) (w : World) (hv : SsAt w v (x0 :: r)) (hr : 1 ≤ r.length) (hn : r.length ≤ 20000) (hs : ∀ x ∈ x0 :: r, x.size ≤ 1000) (hfit : ∃ a n c, v = .slice a n c ∧ n ≤ c) :
    Calls Try.prog 11 #[v, .string ⟨#[32]⟩] w fun e w' => e = .returned (.string ⟨(jnl (x0 :: r)).toArray⟩) ∧ Below w.heap.size w w' := by
  obtain ⟨ad, cap, rfl⟩ := hv.slice
  obtain ⟨a', n', c', e, hfit⟩ := hfit
  cases e
  obtain ⟨m, hm⟩ : ∃ m, r.length = m := ⟨_, rfl⟩
  have hlen : (x0 :: r).length = m + 1 := by rw [List.length_cons, hm]
  rw [hlen] at hv hfit ⊢
  obtain ⟨n, hn1⟩ : ∃ n, m + 1 = n := ⟨_, rfl⟩
  rw [hn1] at hv hfit ⊢
  have HV := Lib.hid hv
  have HM := Lib.hid hm
  have HLN : Hid ((x0 :: r).length = n) := Lib.hid (by rw [hlen, hn1])
  have HSZ := Lib.hid hs
  have HN1 := Lib.hid hn1
  obtain ⟨b, off, rfl, hb, c0⟩ := hv.at 0 (by simp)
  have hm1 : 1 ≤ m := by omega
  have hm2 : m ≤ 20000 := by omega
  have hn2 : n ≤ 20001 := by omega
  have hne0 : ((n : Int) == 0) = false := beq_eq_false_iff_ne.2 (by omega)
  have hne1 : ((n : Int) == 1) = false := beq_eq_false_iff_ne.2 (by omega)
  have hnm : (n : Int) - 1 = (m : Int) := by omega
  obtain ⟨Q, hQ⟩ : ∃ Q : Int, (9223372036854775807 : Int) / (m : Int) = Q := ⟨_, rfl⟩
  have hQ2 : 2 ≤ Q := by
    rw [← hQ]
    exact (Int.le_ediv_iff_mul_le (by omega)).2 (by omega)
  have hQn : ¬ Q ≤ 1 := by omega
  have hTot := lens_le hs
  rw [hlen] at hTot
  have hss : (⟨#[32]⟩ : ByteArray).size = 1 := rfl
  clear hv hlen hm hs hn1
  go_enter Try.func11, Try.ntmps11
  go_wp2
  clear c0 hQ hne0 hne1 hnm
  go_loop [5, 41] (fun z i => ∃ k z' : Nat, k ≤ n ∧ i = .int .i64 k ∧ z = .int .i64 z' ∧ Hid (z' = m + lens ((x0 :: r).take k))) (fun _ i => n - (intOf i).toNat)
  case atStart => exact ⟨0, m, Nat.zero_le _, rfl, rfl, Lib.hid (by simp [lens])⟩
  case round =>
    obtain ⟨k, z', hk, rfl, rfl, HZ⟩ := hrel
    by_cases hlt : k < n
    · have hltz : (k : Int) < (n : Int) := by omega
      have hkl : k < (x0 :: r).length := by rw [HLN.out]; exact hlt
      obtain ⟨b', off', e, hb', c0⟩ := HV.out.at k hkl
      cases e
      obtain ⟨y, hy⟩ : ∃ y, (x0 :: r)[k] = y := ⟨_, rfl⟩
      rw [hy] at c0
      have hys : y.size ≤ 1000 := by rw [← hy]; exact HSZ.out _ (List.getElem_mem hkl)
      have hzb : z' ≤ 30000000 := by
        have h1 := lens_le (l := (x0 :: r).take k) (fun x hx => HSZ.out x (List.mem_of_mem_take hx))
        have h2 : ((x0 :: r).take k).length ≤ k := by rw [List.length_take]; exact Nat.min_le_left _ _
        rw [HZ.out]
        omega
      have HTK : Hid (z' + y.size = m + lens ((x0 :: r).take (k + 1))) := Lib.hid (by rw [← List.take_append_getElem hkl, lens_snoc, hy, HZ.out]; omega)
      clear hy hkl
      go_wp2
      go_round
      case rel => exact ⟨k + 1, z' + y.size, by omega, by go_num, by first | rfl | go_num, HTK⟩
      case measure => simp [intOf]; omega
    · obtain rfl : n = k := by omega
      have hnn : ¬ (n : Int) < n := by omega
      have hfull : (x0 :: r).take n = x0 :: r := List.take_of_length_le (by rw [HLN.out]; exact Nat.le_refl _)
      have hz' : z' ≤ 30000000 := by have h1 := HZ.out; rw [hfull] at h1; omega
      have hn0 : 0 < n := by have h1 := HN1.out; omega
      have hcap1 : ¬ cap = 1 := by have h1 := HN1.out; omega
      have hz0 : 0 < z' := by have h1 := HZ.out; omega
      have hA := (Below.refl w.heap.size w).alloc (Nat.le_refl _) (.cells #[.pointer none, .slice none 0 0] 57)
      have HGR := Lib.hid (Grow_new w.heap.size z' w.heap.size (w.alloc (.cells #[.pointer none, .slice none 0 0] 57)) (Nat.le_refl _) (World.alloc_heap_new w _) (by simp) hz0 (by omega))
      have HA := Lib.hid hA
      clear hA hfull
      go_wp2_with fail
      refine HGR.out.mono ?_
      rintro e w1 ⟨rfl, h1, h2⟩
      have HB1 : Hid (Below w.heap.size w w1) := Lib.hid (HA.out.trans h2)
      have HBU1 : Hid (Lib.IsBuilder 57 5 w.heap.size w.heap.size [] w1) := Lib.hid (.inr h1)
      obtain ⟨b', off', e, hb', c0⟩ := HV.out.at 0 (by simp)
      cases e
      rw [List.getElem_cons_zero, Nat.add_zero] at c0
      replace c0 := (HB1.out.cell (p := ⟨b, off, none⟩) hb').trans c0
      have hx0s : x0.size ≤ 1000 := HSZ.out x0 (by simp)
      clear h1 h2 HGR HA
      go_wp2_with fail
      refine (WriteString_any w.heap.size w.heap.size [] x0 w1 HBU1.out (by simp; omega) HB1.out.size).mono ?_
      rintro e w2 ⟨rfl, h1, h2⟩
      have HB2 : Hid (Below w.heap.size w w2) := Lib.hid (HB1.out.trans h2)
      have HBU2 : Hid (Lib.IsBuilder 57 5 w.heap.size w.heap.size (Lib.byteCells (x0.data.toList ++ jtl (r.take 0))) w2) := Lib.hid (.inr (by rw [List.take_zero]; simpa [jtl, Lib.strCells_eq] using h1))
      have hn1c : (1 : Int) ≤ n := by omega
      clear h1 h2 c0
      go_wp2
      go_loopw [65] (fun i wr => ∃ k : Nat, k ≤ m ∧ i = .int .i64 k ∧ Hid (Lib.IsBuilder 57 5 w.heap.size w.heap.size (Lib.byteCells (x0.data.toList ++ jtl (r.take k))) wr) ∧ Hid (Below w.heap.size w wr)) (fun i _ => m - (intOf i).toNat)
      case atStart => exact ⟨0, Nat.zero_le _, rfl, HBU2, HB2⟩
      case round =>
        obtain ⟨k, hk, rfl, HBU, HB⟩ := hrel
        by_cases hlt2 : k < m
        · have hltz : (k : Int) < (m : Int) := by omega
          have hkl : k < r.length := by rw [HM.out]; exact hlt2
          have hkl1 : k + 1 < (x0 :: r).length := by rw [List.length_cons]; omega
          obtain ⟨b', off', e, hb', c0⟩ := HV.out.at (k + 1) hkl1
          cases e
          rw [List.getElem_cons_succ] at c0
          replace c0 := (HB.out.cell (p := ⟨b, off + (k + 1), none⟩) hb').trans c0
          have hadr : off + (k + 1) = off + 1 + k := by omega
          rw [hadr] at c0
          obtain ⟨y, hy⟩ : ∃ y, r[k] = y := ⟨_, rfl⟩
          rw [hy] at c0
          have hys : y.size ≤ 1000 := by rw [← hy]; exact HSZ.out _ (List.mem_cons_of_mem _ (List.getElem_mem hkl))
          have hjl : (x0.data.toList ++ jtl (r.take k)).length ≤ 30000000 := by
            have h1 := jtl_len (l := r.take k) (fun x hx => HSZ.out x (List.mem_cons_of_mem _ (List.mem_of_mem_take hx)))
            have h2 : (r.take k).length ≤ k := by rw [List.length_take]; exact Nat.min_le_left _ _
            have h3 : x0.data.toList.length = x0.size := by rw [Array.length_toList]; rfl
            have h4 := HSZ.out x0 (by simp)
            rw [List.length_append]
            omega
          obtain ⟨J, hJ⟩ : ∃ J, x0.data.toList ++ jtl (r.take k) = J := ⟨_, rfl⟩
          rw [hJ] at HBU hjl
          have HNX : Hid (x0.data.toList ++ jtl (r.take (k + 1)) = (J ++ [32]) ++ y.data.toList) := Lib.hid (by rw [← List.take_append_getElem hkl, jtl_snoc, hy, ← hJ]; simp)
          have hnm : (n : Int) - 1 = (m : Int) := by have h1 := HN1.out; omega
          have hk1 : k < n - 1 := by have h1 := HN1.out; omega
          have hk2 : (k : Int) < ((n - 1 : Nat) : Int) := by have h1 := HN1.out; omega
          have hk3 : (k : Int) < (n : Int) - 1 := by omega
          clear hy hJ hadr hkl hkl1 hnm
          go_wp2_with fail
          refine (WriteString_any w.heap.size w.heap.size (Lib.byteCells J) ⟨#[32]⟩ wr HBU.out (by rw [Lib.byteCells_length, hss]; omega) HB.out.size).mono ?_
          rintro e w3 ⟨rfl, h1, h2⟩
          have HB3 : Hid (Below w.heap.size w w3) := Lib.hid (HB.out.trans h2)
          have HBU3 : Hid (Lib.IsBuilder 57 5 w.heap.size w.heap.size (Lib.byteCells (J ++ [32])) w3) := Lib.hid (.inr (by rw [Lib.byteCells_append]; exact h1))
          clear h1 h2 HBU
          go_wp2_with fail
          refine (WriteString_any w.heap.size w.heap.size (Lib.byteCells (J ++ [32])) y w3 HBU3.out (by rw [Lib.byteCells_length, List.length_append]; simp; omega) HB3.out.size).mono ?_
          rintro e w4 ⟨rfl, h1, h2⟩
          have HB4 : Hid (Below w.heap.size w w4) := Lib.hid (HB3.out.trans h2)
          have HBU4 : Hid (Lib.IsBuilder 57 5 w.heap.size w.heap.size (Lib.byteCells (x0.data.toList ++ jtl (r.take (k + 1)))) w4) := Lib.hid (.inr (by rw [HNX.out, Lib.byteCells_append]; exact h1))
          clear h1 h2 HBU3 c0
          go_wp2
          go_roundw
          case rel => exact ⟨k + 1, by omega, by go_num, HBU4, HB4⟩
          case measure => simp [intOf]; omega
        · obtain rfl : m = k := by omega
          have hnn2 : ¬ (m : Int) < m := by omega
          have hk1 : ¬ m < n - 1 := by have h1 := HN1.out; omega
          have hk2 : ¬ (m : Int) < ((n - 1 : Nat) : Int) := by have h1 := HN1.out; omega
          have hk3 : ¬ (m : Int) < (n : Int) - 1 := by have h1 := HN1.out; omega
          have HBF : Hid (Lib.IsBuilder 57 5 w.heap.size w.heap.size (Lib.byteCells (jnl (x0 :: r))) wr) := Lib.hid (by
            have h := HBU.out
            rw [List.take_of_length_le (by rw [HM.out]; exact Nat.le_refl _)] at h
            exact h)
          clear HBU
          go_wp2_with fail
          refine (Try.Builder_String_any w.heap.size w.heap.size (jnl (x0 :: r)) wr HBF.out HB.out.size).mono ?_
          rintro e w3 ⟨rfl, h2⟩
          have HB3 : Hid (Below w.heap.size w w3) := Lib.hid (HB.out.trans h2)
          clear h2
          go_wp2
          go_ret
          exact ⟨rfl, HB3.out⟩

theorem jn_one (x : ByteArray) : (⟨(jnl [x]).toArray⟩ : ByteArray) = x := by
  apply ByteArray.ext
  simp [jnl, jtl]

/-- strings.Join with a space. -/
theorem Join_any (v : Value) (l : List ByteArray) (w : World) (hv : SsAt w v l) (hn : l.length ≤ 20000) (hs : ∀ x ∈ l, x.size ≤ 1000) (hfit : ∃ a n c, v = .slice a n c ∧ n ≤ c) :
    Calls Try.prog 11 #[v, .string ⟨#[32]⟩] w fun e w' => e = .returned (.string ⟨(jnl l).toArray⟩) ∧ Below w.heap.size w w' := by
  match l, hv, hn, hs with
  | [], hv, _, _ =>
    obtain ⟨ad, cap, rfl⟩ := hv.slice
    refine (Join_none ad cap w).mono ?_
    rintro e w' ⟨rfl, rfl⟩
    exact ⟨rfl, Below.refl _ _⟩
  | [x], hv, _, _ =>
    obtain ⟨ad, cap, rfl⟩ := hv.slice
    obtain ⟨b, off, rfl, hb, c0⟩ := hv.at 0 (by simp)
    refine (Join_one b off cap x w c0).mono ?_
    rintro e w' ⟨rfl, rfl⟩
    exact ⟨by rw [jn_one], Below.refl _ _⟩
  | x :: y :: r, hv, hn, hs => exact Join_many v x (y :: r) w hv (by simp) (by simp at hn ⊢; omega) hs hfit

end Go.Proofs.Yteidhlfiofiocab
set_option linter.unusedVariables false
set_option linter.unusedSimpArgs false
namespace Go.Proofs.Yteidhlfiofiocab
open Go.RowKit Go.Shelf Go.Maps

/-- The name of the constructor of a place; the text of a shape. -/
def Dt.nmOf (d : List DataM) (p : Int × Int) : ByteArray := (((Dt.consOf d p.1)[p.2.toNat]?).map (·.name)).getD ⟨#[]⟩
noncomputable def Dt.txt (d : List DataM) (t : Int) : ByteArray := if Dt.shErr d [t] = 0 then ⟨(jnl ((Dt.places d t).map (Dt.nmOf d))).toArray⟩ else ⟨#[]⟩
theorem Dt.nmOf_size {d : List DataM} (hd : Sm d) (p : Int × Int) : (Dt.nmOf d p).size ≤ 1000 := by
  unfold Dt.nmOf
  cases h : (Dt.consOf d p.1)[p.2.toNat]? with
  | none => exact Nat.zero_le _
  | some c =>
    obtain ⟨x, hx, hcx⟩ := consOf_mem (List.mem_of_getElem? h)
    have := ((hd.2 x hx).2.2 c hcx).1
    simp
    omega
theorem Sw.fits {B : Nat} {W : World} {v : Value} {l : List ByteArray} (h : Sw B W v l) : ∃ a n c, v = .slice a n c ∧ n ≤ c := by
  rcases h.2 with ⟨hv, h0⟩ | ⟨g, cap, cur, hv, hg, hgb, hnc, _⟩
  · exact ⟨_, _, _, hv, Nat.le_refl _⟩
  · exact ⟨_, _, _, hv, hnc⟩

/-- What lies at a place of a shape. -/
theorem place_at {w : World} {ad : Option Addr} {n cap : Nat} {d : List DataM} {p : Int × Int} (hv : DsAt w (.slice ad n cap) d) (hp : Dt.nf d p.1 = true) (h1 : 0 ≤ p.2) (h2 : p.2 < (Dt.consOf d p.1).length) :
    ∃ (k j : Nat) (b off b2 off2 q : Nat) (fc : Nat), p.1 = k + 1 ∧ p.2 = j ∧ k < d.length ∧ j < q ∧ ad = some ⟨b, off, none⟩ ∧ b < w.heap.size ∧ b2 < w.heap.size ∧ w.cell? ⟨b, off + k * 2 + 1, none⟩ = some (.slice (some ⟨b2, off2, none⟩) q fc) ∧ w.cell? ⟨b2, off2 + j * 2, none⟩ = some (.string (Dt.nmOf d p)) := by
  have hok := Dt.nf_ok hp
  have h0 : p.1 ≠ 0 := by intro h; rw [h] at hp; simp [Dt.nf, Dt.consOf] at hp
  obtain ⟨k, y, b, off, fa, fc, hk, hkd, hy, hcons, _, hade, hb, c0, c1, hcs⟩ := typ_at hv hok h0
  rw [hcons] at h2
  obtain ⟨j, hj⟩ : ∃ j : Nat, p.2 = j := ⟨p.2.toNat, by omega⟩
  have hjl : j < y.cons.length := by omega
  obtain ⟨b2, off2, ga, gc, rfl, hb2, e0, e1, hfs⟩ := hcs.at j hjl
  refine ⟨k, j, b, off, b2, off2, y.cons.length, fc, hk, hj, hkd, hjl, hade, hb, hb2, c1, ?_⟩
  rw [e0]
  congr 2
  unfold Dt.nmOf
  rw [hcons, hj, show ((j : Int)).toNat = j by omega, List.getElem?_eq_getElem hjl]
  rfl

set_option maxRecDepth 100000 in
set_option maxHeartbeats 12800000 in
theorem Text_any (v : Value) (d : List DataM) (t : Int) (w : World) (hv : DsAt w v d) (hd : Sm d) (ht : In64 t) :
    Calls Try.prog 7 #[v, .int .i64 t] w fun e w' => e = .returned (.tuple #[.string (Dt.txt d t), .int .i64 (Dt.shErr d [t])]) ∧ Below w.heap.size w w' := by
  obtain ⟨E, hE⟩ : ∃ E, Dt.shErr d [t] = E := ⟨_, rfl⟩
  have hA := (Below.refl w.heap.size w).alloc (Nat.le_refl _) (.cells #[.int .i64 t] 23)
  have HA := Lib.hid hA
  have HV := Lib.hid hv
  have HD := Lib.hid hd
  have HT := Lib.hid ht
  have HE := Lib.hid hE
  have HCK := Lib.hid (shCheck_any v (.slice (some ⟨w.heap.size, 0, none⟩) 1 1) d [t] E (w.alloc (.cells #[.int .i64 t] 23)) (hv.keep hA (Nat.le_refl _)) (fs_one w t) hd (by simp) HE)
  obtain ⟨ad, cap, hvE⟩ := hv.slice
  obtain ⟨n, hn⟩ : ∃ n, d.length = n := ⟨_, rfl⟩
  rw [hn] at hvE
  have HN := Lib.hid hn
  have hn100 : n ≤ 100 := by rw [← hn]; exact hd.1
  subst hvE
  clear hv hd ht hA hn
  by_cases h0 : E = 0
  · subst h0
    have h1 := Dt.shErr_zero HE.out
    have HTY := Lib.hid (Dt.typed_of_check0 h1.1)
    have HOK := Lib.hid (h1.2 t (by simp))
    obtain ⟨P, hP⟩ : ∃ P, Dt.places d t = P := ⟨_, rfl⟩
    have HX : Hid (Dt.txt d t = ⟨(jnl (P.map (Dt.nmOf d))).toArray⟩) := Lib.hid (by unfold Dt.txt; rw [HE.out, if_pos rfl, hP])
    have HPM : Hid (∀ p ∈ P, Dt.nf d p.1 = true ∧ 0 ≤ p.2 ∧ p.2 < (Dt.consOf d p.1).length) := Lib.hid (by
      rw [← hP]
      intro p hp
      obtain ⟨a, b, c⟩ := Dt.mem_places.1 hp
      exact ⟨Dt.contents_nf a, b, c⟩)
    have hPl : P.length ≤ 10100 := by rw [← hP]; exact Dt.places_few HD.out t
    have HPW : Hid (∀ W : World, DsAt W (.slice ad n cap) d → Calls Try.prog 10 #[.slice ad n cap, .int .i64 t] W fun e w' => (∃ u, e = .returned u ∧ PsAt w' u P) ∧ Below W.heap.size W w') := Lib.hid fun W h => by rw [← hP]; exact places_any _ d t W h HD.out HTY.out HT.out HOK.out
    obtain ⟨m, hm⟩ : ∃ m, P.length = m := ⟨_, rfl⟩
    rw [hm] at hPl
    have HM := Lib.hid hm
    obtain ⟨i0, hi, hz0, hz1, hz2⟩ := info_parts infoStr
    have HI := Lib.hid hi
    have HZ0 := Lib.hid hz0
    have HZ1 := Lib.hid hz1
    have HZ2 := Lib.hid hz2
    rw [hE, HX.out]
    clear h1 hP hm hi hz0 hz1 hz2 hE
    go_enter Try.func7, Try.ntmps7
    go_wp2_with fail
    refine HCK.out.mono ?_
    rintro e w1 ⟨rfl, hb⟩
    have HB1 := Lib.hid (HA.out.trans (hb.mono HA.out.size))
    clear hb HCK HA
    go_wp2_with fail
    refine (HPW.out w1 (HV.out.keep HB1.out (Nat.le_refl _))).mono ?_
    rintro e w2 ⟨⟨u, rfl, hu⟩, hb⟩
    have HB2 := Lib.hid (HB1.out.trans (hb.mono HB1.out.size))
    obtain ⟨ua, uc, rfl⟩ := hu.slice
    rw [HM.out] at hu ⊢
    have HU := Lib.hid hu
    have HV2 := Lib.hid (HV.out.keep HB2.out (Nat.le_refl _))
    have HR0 : Hid (Sw w2.heap.size w2 (.slice none 0 0) ((P.take 0).map (Dt.nmOf d))) := Lib.hid (World.ownsRow_nil _ _ _ _)
    clear hb hu HPW
    go_wp2
    go_loopw [7, 21] (fun v i wr => ∃ c : Nat, c ≤ m ∧ i = .int .i64 c ∧ Hid (Sw w2.heap.size wr v ((P.take c).map (Dt.nmOf d))) ∧ Hid (Below w2.heap.size w2 wr)) (fun _ i _ => m - (intOf i).toNat)
    case atStart => exact ⟨0, Nat.zero_le _, rfl, HR0, Lib.hid (Below.refl _ _)⟩
    case round =>
      obtain ⟨c, hc, rfl, HR, HB⟩ := hrel
      by_cases hlt : c < m
      · have hltz : (c : Int) < (m : Int) := by omega
        have hcl : c < P.length := by rw [HM.out]; exact hlt
        obtain ⟨pb, po, rfl, hpb, p0, p1⟩ := (HU.out.keep HB.out (Nat.le_refl _)).at c hcl
        obtain ⟨x1, x2, hx⟩ : ∃ x1 x2, P[c] = (x1, x2) := ⟨_, _, rfl⟩
        obtain ⟨h1, h2, h3⟩ := HPM.out P[c] (List.getElem_mem hcl)
        obtain ⟨k, j, b, off, b2, off2, q, fc, hk, hj, hkd, hjq, hade, hb, hb2, e0, e1⟩ := place_at HV2.out h1 h2 h3
        replace e0 := (HB.out.cell (p := ⟨b, off + k * 2 + 1, none⟩) hb).trans e0
        replace e1 := (HB.out.cell (p := ⟨b2, off2 + j * 2, none⟩) hb2).trans e1
        have HBL := Lib.hid (And.intro hb hb2)
        replace hb := Nat.lt_of_lt_of_le hb HB.out.size
        replace hb2 := Nat.lt_of_lt_of_le hb2 HB.out.size
        have htk : P.take (c + 1) = P.take c ++ [P[c]] := (List.take_append_getElem hcl).symm
        obtain ⟨nm, hnm⟩ : ∃ nm, Dt.nmOf d P[c] = nm := ⟨_, rfl⟩
        rw [hnm] at e1
        obtain ⟨now, hnow⟩ : ∃ now, (P.take c).map (Dt.nmOf d) = now := ⟨_, rfl⟩
        have HTK : Hid ((P.take (c + 1)).map (Dt.nmOf d) = now ++ [nm]) := Lib.hid (by rw [htk, List.map_append, hnow, List.map_cons, List.map_nil, hnm])
        have hnl : now.length ≤ 10100 := by rw [← hnow, List.length_map, List.length_take]; omega
        rw [hx] at p0 p1 hk hj
        dsimp only at p0 p1 hk hj
        subst hade
        subst hk hj
        rw [HN.out] at hkd
        rw [hnow] at HR
        obtain ⟨na, nc, rfl⟩ := HR.out.strings.slice
        obtain ⟨nn, hnn⟩ : ∃ nn, now.length = nn := ⟨_, rfl⟩
        have hrw : wr.ownsRow w2.heap.size 9 1 (.slice na nn nc) nn (strs now) := by have h := HR.out; unfold Sw at h; rw [hnn] at h; exact h
        rw [hnn] at hnl ⊢
        have HNN := Lib.hid hnn
        have hkb : k ≤ 100000 := by omega
        have hnnb : nn + 1 ≤ maxLen ∧ (nn + 1) * 16 ≤ 140737488355328 := by unfold maxLen; omega
        have HNB := Lib.hid hnnb
        clear hnnb
        have hkz : (k : Int) < (n : Int) := by omega
        have hjz : (j : Int) < (q : Int) := by omega
        have hj0 : (0 : Int) ≤ j := by omega
        have hk0 : (0 : Int) ≤ k := by omega
        have hk1 : (k : Int) + 1 - 1 = k := by omega
        have hw1 : wrap64 ((k : Int) + 1 - 1) = k := by rw [hk1]; exact wrap_k k hkb
        have hw2 : IntKind.i64.wrap ((k : Int) + 1 - 1) = k := by rw [hk1]; exact wrap_k' k hkb
        clear hk1
        have hA3 := (Below.refl wr.heap.size wr).alloc (Nat.le_refl _) (.cells #[.int .i64 ((k : Int) + 1), .int .i64 j] 46)
        have HB3 := Lib.hid (HB.out.trans (hA3.mono HB.out.size))
        have HRL : Hid (∀ g, (Value.slice na nn nc).ownBlock = some g → w2.heap.size ≤ g ∧ g < wr.heap.size) := Lib.hid (fun g e => hrw.lt g e)
        have HR3 := Lib.hid (hrw.alloc (.cells #[.int .i64 ((k : Int) + 1), .int .i64 j] 46))
        have f0 := (hA3.cell (p := ⟨b, off + k * 2 + 1, none⟩) hb).trans e0
        have f1 := (hA3.cell (p := ⟨b2, off2 + j * 2, none⟩) hb2).trans e1
        have f2 : (wr.alloc (.cells #[.int .i64 ((k : Int) + 1), .int .i64 j] 46)).cell? ⟨wr.heap.size, 0, none⟩ = some (.int .i64 ((k : Int) + 1)) := by simp
        have f3 : (wr.alloc (.cells #[.int .i64 ((k : Int) + 1), .int .i64 j] 46)).cell? ⟨wr.heap.size, 1, none⟩ = some (.int .i64 j) := by simp
        clear hx h1 h2 h3 htk hnm hnow hnn hrw hcl hA3
        go_wp2
        clear p0 p1 e0 e1
        obtain ⟨bx, hbx⟩ : ∃ bx, wr.heap.size = bx := ⟨_, rfl⟩
        have HBXE := Lib.hid hbx
        rw [hbx] at f2 f3 ⊢
        generalize wr.alloc (.cells #[.int .i64 ((k : Int) + 1), .int .i64 j] 46) = W3 at HB3 HR3 f0 f1 f2 f3 ⊢
        clear hw1 hw2
        have HGL : Hid (∀ g, (Value.slice na nn nc).ownBlock = some g → w2.heap.size ≤ g ∧ g < bx) := Lib.hid (fun g e => by rw [← hbx]; exact HRL.out g e)
        have hw3 : wrap64 (k : Int) = k := wrap_k k hkb
        have hw4 : IntKind.i64.wrap (k : Int) = k := wrap_k' k hkb
        have hbxl : bx < W3.heap.size := World.block_lt_of_cell? _ _ f2
        have hbl : b < W3.heap.size := World.block_lt_of_cell? _ _ f0
        have hb2l : b2 < W3.heap.size := World.block_lt_of_cell? _ _ f1
        clear hbx hb hb2
        have hA4 : Below W3.heap.size W3 (W3.alloc (.cells #[.string nm] 9)).drew := ((Below.refl W3.heap.size W3).alloc (Nat.le_refl _) _).drew
        have g0 := (hA4.cell (p := ⟨b, off + k * 2 + 1, none⟩) hbl).trans f0
        have g1 := (hA4.cell (p := ⟨b2, off2 + j * 2, none⟩) hb2l).trans f1
        have g2 := (hA4.cell (p := ⟨bx, 0, none⟩) hbxl).trans f2
        have g3 := (hA4.cell (p := ⟨bx, 1, none⟩) hbxl).trans f3
        have HB4 := Lib.hid (HB3.out.trans (hA4.mono HB3.out.size))
        have HR4 : Hid ((W3.alloc (.cells #[.string nm] 9)).drew.ownsRow w2.heap.size 9 1 (.slice na nn nc) nn (strs now)) := Lib.hid (own_keep HR3.out hA4)
        have HCN : Hid (∀ (i : Nat) (u : Value), [Value.string nm][i]? = some u → (W3.alloc (.cells #[.string nm] 9)).drew.cell? ((⟨W3.heap.size, 0, none⟩ : Addr).add i) = some u) := Lib.hid (fun i u h => cell_one_new W3 (.string nm) 9 i u h)
        have HSZ4 : Hid (w2.heap.size ≤ (W3.alloc (.cells #[.string nm] 9)).drew.heap.size) := Lib.hid HB4.out.size
        have HROW : Hid (∀ g, (Value.slice na nn nc).ownBlock = some g → w2.heap.size ≤ g) := Lib.hid (fun g e => (HR4.out.lt g e).1)
        clear hA4
        have hS0 : W3.drew.cell? ⟨b, off + k * 2 + 1, none⟩ = some (.slice (some ⟨b2, off2, none⟩) q fc) ∧ W3.drew.cell? ⟨b2, off2 + j * 2, none⟩ = some (.string nm) ∧ W3.drew.cell? ⟨bx, 0, none⟩ = some (.int .i64 ((k : Int) + 1)) ∧ W3.drew.cell? ⟨bx, 1, none⟩ = some (.int .i64 j) := ⟨f0, f1, f2, f3⟩
        have HS0 := Lib.hid hS0
        have HG4 := Lib.hid (And.intro g0 (And.intro g1 (And.intro g2 g3)))
        clear f0 f1 f2 f3 g0 g1 g2 g3 hS0
        refine region_plainX (S := fun W' => W'.cell? ⟨b, off + k * 2 + 1, none⟩ = some (.slice (some ⟨b2, off2, none⟩) q fc) ∧ W'.cell? ⟨b2, off2 + j * 2, none⟩ = some (.string nm) ∧ W'.cell? ⟨bx, 0, none⟩ = some (.int .i64 ((k : Int) + 1)) ∧ W'.cell? ⟨bx, 1, none⟩ = some (.int .i64 j)) (m := 15) (by kernel_rfl) ?_
        refine x_take (i := 0) (v := (.slice na nn nc)) rfl rfl (by kernel_rfl) (by kernel_rfl) (by kernel_rfl) (by kernel_rfl) (fun _ _ _ h => h) (.inl ⟨by rfl, ?_⟩) HS0.out ?_
        · intro w hSw; (try dsimp only at hSw); obtain ⟨hs1, hs2, hs3, hs4⟩ := hSw; go_simp
        simp only [Act.put, List.setIfInBounds_toArray, List.set_cons_zero, List.set_cons_succ]
        refine x_take (i := 1) (v := (.slice (some ⟨b, off, none⟩) n cap)) rfl rfl (by kernel_rfl) (by kernel_rfl) (by kernel_rfl) (by kernel_rfl) (fun _ _ _ h => h) (.inl ⟨by rfl, ?_⟩) HS0.out ?_
        · intro w hSw; (try dsimp only at hSw); obtain ⟨hs1, hs2, hs3, hs4⟩ := hSw; go_simp
        simp only [Act.put, List.setIfInBounds_toArray, List.set_cons_zero, List.set_cons_succ]
        refine x_take (i := 2) (v := (.pointer (some ⟨bx, 0, none⟩))) rfl rfl (by kernel_rfl) (by kernel_rfl) (by kernel_rfl) (by kernel_rfl) (fun _ _ _ h => h) (.inl ⟨by rfl, ?_⟩) HS0.out ?_
        · intro w hSw; (try dsimp only at hSw); obtain ⟨hs1, hs2, hs3, hs4⟩ := hSw; go_simp
        simp only [Act.put, List.setIfInBounds_toArray, List.set_cons_zero, List.set_cons_succ]
        refine x_take (i := 3) (v := (.int .i64 ((k : Int) + 1))) rfl rfl (by kernel_rfl) (by kernel_rfl) (by kernel_rfl) (by kernel_rfl) (fun _ _ _ h => h) (.inl ⟨by rfl, ?_⟩) HS0.out ?_
        · intro w hSw; (try dsimp only at hSw); obtain ⟨hs1, hs2, hs3, hs4⟩ := hSw; go_simp
        simp only [Act.put, List.setIfInBounds_toArray, List.set_cons_zero, List.set_cons_succ]
        refine x_take (i := 4) (v := (.int .i64 k)) rfl rfl (by kernel_rfl) (by kernel_rfl) (by kernel_rfl) (by kernel_rfl) (fun _ _ _ h => h) (.inl ⟨by rfl, ?_⟩) HS0.out ?_
        · intro w hSw; (try dsimp only at hSw); obtain ⟨hs1, hs2, hs3, hs4⟩ := hSw; go_simp
        simp only [Act.put, List.setIfInBounds_toArray, List.set_cons_zero, List.set_cons_succ]
        refine x_take (i := 5) (v := (.pointer (some ⟨b, off + k * 2, none⟩))) rfl rfl (by kernel_rfl) (by kernel_rfl) (by kernel_rfl) (by kernel_rfl) (fun _ _ _ h => h) (.inl ⟨by rfl, ?_⟩) HS0.out ?_
        · intro w hSw; (try dsimp only at hSw); obtain ⟨hs1, hs2, hs3, hs4⟩ := hSw; go_simp
        simp only [Act.put, List.setIfInBounds_toArray, List.set_cons_zero, List.set_cons_succ]
        refine x_take (i := 6) (v := (.pointer (some ⟨b, off + k * 2 + 1, none⟩))) rfl rfl (by kernel_rfl) (by kernel_rfl) (by kernel_rfl) (by kernel_rfl) (fun _ _ _ h => h) (.inl ⟨by rfl, ?_⟩) HS0.out ?_
        · intro w hSw; (try dsimp only at hSw); obtain ⟨hs1, hs2, hs3, hs4⟩ := hSw; go_simp
        simp only [Act.put, List.setIfInBounds_toArray, List.set_cons_zero, List.set_cons_succ]
        refine x_take (i := 7) (v := (.slice (some ⟨b2, off2, none⟩) q fc)) rfl rfl (by kernel_rfl) (by kernel_rfl) (by kernel_rfl) (by kernel_rfl) (fun _ _ _ h => h) (.inl ⟨by rfl, ?_⟩) HS0.out ?_
        · intro w hSw; (try dsimp only at hSw); obtain ⟨hs1, hs2, hs3, hs4⟩ := hSw; go_simp
        simp only [Act.put, List.setIfInBounds_toArray, List.set_cons_zero, List.set_cons_succ]
        refine x_take (i := 8) (v := (.pointer (some ⟨bx, 1, none⟩))) rfl rfl (by kernel_rfl) (by kernel_rfl) (by kernel_rfl) (by kernel_rfl) (fun _ _ _ h => h) (.inl ⟨by rfl, ?_⟩) HS0.out ?_
        · intro w hSw; (try dsimp only at hSw); obtain ⟨hs1, hs2, hs3, hs4⟩ := hSw; go_simp
        simp only [Act.put, List.setIfInBounds_toArray, List.set_cons_zero, List.set_cons_succ]
        refine x_take (i := 9) (v := (.int .i64 j)) rfl rfl (by kernel_rfl) (by kernel_rfl) (by kernel_rfl) (by kernel_rfl) (fun _ _ _ h => h) (.inl ⟨by rfl, ?_⟩) HS0.out ?_
        · intro w hSw; (try dsimp only at hSw); obtain ⟨hs1, hs2, hs3, hs4⟩ := hSw; go_simp
        simp only [Act.put, List.setIfInBounds_toArray, List.set_cons_zero, List.set_cons_succ]
        refine x_take (i := 10) (v := (.pointer (some ⟨b2, off2 + j * 2, none⟩))) rfl rfl (by kernel_rfl) (by kernel_rfl) (by kernel_rfl) (by kernel_rfl) (fun _ _ _ h => h) (.inl ⟨by rfl, ?_⟩) HS0.out ?_
        · intro w hSw; (try dsimp only at hSw); obtain ⟨hs1, hs2, hs3, hs4⟩ := hSw; go_simp
        simp only [Act.put, List.setIfInBounds_toArray, List.set_cons_zero, List.set_cons_succ]
        refine x_take (i := 11) (v := (.pointer (some ⟨b2, off2 + j * 2, none⟩))) rfl rfl (by kernel_rfl) (by kernel_rfl) (by kernel_rfl) (by kernel_rfl) (fun _ _ _ h => h) (.inl ⟨by rfl, ?_⟩) HS0.out ?_
        · intro w hSw; (try dsimp only at hSw); obtain ⟨hs1, hs2, hs3, hs4⟩ := hSw; go_simp
        simp only [Act.put, List.setIfInBounds_toArray, List.set_cons_zero, List.set_cons_succ]
        refine x_take (i := 12) (v := (.string nm)) rfl rfl (by kernel_rfl) (by kernel_rfl) (by kernel_rfl) (by kernel_rfl) (fun _ _ _ h => h) (.inl ⟨by rfl, ?_⟩) HS0.out ?_
        · intro w hSw; (try dsimp only at hSw); obtain ⟨hs1, hs2, hs3, hs4⟩ := hSw; go_simp
        simp only [Act.put, List.setIfInBounds_toArray, List.set_cons_zero, List.set_cons_succ]
        refine x_one (i := 13) (by kernel_rfl) rfl (fun K' hK' => ?_)
        go_simp
        refine hK'.out _ _ (fun _ => HG4.out) ?_
        clear hK' K'
        refine x_one (i := 14) (by kernel_rfl) rfl (fun K' hK' => ?_)
        refine step_append _ (by rfl) _ _ 48 (by rfl) w2.heap.size 9 i0 (.string ⟨#[]⟩) 1 16 Try.underlying48 HI.out HZ0.out HZ1.out HZ2.out rfl (by decide) (.slice na nn nc) nn (strs now) rfl HR4.out ⟨W3.heap.size, 0, none⟩ 1 1 [.string nm] rfl rfl HCN.out (by intro u hu; simp at hu; subst hu; rfl) HNB.out.1 HNB.out.2 HSZ4.out ?_
        intro v5 w5 hown5 hgrow5 hloc5
        have hcell : ∀ p : Addr, p.block < W3.heap.size → (∀ g, (Value.slice na nn nc).ownBlock = some g → p.block ≠ g) → w5.cell? p = W3.cell? p := fun p hp hne => by
          have h1 : w5.heap[p.block]? = ((W3.alloc (.cells #[.string nm] 9)).drew).heap[p.block]? := hgrow5.block p.block (by show p.block < (W3.alloc (.cells #[.string nm] 9)).heap.size; simp; omega) (fun e => hne p.block e.symm rfl)
          have h2 : ((W3.alloc (.cells #[.string nm] 9)).drew).heap[p.block]? = W3.heap[p.block]? := Below.heap_alloc W3 _ _ hp
          simp only [World.cell?]
          rw [h1, h2]
        have hS5 : w5.cell? ⟨b, off + k * 2 + 1, none⟩ = some (.slice (some ⟨b2, off2, none⟩) q fc) ∧ w5.cell? ⟨b2, off2 + j * 2, none⟩ = some (.string nm) ∧ w5.cell? ⟨bx, 0, none⟩ = some (.int .i64 ((k : Int) + 1)) ∧ w5.cell? ⟨bx, 1, none⟩ = some (.int .i64 j) :=
          ⟨(hcell ⟨b, off + k * 2 + 1, none⟩ hbl (fun g e => by have h1 := (HGL.out g e).1; have h2 := HBL.out.1; dsimp only; omega)).trans HS0.out.1,
           (hcell ⟨b2, off2 + j * 2, none⟩ hb2l (fun g e => by have h1 := (HGL.out g e).1; have h2 := HBL.out.2; dsimp only; omega)).trans HS0.out.2.1,
           (hcell ⟨bx, 0, none⟩ hbxl (fun g e => by have h1 := (HGL.out g e).2; dsimp only; omega)).trans HS0.out.2.2.1,
           (hcell ⟨bx, 1, none⟩ hbxl (fun g e => by have h1 := (HGL.out g e).2; dsimp only; omega)).trans HS0.out.2.2.2⟩
        have hB5 : Below w2.heap.size w2 w5 := HB4.out.grown hgrow5 HB4.out.size (fun g hg => HROW.out g hg)
        have hR5 : Sw w2.heap.size w5 v5 (now ++ [nm]) := by
          unfold Sw
          rw [strs_snoc, List.length_append, HNN.out]
          exact hown5
        obtain ⟨g5, c5, rfl⟩ : ∃ g5 c5, v5 = .slice g5 (nn + 1) c5 := by
          obtain ⟨a, c, e⟩ := hR5.strings.slice
          rw [List.length_append, HNN.out] at e
          exact ⟨a, c, e⟩
        have HB5 := Lib.hid hB5
        have HR5 := Lib.hid hR5
        have HS5 := Lib.hid hS5
        clear hB5 hR5 hS5 hown5 hgrow5 hloc5 hcell
        refine hK'.out _ _ (fun _ => HS5.out) ?_
        clear hK' K'
        simp only [Act.put, List.setIfInBounds_toArray, List.set_cons_zero, List.set_cons_succ]
        refine x_one (i := 15) (by kernel_rfl) rfl (fun K' hK' => ?_)
        go_simp
        refine hK'.out _ _ (fun h => absurd rfl h) ?_
        clear hK' K'
        refine x_done (by kernel_rfl) ?_ _
        clear hw3 hw4
        go_wp2
        go_roundw
        case rel => exact ⟨c + 1, by omega, by go_num, Lib.hid (by rw [HTK.out]; exact HR5.out), HB5⟩
        case measure => simp [intOf]; omega
      · obtain rfl : m = c := by omega
        have hnn : ¬ (m : Int) < m := by omega
        have hr := HR.out
        rw [List.take_of_length_le (by rw [HM.out]; exact Nat.le_refl _)] at hr
        have HJ := Lib.hid (Join_any u7 (P.map (Dt.nmOf d)) wr hr.strings (by rw [List.length_map, HM.out]; omega) (fun x hx => by
          obtain ⟨p, _, rfl⟩ := List.mem_map.1 hx
          exact Dt.nmOf_size HD.out p) hr.fits)
        clear hr
        go_wp2_with fail
        refine HJ.out.mono ?_
        rintro e w4 ⟨rfl, hb⟩
        have HBF := Lib.hid (HB2.out.trans ((HB.out.trans (hb.mono HB.out.size)).mono HB2.out.size))
        clear hb
        go_wp2
        go_ret2
        exact ⟨rfl, HBF.out⟩
  · have hX : Dt.txt d t = ⟨#[]⟩ := by unfold Dt.txt; rw [HE.out, if_neg h0]
    rw [hX, hE]
    have hne : (E == 0) = false := by simpa using h0
    have hne2 : (E != 0) = true := by simpa using h0
    clear h0 hX hE
    go_enter Try.func7, Try.ntmps7
    go_wp2_with fail
    refine HCK.out.mono ?_
    rintro e w1 ⟨rfl, hb⟩
    have HB1 := Lib.hid (HA.out.trans (hb.mono HA.out.size))
    clear hb
    go_wp2
    go_ret2
    exact ⟨rfl, HB1.out⟩

end Go.Proofs.Yteidhlfiofiocab
