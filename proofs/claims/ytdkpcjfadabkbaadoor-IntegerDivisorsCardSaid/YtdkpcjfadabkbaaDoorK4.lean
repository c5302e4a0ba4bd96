/- What the closures of leadingDigits do. -/
import Derived.Test.YtdkpcjfadabkbaaDoorK3
set_option linter.unusedVariables false
set_option linter.unusedSimpArgs false
namespace Go.Proofs.YtdkpcjfadabkbaaDoor
open Go.RowKit _root_.Go.Proofs.YtdkpcjfadabkbaaDoor.Nm

/-- A box of one cell. -/
def Bo (w : World) (g : Nat) (x : Value) : Prop := ∃ T, w.heap[g]? = some (.cells #[x] T (0, 0))

theorem Bo.cell {w : World} {g : Nat} {x : Value} (h : Bo w g x) : w.cell? ⟨g, 0, none⟩ = some x ∧ w.frozen? ⟨g, 0, none⟩ = false := by
  obtain ⟨T, h⟩ := h
  simp [World.cell?, World.frozen?, h]
theorem Bo.lt {w : World} {g : Nat} {x : Value} (h : Bo w g x) : g < w.heap.size := by
  rcases Nat.lt_or_ge g w.heap.size with h' | h'
  · exact h'
  · obtain ⟨T, h⟩ := h
    simp [Array.getElem?_eq_none h'] at h
theorem Bo.below {w w' : World} {g B : Nat} {x : Value} (h : Bo w g x) (hb : Below B w w') (hg : g < B) : Bo w' g x := by
  obtain ⟨T, h⟩ := h
  exact ⟨T, (hb.block g hg).trans h⟩
theorem Bo.only {w w' : World} {g b : Nat} {x : Value} (h : Bo w g x) (hb : Only b w w') (hg : g ≠ b) : Bo w' g x := by
  obtain ⟨T, h⟩ := h
  exact ⟨T, (hb.block g hg).trans h⟩
theorem Bo.new (w : World) (x : Value) (T : TypeId) : Bo (w.alloc (.cells #[x] T)) w.heap.size x := ⟨T, heap_alloc_new _ _⟩
theorem Bo.alloc {w : World} {g : Nat} {x : Value} (h : Bo w g x) (o : Obj) : Bo (w.alloc o) g x := h.below ((Below.refl _ _).alloc (Nat.le_refl _) o) h.lt
theorem Bo.drew {w : World} {g : Nat} {x : Value} (h : Bo w g x) : Bo w.drew g x := h
theorem Bo.drewN {w : World} {g : Nat} {x : Value} (h : Bo w g x) (n : Nat) : Bo (w.drewN n) g x := h
theorem Bo.set {W : World} {g : Nat} {x : Value} (h : Bo W g x) (x' : Value) : Bo (W.setCell ⟨g, 0, none⟩ x') g x' := by
  have hlt := h.lt
  obtain ⟨T, h⟩ := h
  rw [Array.getElem?_eq_getElem hlt] at h
  have h := Option.some.inj h
  refine ⟨T, ?_⟩
  show (W.heap.modify g _)[g]? = _
  rw [Array.getElem?_eq_getElem (by simpa using hlt), Array.getElem_modify_self, h]
  simp
theorem Bo.past {W : World} {g g' : Nat} {x : Value} (h : Bo W g x) (i : Nat) (x' : Value) (hn : g ≠ g') : Bo (W.setCell ⟨g', i, none⟩ x') g x := h.only ((Only.refl g' W).set i x') hn

/-- The limb at a place, 0 beyond the end. -/
def lb (xs : List Nat) (i : Nat) : Nat := xs.getD i 0

theorem lb_lt (xs : List Nat) (hx : ∀ x ∈ xs, x < 1000000000) (i : Nat) : lb xs i < 1000000000 := by
  unfold lb
  by_cases h : i < xs.length
  · rw [List.getD_eq_getElem?_getD, List.getElem?_eq_getElem h]; exact hx _ (List.getElem_mem h)
  · rw [List.getD_eq_getElem?_getD, List.getElem?_eq_none (by omega)]; simp

theorem three (ys : List Nat) (h : ys.length ≤ 3) : vl 1000000000 ys = lb ys 0 + 1000000000 * (lb ys 1 + 1000000000 * lb ys 2) := by
  match ys, h with
  | [], _ => rfl
  | [a], _ => simp [vl, lb]
  | [a, b], _ => simp [vl, lb]
  | [a, b, c], _ => simp [vl, lb]

theorem lb_drop (xs : List Nat) (t i : Nat) : lb (xs.drop t) i = lb xs (t + i) := by
  unfold lb; rw [List.getD_eq_getElem?_getD, List.getD_eq_getElem?_getD, List.getElem?_drop]

theorem vl_div (xs : List Nat) (hx : ∀ x ∈ xs, x < 1000000000) (t : Nat) : vl 1000000000 xs / 1000000000 ^ t = vl 1000000000 (xs.drop t) := by
  have e : vl 1000000000 xs = vl 1000000000 (xs.take t) + 1000000000 ^ (xs.take t).length * vl 1000000000 (xs.drop t) := by
    conv => lhs; rw [← List.take_append_drop t xs]
    rw [vl_append]
  have h1 := vl_lt 1000000000 (xs.take t) (fun x h => hx x (List.mem_of_mem_take h))
  by_cases ht : t ≤ xs.length
  · rw [List.length_take, Nat.min_eq_left ht] at e h1
    rw [e, Nat.add_mul_div_left _ _ (Nat.pow_pos (by omega)), Nat.div_eq_of_lt h1, Nat.zero_add]
  · rw [List.drop_of_length_le (by omega)]
    have h2 := vl_lt 1000000000 xs hx
    rw [Nat.div_eq_of_lt (Nat.lt_of_lt_of_le h2 (Nat.pow_le_pow_right (by omega) (by omega)))]
    rfl

/-- The leading digits are a quotient. -/
theorem lead_div (xs : List Nat) (hx : ∀ x ∈ xs, x < 1000000000) (t s D : Nat) (hl : xs.length ≤ t + 3) (hD : s * D = 1000000000) :
    (lb xs (t + 2) * 1000000000 + lb xs (t + 1)) * s + lb xs t / D = vl 1000000000 xs / (1000000000 ^ t * D) := by
  have hD0 : 0 < D := by rcases Nat.eq_zero_or_pos D with h | h; (rw [h] at hD; omega); exact h
  rw [← Nat.div_div_eq_div_mul, vl_div xs hx, three _ (by rw [List.length_drop]; omega), lb_drop, lb_drop, lb_drop, Nat.add_zero]
  rw [show 1000000000 * (lb xs (t + 1) + 1000000000 * lb xs (t + 2)) = D * (s * (lb xs (t + 1) + 1000000000 * lb xs (t + 2))) from by rw [← Nat.mul_assoc, Nat.mul_comm D s, hD]]
  rw [Nat.add_mul_div_left _ _ hD0, Nat.add_comm, Nat.mul_comm s, Nat.mul_comm 1000000000, Nat.add_comm (lb xs (t + 1))]
  rfl

theorem lead_lt (n0 n1 n2 s D : Nat) (h0 : n0 < 1000000000) (h1 : n1 < 1000000000) (hs : n2 * s < 1000000000) (hD : s * D = 1000000000) : (n2 * 1000000000 + n1) * s + n0 / D < 1000000000000000000 := by
  have hD0 : 0 < D := by rcases Nat.eq_zero_or_pos D with h | h; (rw [h] at hD; omega); exact h
  have hs0 : 0 < s := by rcases Nat.eq_zero_or_pos s with h | h; (rw [h] at hD; omega); exact h
  have e1 : n2 < D := by
    rcases Nat.lt_or_ge n2 D with h | h
    · exact h
    · have := Nat.mul_le_mul_right s h
      rw [Nat.mul_comm D s] at this; omega
  have e2 : (n2 + 1) * s ≤ D * s := Nat.mul_le_mul_right s e1
  have e3 : n0 / D < s := by rw [Nat.div_lt_iff_lt_mul hD0, hD]; exact h0
  have e4 : n1 * s ≤ 999999999 * s := Nat.mul_le_mul_right s (by omega)
  rw [Nat.mul_comm D s, hD, Nat.add_mul] at e2
  rw [Nat.add_mul, Nat.mul_right_comm]
  generalize n2 * s = k at *
  generalize n1 * s = m at *
  generalize n0 / D = q at *
  omega

theorem limb_any (i g : Nat) (v : Value) (xs : List Nat) (w : World) (hi : i ≤ 60000) (hc : w.cell? ⟨g, 0, none⟩ = some v) (hr : Rd .u32 w v xs) (hx : ∀ x ∈ xs, x < 1000000000) :
    Calls Tryd.prog 94 #[.int .i64 i, .pointer (some ⟨g, 0, none⟩)] w fun e w' => e = .returned (.int .i64 (lb xs i : Nat)) ∧ w' = w := by
  have hlb := lb_lt xs hx i
  rcases hr.cases with ⟨rfl, a, c, rfl, hcap⟩ | ⟨h0, g2, off, c, rfl, hxc, hcap, hg, hrow⟩
  · clear hr hx
    go_enter Tryd.func94, Tryd.ntmps94
    go_wp2
    go_ret
    exact ⟨rfl, rfl⟩
  · by_cases hlt : i < xs.length
    · have hc2 := hrow i hlt
      have hx1 := hx _ (List.getElem_mem hlt)
      have hlt' : (i : Int) < xs.length := by omega
      have HL : Hid (lb xs i = xs[i]) := Lib.hid (by unfold lb; rw [List.getD_eq_getElem?_getD, List.getElem?_eq_getElem hlt]; rfl)
      clear hr hx hrow hlb
      go_enter Tryd.func94, Tryd.ntmps94
      go_wp2
      go_ret
      exact ⟨by rw [HL.out]; rfl, rfl⟩
    · have hlt' : ¬ (i : Int) < xs.length := by omega
      have HL : Hid (lb xs i = 0) := Lib.hid (by unfold lb; rw [List.getD_eq_getElem?_getD, List.getElem?_eq_none (by omega)]; rfl)
      clear hr hx hrow hlb
      go_enter Tryd.func94, Tryd.ntmps94
      go_wp2
      go_ret
      exact ⟨by rw [HL.out]; rfl, rfl⟩


theorem limb_to (i g n : Nat) (z : Int) (v : Value) (xs : List Nat) (w : World) (hz : z = (i : Nat)) (hi : i ≤ 60000) (hc : w.cell? ⟨g, 0, none⟩ = some v) (hr : Rd .u32 w v xs) (hx : ∀ x ∈ xs, x < 1000000000) (hn : Hid (lb xs i = n)) :
    Calls Tryd.prog 94 #[.int .i64 z, .pointer (some ⟨g, 0, none⟩)] w fun e w' => e = .returned (.int .i64 n) ∧ w' = w := by
  rw [← hn.out, hz]; exact limb_any i g v xs w hi hc hr hx

set_option maxRecDepth 100000 in
set_option maxHeartbeats 1600000 in
theorem digits_any (t s D gT gS : Nat) (v : Value) (xs : List Nat) (w : World) (ht : t ≤ 50000) (hT : w.cell? ⟨gT, 0, none⟩ = some (.int .i64 ((t : Int) + 2))) (hS : w.cell? ⟨gS, 0, none⟩ = some (.int .i64 (s : Nat))) (lT : gT < w.heap.size) (lS : gS < w.heap.size)
    (hr : Rd .u32 w v xs) (hx : ∀ x ∈ xs, x < 1000000000) (hD : s * D = 1000000000) (hs : lb xs (t + 2) * s < 1000000000) :
    Calls Tryd.prog 93 #[v, .pointer (some ⟨gT, 0, none⟩), .pointer (some ⟨gS, 0, none⟩)] w fun e w' => e = .returned (.int .i64 (((lb xs (t + 2) * 1000000000 + lb xs (t + 1)) * s + lb xs t / D : Nat) : Int)) ∧ Below w.heap.size w w' := by
  have hl := hr.length
  obtain ⟨n0, h0⟩ : ∃ n, lb xs t = n := ⟨_, rfl⟩
  obtain ⟨n1, h1⟩ : ∃ n, lb xs (t + 1) = n := ⟨_, rfl⟩
  obtain ⟨n2, h2⟩ : ∃ n, lb xs (t + 2) = n := ⟨_, rfl⟩
  have b0 : n0 < 1000000000 := by rw [← h0]; exact lb_lt xs hx _
  have b1 : n1 < 1000000000 := by rw [← h1]; exact lb_lt xs hx _
  have b2 : n2 < 1000000000 := by rw [← h2]; exact lb_lt xs hx _
  rw [h2] at hs
  have hlt := lead_lt n0 n1 n2 s D b0 b1 hs hD
  rw [h0, h1, h2]
  have H0 := Lib.hid h0
  have H1 := Lib.hid h1
  have H2 := Lib.hid h2
  clear h0 h1 h2
  have hD0 : 0 < D := by rcases Nat.eq_zero_or_pos D with h | h; (rw [h] at hD; omega); exact h
  have hs0 : 0 < s := by rcases Nat.eq_zero_or_pos s with h | h; (rw [h] at hD; omega); exact h
  have hs1 : s ≤ 1000000000 := by rw [← hD]; exact Nat.le_mul_of_pos_right _ hD0
  have hDe : 1000000000 / s = D := by rw [← hD, Nat.mul_div_cancel_left _ hs0]
  obtain ⟨A, hA⟩ : ∃ n, n2 * 1000000000 = n := ⟨_, rfl⟩
  obtain ⟨B, hB⟩ : ∃ n, A + n1 = n := ⟨_, rfl⟩
  obtain ⟨C, hC⟩ : ∃ n, B * s = n := ⟨_, rfl⟩
  obtain ⟨E, hE⟩ : ∃ n, n0 / D = n := ⟨_, rfl⟩
  obtain ⟨F, hF⟩ : ∃ n, C + E = n := ⟨_, rfl⟩
  rw [hA, hB, hC, hE, hF] at hlt
  rw [hA, hB, hC, hE, hF]
  have e1 : IntKind.i64.wrap ((t : Int) + 2 - 1) = (t : Int) + 1 := by rw [IntWalk.i64_in _ (by omega)]; omega
  have e2 : IntKind.i64.wrap ((t : Int) + 2 - 2) = t := by rw [IntWalk.i64_in _ (by omega)]; omega
  have p1 : IntKind.i64.wrap ((n2 : Int) * 1000000000) = (A : Nat) := by rw [IntWalk.i64_in _ (by omega), ← hA]; omega
  have p2 : IntKind.i64.wrap ((A : Int) + (n1 : Int)) = (B : Nat) := by rw [IntWalk.i64_in _ (by omega), ← hB]; omega
  have p3 : IntKind.i64.wrap ((B : Int) * (s : Int)) = (C : Nat) := by
    have e : ((B : Int) * (s : Int)) = (C : Nat) := by rw [← hC]; simp
    rw [IntWalk.i64_in _ (by omega), e]
  have p4 : IntKind.i64.wrap ((1000000000 : Int).tdiv (s : Int)) = (D : Nat) := by
    have e : ((1000000000 : Int).tdiv (s : Int)) = (D : Nat) := by rw [← hDe]; exact (Int.ofNat_tdiv 1000000000 s).symm
    have : D ≤ 1000000000 := by rw [← hDe]; exact Nat.div_le_self _ _
    rw [e, IntWalk.i64_in _ (by omega)]
  have Q5 : Hid (wrap64 ((n0 : Int) / (D : Int)) = (E : Nat)) := Lib.hid (by
    have : E ≤ n0 := by rw [← hE]; exact Nat.div_le_self _ _
    rw [← Int.natCast_ediv, hE]; exact wrap_in _ (by omega) (by omega))
  have Q6 : Hid (wrap64 ((C : Int) + (E : Int)) = (F : Nat)) := Lib.hid (by rw [wrap_in _ (by omega) (by omega), ← hF]; omega)
  have z1 : ((s : Int) == 0) = false := by rw [beq_eq_false_iff_ne]; omega
  have z2 : ((D : Int) == 0) = false := by rw [beq_eq_false_iff_ne]; omega
  have z3 : ¬ (s : Int) = 0 := by omega
  have z4 : ¬ (D : Int) = 0 := by omega
  have HR := Lib.hid hr
  have HX := Lib.hid hx
  obtain ⟨a, c, rfl, _⟩ := id hr
  have hbo := Bo.new w (.slice a xs.length c) 70
  have hbl := (Below.refl w.heap.size w).alloc (Nat.le_refl _) (.cells #[.slice a xs.length c] 70)
  have c0 := hbo.cell.1
  have c1 := (hbl.cell (p := ⟨gT, 0, none⟩) lT).trans hT
  have c2 := (hbl.cell (p := ⟨gS, 0, none⟩) lS).trans hS
  have HR1 := Lib.hid (hr.keep hbl (Nat.le_refl _))
  have HBL := Lib.hid hbl
  clear hr hx hbo hbl hA hB hC hE hF hD hDe hs hlt hT hS
  go_enter Tryd.func93, Tryd.ntmps93
  go_wp2
  go_quiet ((go_at_call 94; first | exact Calls.quiet_of_same (limb_to (t + 2) w.heap.size n2 _ _ xs _ (by omega) (by omega) c0 HR1.out HX.out H2) | exact Calls.quiet_of_same (limb_to (t + 1) w.heap.size n1 _ _ xs _ (by omega) (by omega) c0 HR1.out HX.out H1) | exact Calls.quiet_of_same (limb_to t w.heap.size n0 _ _ xs _ (by omega) (by omega) c0 HR1.out HX.out H0)))
  rw [Q5.out, Q6.out]
  go_wp2
  go_ret
  exact ⟨rfl, HBL.out.trans ⟨rfl, rfl, rfl, Nat.le_refl _, fun _ _ => rfl⟩⟩

end Go.Proofs.YtdkpcjfadabkbaaDoor
