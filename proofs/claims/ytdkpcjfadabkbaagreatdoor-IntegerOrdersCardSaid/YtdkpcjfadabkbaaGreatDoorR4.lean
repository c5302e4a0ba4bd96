/- What the reference's Text and Long do. -/
import Derived.Test.YtdkpcjfadabkbaaGreatDoorR3
set_option linter.unusedVariables false
set_option linter.unusedSimpArgs false
namespace Go.Proofs.YtdkpcjfadabkbaaGreatDoor
open Go.RowKit _root_.Go.Proofs.YtdkpcjfadabkbaaGreatDoor.Nm

theorem Long_any (v : Value) (z : Int) (n : Nat) (w : World) (h : Ref w v z) (hn : Hid (True ∧ (dg z.natAbs).length = n)) :
    Calls Tryz.prog 33 #[v] w fun e w' => e = .returned (.bool (decide ((400 : Int) < (n : Nat)))) ∧ Below w.heap.size w w' := by
  obtain ⟨a, c, rfl⟩ := h.form
  rw [hn.out.2]
  have HBX := Lib.hid (Bx.new w (.bool (isNeg z)) (.slice a n c) 30)
  clear h
  obtain ⟨f0, f1, f2, f3⟩ := HBX.out.cell
  go_enter Tryz.func33, Tryz.ntmps33
  go_wp2
  go_ret
  exact ⟨rfl, (Below.refl _ _).alloc (Nat.le_refl _) _⟩

theorem ext_digit (d : Nat) (h : d < 10) : (⟨#[48, 49, 50, 51, 52, 53, 54, 55, 56, 57]⟩ : ByteArray).extract d (d + 1) = ⟨#[chr d]⟩ :=
  (by decide +kernel : ∀ i : Fin 10, (⟨#[48, 49, 50, 51, 52, 53, 54, 55, 56, 57]⟩ : ByteArray).extract i.val (i.val + 1) = ⟨#[chr i.val]⟩) ⟨d, h⟩

theorem push_bytes (l : List UInt8) (c : UInt8) : (⟨l.toArray⟩ : ByteArray) ++ ⟨#[c]⟩ = ⟨(l ++ [c]).toArray⟩ := by
  apply ByteArray.ext
  rw [ByteArray.data_append]
  simp

/-- The characters of the digits. -/
def chrs (xs : List Nat) : List UInt8 := xs.map chr

set_option maxRecDepth 100000 in
set_option maxHeartbeats 3200000 in
theorem rText_any (v : Value) (z : Int) (w : World) (h : Ref w v z) (hl : (dg z.natAbs).length ≤ 50000) :
    Calls Tryz.prog 20 #[v] w fun e w' => e = .returned (.string ⟨(Lib.itoa z).toArray⟩) ∧ Below w.heap.size w w' := by
  obtain ⟨sv, hv, hr⟩ := h
  obtain ⟨xs, hx⟩ : ∃ xs, dg z.natAbs = xs := ⟨_, rfl⟩
  rw [hx] at hr hl
  obtain ⟨nb, hnb⟩ : ∃ nb, isNeg z = nb := ⟨_, rfl⟩
  rw [hnb] at hv
  rcases hr.cases with ⟨h0, a, c, rfl, hc⟩ | ⟨h0, g, off, c, rfl, hyc, hc, hg, hrow⟩
  · subst hv
    have hz : z = 0 := by
      have := dval_dg z.natAbs
      rw [hx, h0, dval_nil] at this; omega
    subst hz
    have HBX := Lib.hid (Bx.new w (.bool nb) (.slice a 0 c) 30)
    clear hr hx hnb h0 hc
    obtain ⟨f0, f1, f2, f3⟩ := HBX.out.cell
    go_enter Tryz.func20, Tryz.ntmps20
    go_wp2
    go_ret
    exact ⟨by kernel_rfl, (Below.refl _ _).alloc (Nat.le_refl _) _⟩
  · subst hv
    have hn0 : 0 < z.natAbs := by
      rcases Nat.eq_zero_or_pos z.natAbs with h | h
      · rw [h, dg_zero] at hx; rw [← hx] at h0; simp at h0
      · exact h
    obtain ⟨pre, hpre⟩ : ∃ pre : List UInt8, (if nb = true then [45] else []) = pre := ⟨_, rfl⟩
    have HE : Hid (Lib.itoa z = pre ++ chrs xs) := Lib.hid (by
      unfold Lib.itoa chrs
      rw [dec_ds _ hn0]
      rw [← hx, ← hpre]
      unfold dg
      rw [← hnb]
      unfold isNeg
      by_cases hz : z < 0
      · rw [if_pos hz, if_pos (by simpa using hz)]
        rfl
      · rw [if_neg hz, if_neg (by simpa using hz), show z.toNat = z.natAbs from by omega, dec_ds _ hn0]
        rfl)
    have HX : Hid (∀ x ∈ xs, x < 10) := Lib.hid (by rw [← hx]; exact dg_lt _)
    have HBX := Lib.hid (Bx.new w (.bool nb) (.slice (some ⟨g, off, none⟩) xs.length c) 30)
    have HRow := Lib.hid hrow
    have h0i : ((xs.length : Int) == 0) = false := by rw [beq_eq_false_iff_ne]; omega
    have HPRE := Lib.hid (And.intro trivial hpre)
    clear hr hx hnb hc hyc hn0 hrow hpre
    obtain ⟨f0, f1, f2, f3⟩ := HBX.out.cell
    go_enter Tryz.func20, Tryz.ntmps20
    go_upto_if 10 with fail
    go_cut [3] (fun s wx => s = .string ⟨pre.toArray⟩ ∧ wx = w.alloc (.cells #[.bool nb, .slice (some ⟨g, off, none⟩) xs.length c] 30))
    case first =>
      cases nb
      · go_wp2_with fail
        go_meet
        case rel => exact ⟨by rw [← HPRE.out.2]; rfl, rfl⟩
      · go_wp2_with fail
        go_meet
        case rel => exact ⟨by rw [← HPRE.out.2]; rfl, rfl⟩
    case rest =>
    obtain ⟨rfl, rfl⟩ := hcut
    have HBW := Lib.hid ((Below.refl w.heap.size w).alloc (Nat.le_refl _) (.cells #[.bool nb, .slice (some ⟨g, off, none⟩) xs.length c] 30))
    clear HBX
    generalize w.alloc (.cells #[.bool nb, .slice (some ⟨g, off, none⟩) xs.length c] 30) = W0 at *
    go_wp2
    go_loopw [3, 4] (fun s i wr => ∃ k : Nat, k ≤ xs.length ∧ i = .int .i64 k ∧ Hid (s = .string ⟨(pre ++ chrs (xs.take k)).toArray⟩) ∧ Hid (∃ n, wr = W0.drewN n)) (fun _ i _ => xs.length - (intOf i).toNat)
    case atStart => exact ⟨0, by omega, rfl, Lib.hid (by simp [chrs]), Lib.hid ⟨0, rfl⟩⟩
    case round =>
      obtain ⟨k, hk, rfl, HS, HW⟩ := hrel
      obtain ⟨n, rfl⟩ := HW.out
      obtain rfl := HS.out
      by_cases hlt : k < xs.length
      · have hlt' : (k : Int) < xs.length := by omega
        have hd := HX.out _ (List.getElem_mem hlt)
        obtain ⟨d, hdd⟩ : ∃ d, xs[k] = d := ⟨_, rfl⟩
        have c0 : W0.cell? ⟨g, off + k, none⟩ = some (.int .i64 (d : Nat)) := by rw [← hdd]; exact (HBW.out.cell (p := ⟨g, off + k, none⟩) hg).trans (HRow.out k hlt)
        rw [hdd] at hd
        have e1 : IntKind.i64.wrap ((d : Int) + 1) = (d : Int) + 1 := IntWalk.i64_in _ (by omega)
        have e2 : ((d : Int) + 1).toNat = d + 1 := by omega
        have e3 : (0 : Int) ≤ (d : Int) + 1 := by omega
        have e4 : (d : Int) ≤ (d : Int) + 1 := by omega
        have e5 : (d : Int) + 1 ≤ 10 := by omega
        have hnx : pre ++ chrs (xs.take (k + 1)) = (pre ++ chrs (xs.take k)) ++ [chr d] := by
          rw [List.take_add_one, List.getElem?_eq_getElem hlt, hdd, List.append_assoc]
          unfold chrs
          rw [List.map_append]
          rfl
        have hadd : ∀ W : World, (Op.stringOp .add ⟨(pre ++ chrs (xs.take k)).toArray⟩ ((⟨#[48, 49, 50, 51, 52, 53, 54, 55, 56, 57]⟩ : ByteArray).extract d (d + 1))).run Tryz.prog W = .ok (.string ⟨(pre ++ chrs (xs.take (k + 1))).toArray⟩) W := fun W => by
          rw [ext_digit d hd]
          have h2 : pre.length ≤ 1 := by rw [← HPRE.out.2]; split <;> simp
          have h1 : (⟨(pre ++ chrs (xs.take k)).toArray⟩ : ByteArray).size ≤ 50001 := by
            show (pre ++ chrs (xs.take k)).toArray.size ≤ 50001
            simp [chrs]; omega
          have h3 : (⟨#[chr d]⟩ : ByteArray).size = 1 := rfl
          have h4 := run_string_add_sum (P := Tryz.prog) (w := W) ⟨(pre ++ chrs (xs.take k)).toArray⟩ ⟨#[chr d]⟩ (by omega)
          rw [push_bytes, ← hnx] at h4
          exact h4
        clear hdd hnx
        go_wp2
        go_quiet (fail)
        go_wp2
        go_roundw
        case rel => exact ⟨k + 1, by omega, by go_num, Lib.hid rfl, Lib.hid ⟨n + nq, rfl⟩⟩
        case measure => simp [intOf]; omega
      · have hlt' : ¬ (k : Int) < xs.length := by omega
        have HT : Hid (True ∧ pre ++ chrs (xs.take k) = Lib.itoa z) := Lib.hid ⟨trivial, by rw [HE.out, List.take_of_length_le (by omega)]⟩
        rw [HT.out.2]
        go_wp2
        go_ret
        exact ⟨rfl, HBW.out.trans ⟨rfl, rfl, rfl, Nat.le_refl _, fun _ _ => rfl⟩⟩

end Go.Proofs.YtdkpcjfadabkbaaGreatDoor
