/- The walk of the law ExcerptAligns. -/
import Derived.Test.YtbhbjjkpbdplpaaL5
import Derived.Test.YtbhbjjkpbdplpaaW6
set_option linter.unusedVariables false
set_option linter.unusedSimpArgs false
namespace Go.Proofs.Ytbhbjjkpbdplpaa
open Go.RowKit

/-- What the law asks of the excerpt X of a line T, with the rest R behind the first line feed. -/
structure Aligned (T X R : ByteArray) (m c d : Nat) : Prop where
  size : T.size + 2 ≤ X.size
  head : X.extract 0 (T.size + 1) = T ++ ⟨#[10]⟩
  last : X.data.toList[X.size - 1]? = some 94
  rest : X.extract (T.size + 1) X.size = R
  lo : ∀ i : Nat, i < m → R.data.toList[i]? = some 32 ∨ R.data.toList[i]? = some 9
  hi : ∀ i : Nat, m ≤ i → i < R.size → R.data.toList[i]? = some 94
  mlt : m < R.size
  mc : m ≤ c
  eq : (∀ b ∈ T.data.toList, b.toNat < 128) → m = c
  len : R.size - m ≤ max 1 d

theorem sign_or (b : UInt8) : Ex.sign b = 32 ∨ Ex.sign b = 9 := by unfold Ex.sign; split <;> simp

theorem carets1_spec (l : List UInt8) : Ex.carets1 l ≠ [] ∧ (∀ b ∈ Ex.carets1 l, b = 94) ∧ (Ex.carets1 l).length ≤ max 1 l.length := by
  unfold Ex.carets1
  split
  · refine ⟨by simp, by simp, ?_⟩
    simp; omega
  · rename_i h
    refine ⟨h, fun b hb => by simp [Ex.carets] at hb; exact hb.2.symm, ?_⟩
    have := List.length_filter_le (fun b => !Ex.isCont b) l
    simp only [Ex.carets, List.length_map]
    omega

theorem aligned_of (T X : ByteArray) (c d : Nat) (hc : c ≤ T.size)
    (hX : X.data.toList = T.data.toList ++ [10] ++ Ex.margin (T.data.toList.take c) ++ Ex.carets1 ((T.data.toList.drop c).take d)) :
    ∃ R : ByteArray, Aligned T X R (Ex.margin (T.data.toList.take c)).length c d := by
  obtain ⟨k1, k2, k3⟩ := carets1_spec ((T.data.toList.drop c).take d)
  have k3' : (Ex.carets1 ((T.data.toList.drop c).take d)).length ≤ max 1 d := by
    have := List.length_take_le d (T.data.toList.drop c)
    omega
  have hm : (Ex.margin (T.data.toList.take c)).length ≤ c := by
    have h1 := List.length_filter_le (fun b => !Ex.isCont b) (T.data.toList.take c)
    have h2 := List.length_take_le c T.data.toList
    simp only [Ex.margin, List.length_map]
    omega
  have hme : (∀ b ∈ T.data.toList, b.toNat < 128) → (Ex.margin (T.data.toList.take c)).length = c := by
    intro h
    have : (T.data.toList.take c).filter (fun b => !Ex.isCont b) = T.data.toList.take c := by
      rw [List.filter_eq_self]
      intro b hb
      have := h b (List.mem_of_mem_take hb)
      simp [Ex.isCont]; omega
    simp only [Ex.margin, List.length_map, this, List.length_take, Ex.size_len]
    omega
  have hml : ∀ b ∈ Ex.margin (T.data.toList.take c), b = 32 ∨ b = 9 := by
    intro b hb
    simp only [Ex.margin, List.mem_map] at hb
    obtain ⟨x, _, rfl⟩ := hb
    exact sign_or x
  generalize Ex.margin (T.data.toList.take c) = M at *
  generalize Ex.carets1 ((T.data.toList.drop c).take d) = C at *
  have hXs : X.size = T.size + 1 + M.length + C.length := by
    rw [← Ex.size_len, hX]
    simp only [List.length_append, Ex.size_len, List.length_cons, List.length_nil]
  have hCl : 0 < C.length := List.length_pos_iff.2 k1
  have hR : (X.extract (T.size + 1) X.size).data.toList = M ++ C := by
    rw [Lib.extract_to_end, hX, List.append_assoc, List.append_assoc]
    rw [← List.append_assoc]
    exact List.drop_left' (by rw [List.length_append, Ex.size_len]; rfl)
  have hRs : (X.extract (T.size + 1) X.size).size = M.length + C.length := by rw [← Ex.size_len, hR, List.length_append]
  refine ⟨X.extract (T.size + 1) X.size, ⟨by omega, ?_, ?_, rfl, ?_, ?_, by omega, hm, hme, by omega⟩⟩
  · have : (X.extract 0 (T.size + 1)).data.toList = (T ++ (⟨#[10]⟩ : ByteArray)).data.toList := by
      rw [Lib.extract_data, hX, append_list T 10 _ rfl]
      simp only [List.drop_zero, Nat.sub_zero, List.append_assoc]
      rw [← List.append_assoc]
      exact List.take_left' (by rw [List.length_append, Ex.size_len]; rfl)
    exact bytes_ext _ _ this
  · rw [hX, List.getElem?_append_right (by simp only [List.length_append, Ex.size_len, List.length_cons, List.length_nil]; omega)]
    have e : X.size - 1 - (T.data.toList ++ [10] ++ M).length = C.length - 1 := by
      simp only [List.length_append, Ex.size_len, List.length_cons, List.length_nil]; omega
    rw [e, List.getElem?_eq_getElem (by omega)]
    exact congrArg some (k2 _ (List.getElem_mem _))
  · intro i hi
    rw [hR, List.getElem?_append_left hi, List.getElem?_eq_getElem hi]
    rcases hml _ (List.getElem_mem hi) with h | h
    · left; rw [h]
    · right; rw [h]
  · intro i h1 h2
    rw [hR, List.getElem?_append_right h1, List.getElem?_eq_getElem (by omega)]
    exact congrArg some (k2 _ (List.getElem_mem _))

theorem at_is (s : ByteArray) (k : Nat) (h : k < s.size) (c : UInt8) (hc : s.data.toList[k]? = some c) : s[k] = c := by
  rw [get_at s k h] at hc
  exact Option.some.inj hc

set_option maxRecDepth 100000 in
set_option maxHeartbeats 3200000 in
theorem law_ExcerptAligns (a0 : ByteArray) (a1 a2 : Int) (w0 : a0.size ≤ maxLen) (w1 : (Lit.int .i64 a1).wf = true) (w2 : (Lit.int .i64 a2).wf = true) (w : World) :
    Calls Try.prog 9 #[.string a0, .int .i64 a1, .int .i64 a2] w fun e w' => e = .returned (.bool true) ∧ Below w.heap.size w w' := by
  unfold maxLen at w0
  by_cases hbig : 1000 < a0.size
  · have hbig' : (1000 : Int) < a0.size := by omega
    go_enter Try.func9, Try.ntmps9
    go_wp2_with fail
    refine (awake_any _).mono ?_
    rintro e wa ⟨rfl, hb⟩
    have HB := Lib.hid hb
    clear hb
    go_wp2
    go_ret
    exact ⟨rfl, HB.out⟩
  have hs : a0.size ≤ 4000 := by omega
  have hsm : (a0.size : Int) ≤ 1000 := by omega
  by_cases ho : a1 < 0 ∨ a2 < a1 ∨ (a0.size : Int) < a2
  · have HO := Lib.hid ho
    clear ho
    go_enter Try.func9, Try.ntmps9
    go_wp2_with fail
    refine (awake_any _).mono ?_
    rintro e wa ⟨rfl, hb⟩
    have HB := Lib.hid hb
    clear hb
    go_wp2_with fail
    refine (Excerpt_out _ _ _ HO.out hs _).mono ?_
    rintro e wb ⟨rfl, hbb⟩
    have HBB := Lib.hid (HB.out.trans (hbb.mono (by have := HB.out.size; omega)))
    clear hbb
    go_wp2
    go_ret
    exact ⟨rfl, HBB.out⟩
  obtain ⟨a, rfl⟩ := nat_of a1 (by omega)
  obtain ⟨b, rfl⟩ := nat_of a2 (by omega)
  have hab : a ≤ b := by omega
  have hbs : b ≤ a0.size := by omega
  have ha : a ≤ a0.size := by omega
  clear ho hbig w0 w1 w2
  have hlen : a ≤ a0.data.toList.length := by rw [Ex.size_len]; exact ha
  have HS := Lib.hid (Ex.starts_cnt a0.data.toList a hlen)
  have HL := Lib.hid (lineColOf_nat a0 a)
  have g1 := Ex.lineStart_le a0.data.toList a
  have g2 := Ex.cnt_le a0.data.toList a
  have hcb : (Ex.cnt a0.data.toList a : Int) ≤ 9223372036854775807 := by omega
  obtain ⟨T, hT⟩ : ∃ T : ByteArray, T = ⟨(Ex.line a0.data.toList (Ex.lineStart a0.data.toList a)).toArray⟩ := ⟨_, rfl⟩
  obtain ⟨X, hX⟩ : ∃ X : ByteArray, X = ⟨(Ex.excerpt a0.data.toList a b).toArray⟩ := ⟨_, rfl⟩
  obtain ⟨c, hc⟩ : ∃ c : Nat, c = a - Ex.lineStart a0.data.toList a := ⟨_, rfl⟩
  have hTd : T.data.toList = Ex.line a0.data.toList (Ex.lineStart a0.data.toList a) := by rw [hT]
  have hTz : (T.size : Int) = (Ex.lineEnd a0.data.toList (Ex.lineStart a0.data.toList a) : Int) - Ex.lineStart a0.data.toList a := by rw [hT]; exact line_size a0 _
  have hTs : T.size ≤ 4000 ∧ c ≤ T.size := by
    rw [lineEnd_start _ _ hlen] at hTz
    have h1 := Ex.lineEnd_le a0.data.toList a hlen
    have h2 := Ex.lineEnd_ge a0.data.toList a
    rw [Ex.size_len] at h1
    omega
  obtain ⟨R, hR⟩ := aligned_of T X c (b - a) hTs.2 (by rw [hX, hTd, hc]; rfl)
  generalize (Ex.margin (T.data.toList.take c)).length = m at hR
  have HR := Lib.hid hR
  have hRs : R.size ≤ 9000 := by
    have h1 := hR.len
    have h2 := hR.mc
    omega
  have hXs : X.size ≤ 14000 := by
    have h1 := size_extract X (T.size + 1) X.size (Nat.le_refl _) (by have := hR.size; omega)
    rw [hR.rest] at h1
    omega
  have HT := Lib.hid hT
  have HX := Lib.hid hX
  rw [← hc] at HL
  have hca : c ≤ T.size := hTs.2
  have hTs4 : T.size ≤ 4000 := hTs.1
  clear hT hX hc hTd hTz hTs hR
  have f1 : T.size + 2 ≤ X.size := HR.out.size
  have f2 : X.extract 0 (T.size + 1) = T ++ ⟨#[10]⟩ := HR.out.head
  have f4 : X.extract (T.size + 1) X.size = R := HR.out.rest
  have hx1 : X.size - 1 < X.size := by omega
  have f3 : (((X[X.size - 1]'hx1).toNat : Int) != 94) = false := by rw [at_is X _ hx1 94 HR.out.last]; rfl
  have f5 := HR.out.mlt
  have f6 := HR.out.mc
  have hd0 : decide ((1000 : Int) < a0.size) = false := by simp; omega
  go_enter Try.func9, Try.ntmps9
  go_wp2_with fail
  refine (awake_any _).mono ?_
  rintro e wa ⟨rfl, hb⟩
  have HB := Lib.hid hb
  clear hb
  go_wp2_with fail
  refine (Excerpt_in _ _ _ hab hbs hs _).mono ?_
  rintro e wb ⟨rfl, hbb⟩
  rw [← HX.out]
  have HB2 := Lib.hid (HB.out.trans (hbb.mono (by have := HB.out.size; omega)))
  clear hbb HB
  go_wp2_with fail
  refine (LineCol_in _ _ ha hs _).mono ?_
  rintro e w' ⟨rfl, rfl⟩
  rw [HL.out]
  go_wp2_with fail
  refine (Line_some _ _ _ hcb hs HS.out _).mono ?_
  rintro e wc ⟨rfl, hbb⟩
  rw [← HT.out]
  have HB3 := Lib.hid (HB2.out.trans (hbb.mono (by have := HB2.out.size; omega)))
  clear hbb HB2
  go_wp2
  clear f3
  go_loop [15] (fun i => ∃ k : Nat, k ≤ m ∧ i = .int .i64 k) (fun i => m - (intOf i).toNat)
  case atStart => exact ⟨0, by omega, rfl⟩
  case round =>
    obtain ⟨k, hk, rfl⟩ := hrel
    have hkR : k < R.size := by omega
    have hkR' : (k : Int) < R.size := by omega
    have hdk : decide ((k : Int) < R.size) = true := by simp; omega
    by_cases hlt : k < m
    · rcases HR.out.lo k hlt with h32 | h9
      · have hv := at_is R k hkR 32 h32
        have q1 : (((R[k]).toNat : Int) != 94) = true := by rw [hv]; rfl
        have q2 : (((R[k]).toNat : Int) != 32) = false := by rw [hv]; rfl
        clear h32 hv
        go_wp2
        go_round
        case rel => exact ⟨k + 1, by omega, by go_num⟩
        case measure => simp [intOf]; omega
      · have hv := at_is R k hkR 9 h9
        have q1 : (((R[k]).toNat : Int) != 94) = true := by rw [hv]; rfl
        have q2 : (((R[k]).toNat : Int) != 32) = true := by rw [hv]; rfl
        have q3 : (((R[k]).toNat : Int) != 9) = false := by rw [hv]; rfl
        clear h9 hv
        go_wp2
        go_round
        case rel => exact ⟨k + 1, by omega, by go_num⟩
        case measure => simp [intOf]; omega
    · have hkm : k = m := by omega
      subst hkm
      have q1 : (((R[k]).toNat : Int) != 94) = false := by rw [at_is R k hkR 94 (HR.out.hi k (by omega) hkR)]; rfl
      go_wp2
      clear q1
      go_loop [16] (fun i => ∃ j : Nat, k ≤ j ∧ j ≤ R.size ∧ i = .int .i64 j) (fun i => R.size - (intOf i).toNat)
      case atStart => exact ⟨k, by omega, by omega, rfl⟩
      case round =>
        obtain ⟨j, hj1, hj2, rfl⟩ := hrel
        by_cases hlt2 : j < R.size
        · have hlt2' : (j : Int) < R.size := by omega
          have q1 : (((R[j]).toNat : Int) != 94) = false := by rw [at_is R j hlt2 94 (HR.out.hi j hj1 hlt2)]; rfl
          go_wp2
          go_round
          case rel => exact ⟨j + 1, by omega, by omega, by go_num⟩
          case measure => simp [intOf]; omega
        · have hge : (R.size : Int) ≤ j := by omega
          go_wp2
          go_loop [17] (fun i => ∃ x : Nat, x ≤ T.size ∧ i = .int .i64 x ∧ Hid (∀ y (h : y < T.size), y < x → (T[y]).toNat < 128)) (fun i => T.size - (intOf i).toNat)
          case atStart => exact ⟨0, by omega, rfl, Lib.hid (fun y h h2 => by omega)⟩
          case round =>
            obtain ⟨x, hx, rfl, HA⟩ := hrel
            by_cases hlt3 : x < T.size
            · have hlt3' : (x : Int) < T.size := by omega
              by_cases h128 : (T[x]).toNat < 128
              · have q1 : ((T[x]).toNat : Int) < 128 := by omega
                have HA' : Hid (∀ y (h : y < T.size), y < x + 1 → (T[y]).toNat < 128) := Lib.hid (fun y h h2 => by
                  by_cases e : y = x
                  · subst e; exact h128
                  · exact HA.out y h (by omega))
                clear h128
                go_wp2
                go_round
                case rel => exact ⟨x + 1, by omega, by go_num, HA'⟩
                case measure => simp [intOf]; omega
              · have q1 : (128 : Int) ≤ (T[x]).toNat := by omega
                have f6' : (k : Int) ≤ c := by omega
                clear h128
                go_wp2
                go_ret
                exact ⟨rfl, HB3.out⟩
            · have hge3 : (T.size : Int) ≤ x := by omega
              have hkc : k = c := HR.out.eq (fun bb hbb => by
                obtain ⟨y, hy, rfl⟩ := List.mem_iff_getElem.1 hbb
                have hy2 : y < T.size := by rw [Ex.size_len] at hy; exact hy
                have := HA.out y hy2 (by omega)
                have e := get_at T y hy2
                rw [List.getElem?_eq_getElem hy] at e
                rw [Option.some.inj e]
                exact this)
              have hlen2 := HR.out.len
              subst hkc
              have hl3 : (R.size : Int) - k ≤ max 1 ((b : Int) - a) := by omega
              clear hlen2
              go_wp2
              go_ret
              exact ⟨rfl, HB3.out⟩

end Go.Proofs.Ytbhbjjkpbdplpaa
