/- What Read does. -/
import Derived.Test.YtmdppblhbmbakaaGreatDoorI5
import Derived.Test.YtmdppblhbmbakaaGreatDoorV2
import Derived.Test.YtmdppblhbmbakaaGreatDoorCn
set_option linter.unusedVariables false
set_option linter.unusedSimpArgs false
namespace Go.Proofs.YtmdppblhbmbakaaGreatDoor
open Go.RowKit _root_.Go.Proofs.YtmdppblhbmbakaaGreatDoor.Nm

set_option maxRecDepth 100000 in
set_option maxHeartbeats 1600000 in
theorem Read_short (P : Nat → Prop) (s : ByteArray) (h : canon s.data.toList = true) (hl : s.size ≤ 18) (w : World) :
    Calls Tryz.prog 122 #[.string s] w (IntPost P (zv s.data.toList) w) := by
  have hv := short_zv _ h (by rw [len_size]; exact hl)
  have hp := parse_canon _ h
  rw [if_pos (by omega)] at hp
  have HP := Lib.hid hp
  have HV := Lib.hid hv
  have hd : decide ((s.size : Int) ≤ 18) = true := by simp; omega
  clear h hp hv
  generalize zv s.data.toList = z at HP HV ⊢
  go_enter Tryz.func122, Tryz.ntmps122
  go_wp2_with fail
  refine (Tryz.strconv_ParseInt_10_at64_ok s (by omega) z HP.out _).mono ?_
  rintro e w1 ⟨rfl, hw⟩
  have HB := Lib.hid (below_of_parse hw)
  obtain ⟨q0, q1, q2, q3⟩ := ((Bx.new w _ _ _).below HB.out (by simp)).cell
  clear hw
  go_wp2
  refine bodyPost_ret (v := .agg #[.int .i64 z, .pointer none]) (by simp [results, Tryz.results122, go_sem, q0, q1]) rfl ?_
  have ho : Only w.heap.size w1 ((w1.setCell ⟨w.heap.size, 0, none⟩ (.int .i64 z)).setCell ⟨w.heap.size, 1, none⟩ (.pointer none)) := ((Only.refl _ w1).set 0 _).set 1 _
  exact ⟨_, rfl, .inl ⟨HV.out, rfl⟩, (((Below.refl w.heap.size w).alloc (Nat.le_refl _) _).trans (HB.out.mono (by simp))).trans (ho.below (Nat.le_refl _))⟩

set_option maxRecDepth 100000 in
set_option maxHeartbeats 1600000 in
theorem Read_pos (P : Nat → Prop) (s : ByteArray) (h : canon s.data.toList = true) (hl : ¬ s.size ≤ 18) (h45 : s.data.toList.head? ≠ some 45) (w : World) (hP : ∀ k, w.heap.size ≤ k → P k) :
    Calls Tryz.prog 122 #[.string s] w (IntPost P (zv s.data.toList) w) := by
  rw [canon_pos _ h45] at h
  simp only [Bool.and_eq_true, decide_eq_true_eq] at h
  obtain ⟨h1, h2⟩ := canonN_parts h.1
  have h4 := h.2
  rw [len_size] at h2 h4
  have hz0 : (0 : Int) < s.size := by omega
  have hb1 : (((s[0]).toNat : Int) == 45) = false := by
    rw [beq_eq_false_iff_ne]; intro hh
    apply h45
    rw [head_zero s h2]
    exact congrArg some (UInt8.toNat_inj.1 (by rw [show (45 : UInt8).toNat = 45 from rfl]; omega))
  have HZ : Hid (sz false (tv s.data.toList) = zv s.data.toList) := Lib.hid (zv_pos _ h45).symm
  have HD := Lib.hid h1
  have HK : Hid (∀ k, w.heap.size + 1 ≤ k → P k ∧ k ≠ w.heap.size) := Lib.hid (fun k hk => ⟨hP k (by omega), by omega⟩)
  have hd : decide ((s.size : Int) ≤ 18) = false := by simp; omega
  clear h h1 h45 hP hl
  generalize zv s.data.toList = z at HZ ⊢
  go_enter Tryz.func122, Tryz.ntmps122
  go_wp2_with fail
  refine (readNatural_any s h2 h4 HD.out _).mono ?_
  rintro e w1 ⟨v, rfl, hv, hf, hb⟩
  have HV := Lib.hid hv
  have HF := Lib.hid hf
  have HB := Lib.hid hb
  clear hv hf hb
  go_wp2_with fail
  refine (signed_any (fun k => P k ∧ k ≠ w.heap.size) _ _ _ _ (by intro k hk; exact HK.out k (Nat.le_trans (by have := HB.out.size; simp at this; omega) hk)) HV.out (In.fresh HF.out (by intro k hk; exact HK.out k (by simpa using hk)))).mono ?_
  rintro e w2 ⟨v2, rfl, hv, hb⟩
  rw [HZ.out] at hv
  obtain ⟨s', p, rfl⟩ := hv.form
  obtain ⟨q0, q1, q2, q3⟩ := (((Bx.new w _ _ _).below HB.out (by simp)).below hb (by have := HB.out.size; simp at this; omega)).cell
  have HV2 := Lib.hid hv
  have HB2 := Lib.hid (((Below.refl w.heap.size w).alloc (Nat.le_refl _) _).trans ((HB.out.mono (by simp)).trans (hb.mono (by have := HB.out.size; simp at this; omega))))
  clear hv hb
  go_wp2
  refine bodyPost_ret (v := .agg #[.int .i64 s', .pointer p]) (by simp [results, Tryz.results122, go_sem, q0, q1]) rfl ?_
  exact IntPost.boxed HB2.out (Nat.le_refl _) HV2.out

set_option maxRecDepth 100000 in
set_option maxHeartbeats 1600000 in
theorem Read_neg (P : Nat → Prop) (s : ByteArray) (r : List UInt8) (h : canon s.data.toList = true) (hl : ¬ s.size ≤ 18) (hr : s.data.toList = 45 :: r) (w : World) (hP : ∀ k, w.heap.size ≤ k → P k) :
    Calls Tryz.prog 122 #[.string s] w (IntPost P (zv s.data.toList) w) := by
  have hx := ext_one s r hr
  have hsz := len_size s
  rw [hr] at h hsz
  rw [canon_neg] at h
  simp only [Bool.and_eq_true, decide_eq_true_eq] at h
  obtain ⟨h1, h2⟩ := canonN_parts h.1.1
  have h4 := h.2
  have hxs := len_size (s.extract 1 s.size)
  rw [hx] at hxs
  have hz0 : (0 : Int) < s.size := by simp at hsz; omega
  have hz1 : (1 : Int) ≤ s.size := by omega
  have h0 : 0 < s.size := by omega
  have hb1 : (((s[0]).toNat : Int) == 45) = true := by
    have := head_zero s h0
    rw [hr] at this
    simp at this
    rw [← this]; rfl
  have HZ : Hid (sz true (tv r) = zv s.data.toList) := Lib.hid (by rw [hr, zv_neg]; rfl)
  have HX := Lib.hid hx
  have HD := Lib.hid h1
  have HK : Hid (∀ k, w.heap.size + 1 ≤ k → P k ∧ k ≠ w.heap.size) := Lib.hid (fun k hk => ⟨hP k (by omega), by omega⟩)
  have hd : decide ((s.size : Int) ≤ 18) = false := by simp; omega
  rw [hxs] at h2 h4
  clear h h1 hr hx hsz hxs hP hl
  generalize zv s.data.toList = z at HZ ⊢
  go_enter Tryz.func122, Tryz.ntmps122
  go_wp2_with fail
  refine (readNatural_any (s.extract 1 s.size) h2 h4 (by rw [HX.out]; exact HD.out) _).mono ?_
  rw [HX.out]
  rintro e w1 ⟨v, rfl, hv, hf, hb⟩
  have HV := Lib.hid hv
  have HF := Lib.hid hf
  have HB := Lib.hid hb
  clear hv hf hb
  go_wp2_with fail
  refine (signed_any (fun k => P k ∧ k ≠ w.heap.size) _ _ _ _ (by intro k hk; exact HK.out k (Nat.le_trans (by have := HB.out.size; simp at this; omega) hk)) HV.out (In.fresh HF.out (by intro k hk; exact HK.out k (by simpa using hk)))).mono ?_
  rintro e w2 ⟨v2, rfl, hv, hb⟩
  rw [HZ.out] at hv
  obtain ⟨s', p, rfl⟩ := hv.form
  obtain ⟨q0, q1, q2, q3⟩ := (((Bx.new w _ _ _).below HB.out (by simp)).below hb (by have := HB.out.size; simp at this; omega)).cell
  have HV2 := Lib.hid hv
  have HB2 := Lib.hid (((Below.refl w.heap.size w).alloc (Nat.le_refl _) _).trans ((HB.out.mono (by simp)).trans (hb.mono (by have := HB.out.size; simp at this; omega))))
  clear hv hb
  go_wp2
  refine bodyPost_ret (v := .agg #[.int .i64 s', .pointer p]) (by simp [results, Tryz.results122, go_sem, q0, q1]) rfl ?_
  exact IntPost.boxed HB2.out (Nat.le_refl _) HV2.out

theorem Read_any (P : Nat → Prop) (s : ByteArray) (h : canon s.data.toList = true) (w : World) (hP : ∀ k, w.heap.size ≤ k → P k) :
    Calls Tryz.prog 122 #[.string s] w (IntPost P (zv s.data.toList) w) := by
  by_cases hl : s.size ≤ 18
  · exact Read_short P s h hl w
  · by_cases h45 : s.data.toList.head? = some 45
    · obtain ⟨r, hr⟩ := cons_of_head _ h45
      exact Read_neg P s r h hl hr w hP
    · exact Read_pos P s h hl h45 w hP

end Go.Proofs.YtmdppblhbmbakaaGreatDoor
