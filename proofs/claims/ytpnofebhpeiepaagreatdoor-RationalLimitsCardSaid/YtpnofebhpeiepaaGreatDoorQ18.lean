/- The law RationalLimits, walked. -/
import Derived.Test.YtpnofebhpeiepaaGreatDoorQ17
set_option linter.unusedVariables false
set_option linter.unusedSimpArgs false
namespace Go.Proofs.YtpnofebhpeiepaaGreatDoor
open Go.RowKit _root_.Go.Proofs.YtpnofebhpeiepaaGreatDoor.Nm

theorem fill_set (k : Nat) (hk : k < 400) : (List.replicate k 57 ++ List.replicate (400 - k) 0).set k (57 : Nat) = List.replicate (k + 1) 57 ++ List.replicate (400 - (k + 1)) 0 := by
  obtain ⟨m, hm⟩ : ∃ m, 400 - k = m + 1 := ⟨400 - k - 1, by omega⟩
  rw [hm, show 400 - (k + 1) = m from by omega, List.replicate_succ (n := m), List.set_append_right _ _ (by simp), List.length_replicate, Nat.sub_self, List.set_cons_zero, List.replicate_succ', List.append_assoc]
  rfl

theorem dig_of (a : Nat) (h : 49 ≤ a) (h2 : a ≤ 57) : isDig (UInt8.ofNat a) = true ∧ UInt8.ofNat a ≠ 48 := by
  have h1 : (UInt8.ofNat a).toNat = a := by simp; omega
  refine ⟨?_, ?_⟩
  · unfold isDig; rw [h1]; simp; omega
  · intro e
    rw [e] at h1
    have : (48 : UInt8).toNat = 48 := by decide
    omega

theorem conv_own (w : World) (g : Nat) (l : List UInt8) (n : Nat) (hn : l.length = n) (h : Own .u8 5 w g (l.map (·.toNat))) :
    (convert 57 9 (.slice (some ⟨g, 0, none⟩) n n)).run Tryz.prog w = .ok (.string ⟨l.toArray⟩) w := by
  subst hn
  refine run_convert_bytes_back w _ _ 5 _ _ l Tryz.underlying57 Tryz.underlying5 Tryz.underlying9 fun j hj => ?_
  have hc := h.cell j (by rw [List.length_map]; exact hj)
  rw [List.getElem_map] at hc
  rw [addr_add, Nat.zero_add]
  exact hc

set_option maxRecDepth 100000 in
set_option maxHeartbeats 6400000 in
theorem law_RationalLimits (f l : Int) (hf : 0 ≤ f ∧ f ≤ 255) (hl : 0 ≤ l ∧ l ≤ 255) (w : World) (htab : Tab w) :
    Calls Tryz.prog 9 #[.int .u8 f, .int .u8 l] w fun e w' => e = .returned (.bool true) ∧ Below w.heap.size w w' := by
  have HT := Lib.hid htab
  obtain ⟨f0, f1⟩ := hf
  obtain ⟨l0, l1⟩ := hl
  obtain ⟨i0, hi, hz0, hz1, hz2⟩ := info_parts info8
  have HI := Lib.hid hi
  have HZ0 := Lib.hid hz0
  have HZ1 := Lib.hid hz1
  have HZ2 := Lib.hid hz2
  clear hi hz0 hz1 hz2 htab
  go_enter Tryz.func9, Tryz.ntmps9
  go_wp2_with (refine wpList_make_full _ rfl (.const (.int .i64 400)) (.const (.int .i64 400)) 57 rfl w.heap.size 5 i0 (.int .u8 0) 1 Tryz.underlying57 HI.out HZ0.out HZ1.out .i64 .i64 _ _ 400 rfl rfl rfl rfl (by rw [HZ2.out]; omega) (by unfold maxLen; omega) (Nat.le_refl _) ?_; intro w1 hown hgrow; refine hold ?_)
  rw [made_zeros] at hown
  obtain ⟨hO, _⟩ := own_of_full (by simp) hown
  have HB1 := Lib.hid ((Below.refl _ _).grown hgrow (Nat.le_refl _) (fun k hk => by simp at hk))
  have HO := Lib.hid hO
  clear hown hgrow hO
  refine go_on ?_
  obtain ⟨g, hg⟩ : ∃ g, w.heap.size = g := ⟨_, rfl⟩
  have HG := Lib.hid hg
  rw [hg] at HO ⊢
  clear hg
  go_wp2
  go_loopw [21] (fun i wr => ∃ k : Nat, k ≤ 400 ∧ i = .int .i64 k ∧ Hid (Own .u8 5 wr g (List.replicate k 57 ++ List.replicate (400 - k) 0)) ∧ Hid (Only g w1 wr)) (fun i _ => 400 - (intOf i).toNat)
  case atStart => exact ⟨0, by omega, rfl, HO, Lib.hid (Only.refl _ _)⟩
  case round =>
    obtain ⟨k, hk, rfl, HO1, HN⟩ := hrel
    by_cases hlt : k < 400
    · have hln : k < (List.replicate k (57 : Nat) ++ List.replicate (400 - k) 0).length := by rw [List.length_append, List.length_replicate, List.length_replicate]; omega
      have c0 := HO1.out.cell k hln
      obtain ⟨x, hx⟩ : ∃ x, (List.replicate k (57 : Nat) ++ List.replicate (400 - k) 0)[k] = x := ⟨_, rfl⟩
      rw [hx] at c0
      have c1 := HO1.out.free k
      have h1 : (0 : Int) ≤ k := by omega
      have h2 : (k : Int) < 400 := by omega
      have HO2 : Hid (Own .u8 5 (wr.setCell ⟨g, k, none⟩ (.int .u8 57)) g (List.replicate (k + 1) 57 ++ List.replicate (400 - (k + 1)) 0)) := Lib.hid (by have h := HO1.out.set k 57; rw [fill_set k hlt] at h; exact h)
      have HN2 := Lib.hid (HN.out.set k (.int .u8 57))
      clear hx hln
      go_wp2
      go_roundw
      case rel => exact ⟨k + 1, by omega, by go_num, HO2, HN2⟩
      case measure => simp [intOf]; omega
    · obtain rfl : k = 400 := by omega
      have hO : Own .u8 5 wr g (List.replicate 400 57) := by have h := HO1.out; rw [Nat.sub_self, List.replicate_zero, List.append_nil] at h; exact h
      have hln : ∀ x : Nat, x < 400 → x < (List.replicate 400 (57 : Nat)).length := fun x hx => by rw [List.length_replicate]; exact hx
      have c0 := hO.cell 0 (hln 0 (by omega))
      have c1 := hO.cell 399 (hln 399 (by omega))
      obtain ⟨x, hx⟩ : ∃ x, (List.replicate 400 (57 : Nat))[0]'(hln 0 (by omega)) = x := ⟨_, rfl⟩
      obtain ⟨y, hy⟩ : ∃ x, (List.replicate 400 (57 : Nat))[399]'(hln 399 (by omega)) = x := ⟨_, rfl⟩
      rw [hx] at c0
      rw [hy] at c1
      have c2 := hO.free 0
      have c3 := hO.free 399
      have HO4 := Lib.hid hO
      clear hx hy hln hk hlt HO1 hO
      go_upto_region 9 with fail
      obtain ⟨a, ha, ha1, ha2⟩ : ∃ a : Nat, 49 + f % 9 = (a : Int) ∧ 49 ≤ a ∧ a ≤ 57 := ⟨(49 + f % 9).toNat, by omega, by omega, by omega⟩
      obtain ⟨d, hd, hd1, hd2⟩ : ∃ a : Nat, 49 + 2 * (l % 5) = (a : Int) ∧ 49 ≤ a ∧ a ≤ 57 := ⟨(49 + 2 * (l % 5)).toNat, by omega, by omega, by omega⟩
      rw [ha, hd]
      have hO5 := (HO4.out.set 0 a).set 399 d
      rw [limC_of, limC_limL a d (by omega) (by omega)] at hO5
      have hN5 := (HN.out.set 0 (.int .u8 (a : Int))).set 399 (.int .u8 (d : Int))
      have HW0 := Lib.hid (HB1.out.trans (hN5.below (by have := HG.out; omega)))
      obtain ⟨n, hlim⟩ := lim_of (UInt8.ofNat a) (UInt8.ofNat d) (dig_of a ha1 ha2).1 (dig_of a ha1 ha2).2 (dig_of d hd1 hd2).1
      have hconv := conv_own _ g _ 400 (limL_len (UInt8.ofNat a) (UInt8.ofNat d)) hO5
      generalize (wr.setCell ⟨g, 0, none⟩ (.int .u8 (a : Int))).setCell ⟨g, 399, none⟩ (.int .u8 (d : Int)) = wx at *
      generalize (⟨(limL (UInt8.ofNat a) (UInt8.ofNat d)).toArray⟩ : ByteArray) = BIG at *
      clear hO5 hN5 ha hd ha1 ha2 hd1 hd2 c0 c1 c2 c3 HO4 HN HO HB1
      go_upto_region 10 with fail
      clear hconv
      have hsz := hlim.ris.size
      have hsz3 := hlim.quo.size
      have hbz : ((BIG ++ (⟨#[48]⟩ : ByteArray)).size) ≤ 2000 := by rw [ByteArray.size_append]; show BIG.size + 1 ≤ 2000; omega
      have HS : Hid (BIG.size ≤ 100000 ∧ ((⟨#[49, 47]⟩ : ByteArray) ++ BIG).size ≤ 100000 ∧ (BIG ++ (⟨#[48]⟩ : ByteArray)).size ≤ 100000) := Lib.hid ⟨by omega, by omega, by omega⟩
      have O1 := Lib.hid hlim.mul
      have O2 := Lib.hid hlim.sub
      have O3 := Lib.hid hlim.div
      have O4 := Lib.hid hlim.div2
      have O5 := Lib.hid hlim.add
      have V1 := Lib.hid hlim.valid
      have V2 := Lib.hid hlim.invalid
      have hs1 : ¬ (9223372036854775807 : Int) < BIG.size + 1 := by omega
      have hs2 : ¬ (9223372036854775807 : Int) < 2 + BIG.size := by omega
      clear hlim hsz hsz3 hbz f0 f1 l0 l1
      go_wp2_with fail
      refine (qMul_any BIG ⟨#[49, 48]⟩ ⟨#[]⟩ 5 _ O1 HS.out.1 (by decide) (tab_keep HT.out HW0.out)).mono ?_
      rintro e v1 ⟨rfl, hb⟩
      have HW1 := Lib.hid (HW0.out.trans (hb.mono HW0.out.size))
      clear hb
      go_wp2_with fail
      refine (qSub_any BIG BIG ⟨#[48]⟩ 0 _ O2 HS.out.1 HS.out.1 (tab_keep HT.out HW1.out)).mono ?_
      rintro e v2 ⟨rfl, hb⟩
      have HW2 := Lib.hid (HW1.out.trans (hb.mono HW1.out.size))
      clear hb
      go_wp2_with fail
      refine (qDiv_any ⟨#[49]⟩ BIG ((⟨#[49, 47]⟩ : ByteArray) ++ BIG) 0 _ O3 (by decide) HS.out.1 (tab_keep HT.out HW2.out)).mono ?_
      rintro e v3 ⟨rfl, hb⟩
      have HW3 := Lib.hid (HW2.out.trans (hb.mono HW2.out.size))
      clear hb
      go_wp2_with fail
      refine (qDiv_any ((⟨#[49, 47]⟩ : ByteArray) ++ BIG) ⟨#[49, 48]⟩ ⟨#[]⟩ 5 _ O4 HS.out.2.1 (by decide) (tab_keep HT.out HW3.out)).mono ?_
      rintro e v4 ⟨rfl, hb⟩
      have HW4 := Lib.hid (HW3.out.trans (hb.mono HW3.out.size))
      clear hb
      go_wp2_with fail
      refine (qAdd_any BIG ⟨#[48]⟩ BIG 0 _ O5 HS.out.1 (by decide) (tab_keep HT.out HW4.out)).mono ?_
      rintro e v5 ⟨rfl, hb⟩
      have HW5 := Lib.hid (HW4.out.trans (hb.mono HW4.out.size))
      clear hb
      go_wp2_with fail
      refine (qawake_any _ (tab_keep HT.out HW5.out)).mono ?_
      rintro e v6 ⟨rfl, hb⟩
      have HW6 := Lib.hid (HW5.out.trans (hb.mono HW5.out.size))
      clear hb
      go_wp2_with fail
      refine (qValid_any BIG true _ V1 HS.out.1).mono ?_
      rintro e v7 ⟨rfl, hb⟩
      have HW7 := Lib.hid (HW6.out.trans (hb.mono HW6.out.size))
      clear hb
      go_wp2_with fail
      refine (qValid_any (BIG ++ (⟨#[48]⟩ : ByteArray)) false _ V2 HS.out.2.2).mono ?_
      rintro e v8 ⟨rfl, hb⟩
      have HW8 := Lib.hid (HW7.out.trans (hb.mono HW7.out.size))
      clear hb
      go_wp2
      go_ret
      exact ⟨rfl, HW8.out⟩

end Go.Proofs.YtpnofebhpeiepaaGreatDoor
