/- What the reference's Of does. -/
import Derived.Test.YtdkpcjfadabkbaaGreatDoorR1
set_option linter.unusedVariables false
set_option linter.unusedSimpArgs false
namespace Go.Proofs.YtdkpcjfadabkbaaGreatDoor
open Go.RowKit _root_.Go.Proofs.YtdkpcjfadabkbaaGreatDoor.Nm

/-- The digits of a text, without its sign. -/
def dgs (l : List UInt8) : List Nat := (l.filter (fun c => c != 45)).map dig

theorem dgs_snoc (l : List UInt8) (c : UInt8) : dgs (l ++ [c]) = if c = 45 then dgs l else dgs l ++ [dig c] := by
  unfold dgs
  rw [List.filter_append, List.map_append]
  by_cases h : c = 45
  · rw [if_pos h, h]; simp
  · rw [if_neg h]; simp [h]

theorem any_snoc (l : List UInt8) (c : UInt8) : (l ++ [c]).any (fun c => c == 45) = (l.any (fun c => c == 45) || c == 45) := by
  rw [List.any_append]; simp

theorem dgs_digits (l : List UInt8) (h : l.all isDig = true) : dgs l = l.map dig ∧ l.any (fun c => c == 45) = false := by
  have h45 : ∀ c ∈ l, c ≠ 45 := by
    rintro c hc rfl
    have := List.all_eq_true.1 h _ hc
    simp [isDig] at this
  refine ⟨?_, ?_⟩
  · unfold dgs
    rw [List.filter_eq_self.2 (fun c hc => by simp [h45 c hc])]
  · rw [List.any_eq_false]
    intro c hc
    simpa using h45 c hc

theorem dval_map (l : List UInt8) : dval (l.map dig) = tv l := by
  unfold dval tv; rw [List.map_reverse]

theorem of_canon (l : List UInt8) (h : canon l = true) : sz (l.any (fun c => c == 45)) (dval (dgs l)) = zv l ∧ (∀ x ∈ dgs l, x < 10) ∧ (∀ c ∈ l, c = 45 ∨ isDig c = true) := by
  by_cases h45 : l.head? = some 45
  · cases l with
    | nil => simp at h45
    | cons c r =>
      simp at h45
      subst h45
      rw [canon_neg] at h
      simp only [Bool.and_eq_true] at h
      obtain ⟨h1, h2⟩ := canonN_parts h.1.1
      obtain ⟨e1, e2⟩ := dgs_digits r h1
      have e3 : dgs (45 :: r) = dgs r := by unfold dgs; simp
      refine ⟨?_, ?_, ?_⟩
      · rw [e3, e1, dval_map, zv_neg]; unfold sz; simp
      · rw [e3, e1]
        intro x hx
        obtain ⟨c, hc, rfl⟩ := List.mem_map.1 hx
        exact dig_lt c (List.all_eq_true.1 h1 c hc)
      · intro c hc
        rcases List.mem_cons.1 hc with rfl | hc
        · exact .inl rfl
        · exact .inr (List.all_eq_true.1 h1 c hc)
  · rw [canon_pos l h45] at h
    simp only [Bool.and_eq_true] at h
    obtain ⟨h1, h2⟩ := canonN_parts h.1
    obtain ⟨e1, e2⟩ := dgs_digits l h1
    refine ⟨?_, ?_, ?_⟩
    · rw [e1, e2, dval_map, zv_pos l h45]; unfold sz; simp
    · rw [e1]
      intro x hx
      obtain ⟨c, hc, rfl⟩ := List.mem_map.1 hx
      exact dig_lt c (List.all_eq_true.1 h1 c hc)
    · intro c hc
      exact .inr (List.all_eq_true.1 h1 c hc)

/-- A row of integers of the call's own. -/
def Ow (W : World) (B : Nat) (v : Value) (xs : List Nat) : Prop := W.ownsRow B 3 1 v xs.length (xs.map (fun x => Value.int .i64 (x : Nat)))

theorem Ow.rd {W : World} {B : Nat} {v : Value} {xs : List Nat} (h : Ow W B v xs) (hl : xs.length ≤ 60000) : Rd .i64 W v xs := by
  rcases h.2 with ⟨rfl, h0⟩ | ⟨g, cap, cur, rfl, hB, hg, h1, h2, h3, h4⟩
  · have : xs = [] := List.length_eq_zero_iff.1 h0
    subst this
    exact Rd.nil _ _ _ _ ⟨by omega, by unfold maxLen; omega⟩
  · have hlt : g < W.heap.size := by
      rcases Nat.lt_or_ge g W.heap.size with h' | h'
      · exact h'
      · simp [Array.getElem?_eq_none h'] at hg
    refine Rd.mk h1 ⟨hl, h2⟩ hlt (fun i hi => ?_)
    rw [Nat.mul_one] at h4
    have h5 : (cur.toList.take xs.length)[i]? = some (Value.int .i64 (xs[i] : Nat)) := by rw [h4]; simp [hi]
    rw [List.getElem?_take, if_pos hi] at h5
    simp only [World.cell?, hg, Nat.zero_add]
    simpa using h5

theorem info64 : (Tryz.prog.info? 3).map (fun i => (i.zero, i.size, i.bytes)) = some (some (.int .i64 0), 1, 8) := by kernel_rfl

/-- The state of Of's loop. -/
structure OfInv (w : World) (l : List UInt8) (k : Nat) (wr : World) (v : Value) : Prop where
  own : Ow wr (w.heap.size + 1) v (dgs (l.take k))
  below : Below (w.heap.size + 1) (w.alloc (.cells #[.bool false, .slice none 0 0] 30)) wr

set_option maxRecDepth 100000 in
set_option maxHeartbeats 3200000 in
theorem rOf_any (s : ByteArray) (h : canon s.data.toList = true) (w : World) :
    Calls Tryz.prog 12 #[.string s] w (RefPost (zv s.data.toList) w) := by
  have hsz := canon_size s h
  obtain ⟨hz, hd, hc⟩ := of_canon _ h
  have HZ := Lib.hid (And.intro trivial hz)
  have HD := Lib.hid hd
  have HC := Lib.hid hc
  obtain ⟨z, hzz⟩ : ∃ z, zv s.data.toList = z := ⟨_, rfl⟩
  rw [hzz] at HZ ⊢
  clear h hz hd hc hzz
  obtain ⟨i0, hi, hz0, hz1, hz2⟩ := info_parts info64
  have HI := Lib.hid hi
  have HZ0 := Lib.hid hz0
  have HZ1 := Lib.hid hz1
  have HZ2 := Lib.hid hz2
  clear hi hz0 hz1 hz2
  go_enter Tryz.func12, Tryz.ntmps12
  go_wp2
  go_loopw [3, 4, 5] (fun n v i wr => ∃ k : Nat, k ≤ s.size ∧ i = .int .i64 k ∧ Hid (n = .bool ((s.data.toList.take k).any (fun c => c == 45))) ∧ Hid (OfInv w s.data.toList k wr v)) (fun _ _ i _ => s.size - (intOf i).toNat)
  case atStart => exact ⟨0, by omega, rfl, Lib.hid rfl, Lib.hid ⟨⟨by simp [dgs], .inl ⟨rfl, rfl⟩⟩, Below.refl _ _⟩⟩
  case round =>
    obtain ⟨k, hk, rfl, HN, HI1⟩ := hrel
    by_cases hlt : k < s.size
    · have hlt' : (k : Int) < s.size := by omega
      have hb := byte_at s k hlt
      have htk : s.data.toList.take (k + 1) = s.data.toList.take k ++ [s[k]] := by rw [List.take_add_one, hb]; rfl
      by_cases h45 : s[k] = 45
      · have hc1 : ((s[k].toNat : Int) == 45) = true := by rw [h45]; rfl
        have HN2 : Hid (Value.bool true = .bool ((s.data.toList.take (k + 1)).any (fun c => c == 45))) := Lib.hid (by rw [htk, any_snoc, h45]; simp)
        have HI2 : Hid (OfInv w s.data.toList (k + 1) wr u4) := Lib.hid ⟨by have := HI1.out.own; rw [htk, dgs_snoc, if_pos h45]; exact this, HI1.out.below⟩
        clear hb htk
        go_wp2
        go_roundw
        case rel => exact ⟨k + 1, by omega, by go_num, HN2, HI2⟩
        case measure => simp [intOf]; omega
      · have hdig : isDig s[k] = true := by
          rcases HC.out s[k] (List.mem_iff_getElem?.2 ⟨k, hb⟩) with h | h
          · exact absurd h h45
          · exact h
        have hc1 : ((s[k].toNat : Int) == 45) = false := by
          rw [beq_eq_false_iff_ne]; intro e; exact h45 (UInt8.toNat_inj.1 (by show s[k].toNat = 45; omega))
        have HN2 : Hid ((s.data.toList.take (k + 1)).any (fun c => c == 45) = (s.data.toList.take k).any (fun c => c == 45)) := Lib.hid (by rw [htk, any_snoc]; simp [h45])
        obtain ⟨d, hd⟩ : ∃ d, dig s[k] = d := ⟨_, rfl⟩
        have hs : ((s[k]).toNat : Int) - 48 = d := by rw [← hd]; unfold dig; simp [isDig] at hdig; omega
        have hd10 : d < 10 := by rw [← hd]; exact dig_lt _ hdig
        have HDG : Hid (dgs (s.data.toList.take (k + 1)) = dgs (s.data.toList.take k) ++ [d]) := Lib.hid (by rw [htk, dgs_snoc, if_neg h45, hd])
        have e6 : IntKind.u8.wrap (d : Int) = d := IntWalk.u8_in _ (by omega)
        have hlen : (dgs (s.data.toList.take k)).length ≤ 401 := by
          unfold dgs
          rw [List.length_map]
          refine Nat.le_trans (List.length_filter_le _ _) ?_
          rw [List.length_take]; omega
        have hB : w.heap.size + 1 ≤ wr.heap.size := by have := HI1.out.below.size; rw [World.size_alloc] at this; exact this
        clear hb htk hdig hd
        go_wp2_with (at_builtin; refine wpList_append_own _ rfl _ _ 28 rfl (w.heap.size + 1) 3 i0 (.int .i64 0) 1 8 Tryz.underlying28 HI.out HZ0.out HZ1.out HZ2.out rfl (by decide) _ _ _ rfl (HI1.out.own.alloc _) ⟨wr.heap.size, 0, none⟩ 1 1 [.int .i64 (d : Nat)] rfl rfl ?c1 ?c2 ?c3 ?c4 ?c5 ?_)
        case c1 =>
          intro j u hj
          match j, hj with
          | 0, hj => simp at hj; subst hj; simp [Addr.add]
        case c2 => intro u hu; simp at hu; subst hu; rfl
        case c3 => unfold maxLen; omega
        case c4 => omega
        case c5 => simp; omega
        intro v' w2 hown' hgrow _
        have HI2 : Hid (OfInv w s.data.toList (k + 1) w2 v') := Lib.hid ⟨by
          unfold Ow
          rw [HDG.out, List.length_append, List.map_append]
          exact hown', HI1.out.below.trans (((Below.refl _ wr).alloc hB _).grown hgrow (by simp; omega) (fun k hk => (HI1.out.own.lt k hk).1))⟩
        clear hown' hgrow hlen
        go_wp2
        go_roundw
        case rel => exact ⟨k + 1, by omega, by go_num, Lib.hid (by rw [HN.out, HN2.out]), HI2⟩
        case measure => simp [intOf]; omega
    · have hke : k = s.size := by omega
      subst hke
      have hta : s.data.toList.take s.size = s.data.toList := List.take_of_length_le (by rw [len_size]; exact Nat.le_refl _)
      have hl : (dgs s.data.toList).length ≤ 401 := by
        unfold dgs
        rw [List.length_map]
        refine Nat.le_trans (List.length_filter_le _ _) ?_
        rw [len_size]; omega
      have HO : Hid (Rd .i64 wr u4 (dgs s.data.toList)) := Lib.hid (by have h := HI1.out.own; rw [hta] at h; exact h.rd (by omega))
      have HBL := Lib.hid HI1.out.below
      obtain ⟨nb, hnb⟩ : ∃ b, (s.data.toList.any fun c => c == 45) = b := ⟨_, rfl⟩
      have HN2 : Hid (u3 = .bool nb) := Lib.hid (by rw [HN.out, hta, hnb])
      rw [hnb] at HZ
      have HBX : Hid (Bx wr w.heap.size (.bool false) (.slice none 0 0)) := Lib.hid ((Bx.new w (.bool false) (.slice none 0 0) 30).below HBL.out (by omega))
      have HB0 := Lib.hid (((Below.refl w.heap.size w).alloc (Nat.le_refl _) (.cells #[.bool false, .slice none 0 0] 30)).trans (HBL.out.mono (by omega)))
      clear hta hl hnb HN HI1
      obtain rfl := HN2.out
      go_wp2_with fail
      refine (make0_any nb u4 _ wr HO.out HD.out).mono ?_
      rintro e w2 ⟨v, rfl, hv, hb⟩
      rw [HZ.out.2] at hv
      obtain ⟨a, c, rfl⟩ := hv.form
      have HBX2 := Lib.hid (HBX.out.below hb HBX.out.lt)
      have HW := Lib.hid (HB0.out.trans (hb.mono HB0.out.size))
      have HV := Lib.hid hv
      clear hv hb
      obtain ⟨f0, f1, f2, f3⟩ := HBX2.out.cell
      go_wp2
      obtain ⟨l0, l1, _, _⟩ := (HBX2.out.put (.bool (isNeg z)) (.slice a (dg z.natAbs).length c)).cell
      refine bodyPost_ret (v := .agg #[.bool (isNeg z), .slice a (dg z.natAbs).length c]) (by simp only [results, Tryz.results12]; simp [go_sem, l0, l1]) rfl ?_
      exact RefPost.boxed HV.out HBX2.out HW.out (Nat.le_refl _)

end Go.Proofs.YtdkpcjfadabkbaaGreatDoor
