/- What the reference's Read does. -/
import Derived.Test.YtpnofebhpeiepaaGreatDoorT4
set_option linter.unusedVariables false
set_option linter.unusedSimpArgs false
namespace Go.Proofs.YtpnofebhpeiepaaGreatDoor
open Go.RowKit _root_.Go.Proofs.YtpnofebhpeiepaaGreatDoor.Nm

theorem rV_to (s : ByteArray) (b : Bool) (h : Hid (canon s.data.toList = b)) (w : World) :
    Calls Tryz.prog 17 #[.string s] w fun e w' => e = .returned (.bool b) ∧ w = w' := by
  have := rValid_any s w
  rwa [h.out] at this
theorem rO_to (s : ByteArray) (z : Int) (h : canon s.data.toList = true) (hz : Hid (True ∧ zv s.data.toList = z)) (w : World) :
    Calls Tryz.prog 20 #[.string s] w (RefPost z w) := by
  have := rOf_any s h w
  rwa [hz.out.2] at this

theorem rV_one (w : World) : Calls Tryz.prog 17 #[.string ⟨#[49]⟩] w fun e w' => e = .returned (.bool true) ∧ w = w' := rV_to ⟨#[49]⟩ true (Lib.hid (by decide +kernel)) w
theorem rO_one (w : World) : Calls Tryz.prog 20 #[.string ⟨#[49]⟩] w (RefPost 1 w) := rO_to ⟨#[49]⟩ 1 (by decide +kernel) (Lib.hid ⟨trivial, by decide +kernel⟩) w

/-- What the reference's Read returns. -/
def RRd (o : Option Rat) (w : World) (e : Ending) (w' : World) : Prop :=
  ∃ n1 a1 l1 c1 n2 a2 l2 c2, e = .returned (.tuple #[.agg #[.bool n1, .slice a1 l1 c1, .bool n2, .slice a2 l2 c2], .bool o.isSome]) ∧ (∀ q, o = some q → RRef w' (.agg #[.bool n1, .slice a1 l1 c1, .bool n2, .slice a2 l2 c2]) q) ∧ Below w.heap.size w w'

theorem RRd.zero {o : Option Rat} {w w1 : World} {g : Nat} {x y z u : Value} (ho : o = none) (hb : Below w.heap.size w w1) (hg : w.heap.size ≤ g) :
    RRd o w (.returned (.tuple #[.agg #[.bool false, .slice none 0 0, .bool false, .slice none 0 0], .bool false])) (set4 w1 g x y z u) := by
  subst ho
  exact ⟨_, _, _, _, _, _, _, _, rfl, fun q h => (by cases h), hb.trans ((set4_only w1 g x y z u).below hg)⟩
theorem RRd.none {o : Option Rat} {w w1 : World} (ho : o = Option.none) (hb : Below w.heap.size w w1) : RRd o w (.returned (.tuple #[.agg #[.bool false, .slice none 0 0, .bool false, .slice none 0 0], .bool false])) w1 := by
  subst ho
  exact ⟨_, _, _, _, _, _, _, _, rfl, fun q h => (by cases h), hb⟩
theorem RRd.full {o : Option Rat} {q : Rat} {r n1 n2 m1 m2 : Bool} {a1 a2 b1 b2 : Option Addr} {l1 c1 l2 c2 k1 d1 k2 d2 : Nat} {w w1 : World} {g : Nat} {x y z u : Value} (ho : o.isSome = r) (hq : ∀ p, o = some p → p = q) (h : RRef w1 (.agg #[.bool n1, .slice a1 l1 c1, .bool n2, .slice a2 l2 c2]) q) (hx : B4 w1 g (.bool m1) (.slice b1 k1 d1) (.bool m2) (.slice b2 k2 d2)) (hb : Below w.heap.size w w1) (hg : w.heap.size ≤ g) :
    RRd o w (.returned (.tuple #[.agg #[.bool n1, .slice a1 l1 c1, .bool n2, .slice a2 l2 c2], .bool r])) (set4 w1 g x y z u) := by
  subst ho
  exact ⟨_, _, _, _, _, _, _, _, rfl, fun p hp => by rw [hq p hp]; exact h.box4 hx _ _ _ _, hb.trans ((set4_only w1 g x y z u).below hg)⟩
theorem RRd.drew {o : Option Rat} {w w1 : World} {e : Ending} (h : RRd o w e w1) : RRd o w e w1.drew := by
  obtain ⟨n1, a1, l1, c1, n2, a2, l2, c2, h1, h2, h3⟩ := h
  exact ⟨n1, a1, l1, c1, n2, a2, l2, c2, h1, fun q hq => (h2 q hq).keep (Below.refl _ _).drew (Nat.le_refl _), h3.drew⟩

theorem byte_in (s : ByteArray) (k : Nat) (h : k < s.size) : s[k] ∈ s.data.toList := List.mem_iff_getElem?.2 ⟨k, byte_at s k h⟩
theorem miss_byte (s : ByteArray) (h : (47 : UInt8) ∉ s.data.toList) (k : Nat) (hk : k < s.size) : ((s[k].toNat : Int) == 47) = false := by
  rw [beq_eq_false_iff_ne]
  intro e
  have e2 : s[k] = 47 := UInt8.toNat_inj.1 (by show s[k].toNat = 47; omega)
  exact h (by rw [← e2]; exact byte_in s k hk)
theorem Split.size {s A B : ByteArray} (h : Split s A B) : s.size = A.size + 1 + B.size := by
  have e := congrArg List.length h.1
  rw [List.length_append, List.length_cons, len_size, len_size, len_size] at e
  omega
theorem Split.left {s A B : ByteArray} (h : Split s A B) : s.extract 0 A.size = A := by
  apply ByteArray.ext
  rw [ByteArray.data_extract]
  apply Array.toList_inj.1
  rw [Array.toList_extract, h.1, List.extract_eq_take_drop, List.drop_zero, Nat.sub_zero, ← len_size, List.take_left]
theorem Split.right {s A B : ByteArray} (h : Split s A B) : s.extract (A.size + 1) s.size = B := by
  apply ByteArray.ext
  rw [ByteArray.data_extract]
  apply Array.toList_inj.1
  rw [Array.toList_extract, h.1, List.extract_eq_take_drop, show A.data.toList ++ 47 :: B.data.toList = (A.data.toList ++ [47]) ++ B.data.toList from by rw [List.append_assoc]; rfl, show A.size + 1 = (A.data.toList ++ [47]).length from by rw [List.length_append, len_size]; rfl, List.drop_left, List.take_of_length_le]
  rw [List.length_append, len_size, len_size, h.size]
  show B.size ≤ A.size + 1 + B.size - (A.size + 1)
  omega
theorem Split.before {s A B : ByteArray} (h : Split s A B) (k : Nat) (hk : k < s.size) (hn : k < A.size) : ((s[k].toNat : Int) == 47) = false := by
  rw [beq_eq_false_iff_ne]
  intro e
  have e2 : s[k] = 47 := UInt8.toNat_inj.1 (by show s[k].toNat = 47; omega)
  have h1 := byte_at s k hk
  rw [e2, h.1, List.getElem?_append_left (by rw [len_size]; exact hn)] at h1
  exact h.2 (List.mem_iff_getElem?.2 ⟨k, h1⟩)
theorem Split.at {s A B : ByteArray} (h : Split s A B) (hk : A.size < s.size) : ((s[A.size].toNat : Int) == 47) = true := by
  have h1 := byte_at s A.size hk
  rw [h.1, List.getElem?_append_right (by rw [len_size]; exact Nat.le_refl _), len_size, Nat.sub_self] at h1
  have h2 : s[A.size] = 47 := (Option.some.inj h1).symm
  rw [h2]; rfl

/-- The text of a quotient of two short numbers is the text read exactly if that is canonical. -/
theorem text_back {l : List UInt8} {q : Rat} (h : RT 400 q) : (rt q == l) = (rval l == some q) := by
  rw [Bool.eq_iff_iff, beq_iff_eq, beq_iff_eq]
  constructor
  · intro e; rw [← e]; exact rval_rt q (h.short (by omega))
  · intro e; exact (rval_some l q e).1.symm
theorem rval_den {A B : List UInt8} (h : (47 : UInt8) ∉ A) (q : Rat) (hv : rval (A ++ 47 :: B) = some q) : q = Rat.divInt (zv A) (zv B) := by
  rw [rval_frac A B h] at hv
  split at hv
  · exact (Option.some.inj hv).symm
  · cases hv

set_option maxRecDepth 100000 in
set_option maxHeartbeats 12800000 in
theorem rrRead_miss (s : ByteArray) (o : Option Rat) (w : World) (h : (47 : UInt8) ∉ s.data.toList) (ho : Hid (rval s.data.toList = o)) (hs : s.size ≤ 100000) :
    Calls Tryz.prog 12 #[.string s] w (RRd o w) := by
  have HW0 := Lib.hid ((Below.refl w.heap.size w).alloc (Nat.le_refl _) (.cells #[.bool false, .slice none 0 0, .bool false, .slice none 0 0] 30))
  have HX0 := Lib.hid (B4.new w (.bool false) (.slice none 0 0) (.bool false) (.slice none 0 0) 30)
  have hv := rval_int _ h
  rw [ho.out] at hv
  have hne : ∀ k (hk : k < s.size), ((s[k].toNat : Int) == 47) = false := miss_byte s h
  have HNEQ := Lib.hid hne
  have hext : s.extract 0 s.size = s := by rw [ByteArray.extract_zero_size]
  have HEXT := Lib.hid hext
  clear h hne hext
  cases ka : canon s.data.toList
  · have HNONE : Hid (o = none) := Lib.hid (by rw [hv, ka]; rfl)
    have KA := Lib.hid ka
    clear hv ka
    go_enter Tryz.func12, Tryz.ntmps12
    go_wp2
    go_loop [4, 5] (fun t i => ∃ k : Nat, k ≤ s.size ∧ i = .int .i64 k ∧ t = .int .i64 s.size) (fun _ i => s.size - (intOf i).toNat)
    case atStart => exact ⟨0, Nat.zero_le _, rfl, rfl⟩
    case round =>
      obtain ⟨k, hk, rfl, rfl⟩ := hrel
      by_cases hlt : k < s.size
      · have hc := HNEQ.out k hlt
        have hlt' : (k : Int) < s.size := by omega
        go_wp2
        go_round
        case rel => exact ⟨k + 1, by omega, by go_num, rfl⟩
        case measure => simp [intOf]; omega
      · obtain rfl : k = s.size := by omega
        clear hlt
        go_wp2_with fail
        refine (rV_to s _ KA _).mono ?_
        rintro e w9 ⟨rfl, rfl⟩
        obtain ⟨e0, e1, e2, e3⟩ := HX0.out.cell
        obtain ⟨f0, f1, f2, f3⟩ := HX0.out.froz
        go_wp2
        obtain ⟨l0, l1, l2, l3⟩ := (HX0.out.put (.bool false) (.slice none 0 0) (.bool false) (.slice none 0 0)).cell
        refine bodyPost_ret (v := .tuple #[.agg #[.bool false, .slice none 0 0, .bool false, .slice none 0 0], .bool false]) (by simp only [results, Tryz.results12]; simp [go_sem, l0, l1, l2, l3]) rfl ?_
        first | exact RRd.none HNONE.out HW0.out | exact RRd.zero HNONE.out HW0.out (Nat.le_refl _)
  · have KA := Lib.hid ka
    rw [ka] at hv
    obtain ⟨a, ha⟩ : ∃ a, zv s.data.toList = a := ⟨_, rfl⟩
    have ta := zv_ten _ ka
    rw [ha] at hv ta
    have HZA := Lib.hid (And.intro trivial ha)
    have HNZ : Hid (True ∧ decide ((1 : Int) = 0) = false) := Lib.hid ⟨trivial, rfl⟩
    have HNE : Hid ((1 : Int) ≠ 0) := Lib.hid (by decide)
    obtain ⟨Q, hQ⟩ : ∃ Q, Rat.divInt a 1 = Q := ⟨_, rfl⟩
    have hlow := divInt_low a 1 (by omega) (by simp)
    have hQ2 : (a : Rat) = Q := by rw [← hQ]; exact Rat.ext ((Rat.num_intCast a).trans hlow.1.symm) ((Rat.den_intCast a).trans (by have := hlow.2; omega))
    have hnum : Q.num = a ∧ Q.den = 1 := by rw [← hQ2]; exact ⟨Rat.num_intCast a, Rat.den_intCast a⟩
    have HRT : Hid (RT 400 Q) := Lib.hid ⟨by rw [hnum.1]; exact ta, by rw [hnum.2]; exact .one (by omega)⟩
    have HLEN : Hid ((dg a.natAbs).length ≤ 1000 ∧ (dg (1 : Int).natAbs).length ≤ 1000) := Lib.hid ⟨digs_ten ta 1000 (by omega), by rw [dg_one]; decide⟩
    have HQ := Lib.hid hQ
    obtain ⟨TX, hTX⟩ : ∃ t : ByteArray, t = ⟨(rt Q).toArray⟩ := ⟨_, rfl⟩
    have HTX := Lib.hid (And.intro trivial hTX)
    have hos : o = some Q := by rw [hv, ← hQ2]; rfl
    obtain ⟨r, hr⟩ : ∃ r : Bool, (TX.toList == s.toList) = r := ⟨_, rfl⟩
    have hr1 : r = true := by rw [← hr, hTX, Lib.toList_data, Lib.toList_data, List.toList_toArray, text_back HRT.out, ho.out, hos]; simp
    have HOR : Hid (o.isSome = r ∧ ∀ p, o = some p → p = Q) := Lib.hid ⟨by rw [hos, hr1]; rfl, fun p hp => by rw [hos] at hp; exact (Option.some.inj hp).symm⟩
    clear hv ka ha ta hQ hQ2 hlow hnum hTX hos hr1
    go_enter Tryz.func12, Tryz.ntmps12
    go_wp2
    go_loop [4, 5] (fun t i => ∃ k : Nat, k ≤ s.size ∧ i = .int .i64 k ∧ t = .int .i64 s.size) (fun _ i => s.size - (intOf i).toNat)
    case atStart => exact ⟨0, Nat.zero_le _, rfl, rfl⟩
    case round =>
      obtain ⟨k, hk, rfl, rfl⟩ := hrel
      by_cases hlt : k < s.size
      · have hc := HNEQ.out k hlt
        have hlt' : (k : Int) < s.size := by omega
        go_wp2
        go_round
        case rel => exact ⟨k + 1, by omega, by go_num, rfl⟩
        case measure => simp [intOf]; omega
      · obtain rfl : k = s.size := by omega
        clear hlt
        go_wp2_with fail
        refine (rV_to s _ KA _).mono ?_
        rintro e w9 ⟨rfl, rfl⟩
        go_wp2_with fail
        refine (rV_one _).mono ?_
        rintro e w9 ⟨rfl, rfl⟩
        go_wp2_with fail
        refine (rO_one _).mono ?_
        rintro e w1 ⟨v1, rfl, hv1, hb1⟩
        have HV1 := Lib.hid hv1
        have HW1 := Lib.hid (HW0.out.trans (hb1.mono HW0.out.size))
        have HX1 := Lib.hid (HX0.out.below hb1 HX0.out.lt)
        obtain ⟨n1, a1, l1, c1, rfl⟩ := hv1.any
        clear hv1 hb1
        go_wp2_with fail
        refine (rzero_any _ 1 false _ HV1.out HNZ).mono ?_
        rintro e w2 ⟨rfl, hb2⟩
        have HW2 := Lib.hid (HW1.out.trans (hb2.mono HW1.out.size))
        have HX2 := Lib.hid (HX1.out.below hb2 HX1.out.lt)
        clear hb2
        go_wp2_with fail
        refine (rO_to s a KA.out HZA _).mono ?_
        rintro e w3 ⟨v3, rfl, hv3, hb3⟩
        have HV3 := Lib.hid hv3
        have HW3 := Lib.hid (HW2.out.trans (hb3.mono HW2.out.size))
        have HX3 := Lib.hid (HX2.out.below hb3 HX2.out.lt)
        obtain ⟨n3, a3, l3, c3, rfl⟩ := hv3.any
        clear hv3 hb3
        go_wp2_with fail
        refine (rO_one _).mono ?_
        rintro e w4 ⟨v4, rfl, hv4, hb4⟩
        have HV4 := Lib.hid hv4
        have HV3' := Lib.hid (HV3.out.keep hb4 (Nat.le_refl _))
        have HW4 := Lib.hid (HW3.out.trans (hb4.mono HW3.out.size))
        have HX4 := Lib.hid (HX3.out.below hb4 HX3.out.lt)
        obtain ⟨n4, a4, l4, c4, rfl⟩ := hv4.any
        clear hv4 hb4
        go_wp2_with fail
        refine (rNew_any _ _ a 1 Q _ HV3'.out HV4.out HNE.out HLEN.out.1 HLEN.out.2 HQ).mono ?_
        rintro e w5 ⟨v5, rfl, hv5, hb5⟩
        have HW5 := Lib.hid (HW4.out.trans (hb5.mono HW4.out.size))
        have HX5 := Lib.hid (HX4.out.below hb5 HX4.out.lt)
        obtain ⟨m1, b1, k1, d1, m2, b2, k2, d2, rfl, hz1, hz2⟩ := hv5
        have hA := ((Below.refl w5.heap.size w5).alloc (Nat.le_refl _) (.cells #[.bool m1, .slice b1 k1 d1, .bool m2, .slice b2 k2 d2] 30)).drew
        have HV6 : Hid (RRef (w5.alloc (.cells #[.bool m1, .slice b1 k1 d1, .bool m2, .slice b2 k2 d2] 30)).drew (.agg #[.bool m1, .slice b1 k1 d1, .bool m2, .slice b2 k2 d2]) Q) := Lib.hid ⟨_, _, _, _, _, _, _, _, rfl, hz1.keep hA (Nat.le_refl _), hz2.keep hA (Nat.le_refl _)⟩
        have HB6 := Lib.hid (B4.new w5 (.bool m1) (.slice b1 k1 d1) (.bool m2) (.slice b2 k2 d2) 30).drew
        have HW6 := Lib.hid (HW5.out.trans (hA.mono HW5.out.size))
        have HX6 := Lib.hid (HX5.out.below hA HX5.out.lt)
        have hlt : w.heap.size < w5.heap.size := HX5.out.lt
        clear hz1 hz2 hA hb5 HV1 HW1 HX1 HW2 HX2 HV3 HW3 HX3 HV4 HV3' HW4 HX4 HW5 HX5
        obtain ⟨k0, k1', k2', k3⟩ := HB6.out.cell
        go_wp2_with fail
        go_region_held3 (fun w' => w'.cell? ⟨w5.heap.size, 0, none⟩ = some (.bool m1) ∧ w'.cell? ⟨w5.heap.size, 1, none⟩ = some (.slice b1 k1 d1) ∧ w'.cell? ⟨w5.heap.size, 2, none⟩ = some (.bool m2) ∧ w'.cell? ⟨w5.heap.size, 3, none⟩ = some (.slice b2 k2 d2)) (first | ((try dsimp only); (repeat' apply And.intro); all_goals with_reducible assumption) | ((try dsimp only); (repeat' apply And.intro); all_goals (repeat' (first | with_reducible assumption | refine cell_off4 ?_ ?_ | omega))) | go_keep) ((go_at_call 18; refine (rrText_any _ Q TX 400 _ (by exact HV6.out) HRT.out (by omega) HTX).mono ?_; rintro e w7 ⟨rfl, hb7⟩; have hV7 := HV6.out.keep hb7 (Nat.le_refl _); have hB7 := HB6.out.below hb7 HB6.out.lt; have hX7 := HX6.out.below hb7 HX6.out.lt; have hw7 := HW6.out.trans (hb7.mono HW6.out.size); clear k0 k1' k2' k3; obtain ⟨j0, j1, j2, j3⟩ := hB7.cell; obtain ⟨e0, e1, e2, e3⟩ := hX7.cell; obtain ⟨f0, f1, f2, f3⟩ := hX7.froz))
        have HV7 := Lib.hid hV7
        have HX7 := Lib.hid hX7
        have HW7 := Lib.hid hw7
        clear hV7 hX7 hw7 hB7 hb7 j0 j1 j2 j3 e0 e1 e2 e3 f0 f1 f2 f3
        go_wp2
        obtain ⟨l0, l1', l2', l3'⟩ := (HX7.out.put (.bool m1) (.slice b1 k1 d1) (.bool m2) (.slice b2 k2 d2)).cell
        refine bodyPost_ret (v := .tuple #[.agg #[.bool m1, .slice b1 k1 d1, .bool m2, .slice b2 k2 d2], .bool r]) (by simp only [results, Tryz.results12]; simp [go_sem, l0, l1', l2', l3']) rfl ?_
        exact RRd.full HOR.out.1 HOR.out.2 HV7.out HX7.out HW7.out (Nat.le_refl _)

set_option maxRecDepth 100000 in
set_option maxHeartbeats 12800000 in
theorem rrRead_hit (s A B : ByteArray) (o : Option Rat) (w : World) (h : Split s A B) (ho : Hid (rval s.data.toList = o)) (hs : s.size ≤ 100000) :
    Calls Tryz.prog 12 #[.string s] w (RRd o w) := by
  have HW0 := Lib.hid ((Below.refl w.heap.size w).alloc (Nat.le_refl _) (.cells #[.bool false, .slice none 0 0, .bool false, .slice none 0 0] 30))
  have HX0 := Lib.hid (B4.new w (.bool false) (.slice none 0 0) (.bool false) (.slice none 0 0) 30)
  have hv := h.val
  rw [ho.out] at hv
  have hz := h.size
  have HSP := Lib.hid h
  have HA := Lib.hid h.left
  have HB := Lib.hid h.right
  have hn1 : ((A.size : Int) == (s.size : Int)) = false := by rw [beq_eq_false_iff_ne]; omega
  have hn2 : (A.size == s.size) = false := by rw [beq_eq_false_iff_ne]; omega
  have HN := Lib.hid (And.intro hn1 hn2)
  have HZ := Lib.hid hz
  clear h hz hn1 hn2
  cases ka : canon A.data.toList
  · have HNONE : Hid (o = none) := Lib.hid (by rw [hv, ka]; rfl)
    have KA := Lib.hid ka
    clear hv ka
    go_enter Tryz.func12, Tryz.ntmps12
    go_wp2
    go_loop [4, 5] (fun t i => ∃ k : Nat, k ≤ s.size ∧ i = .int .i64 k ∧ ((k ≤ A.size ∧ t = .int .i64 s.size) ∨ (A.size < k ∧ t = .int .i64 A.size))) (fun _ i => s.size - (intOf i).toNat)
    case atStart => exact ⟨0, Nat.zero_le _, rfl, .inl ⟨Nat.zero_le _, rfl⟩⟩
    case round =>
      obtain ⟨k, hk, rfl, hway⟩ := hrel
      by_cases hlt : k < s.size
      · have hlt' : (k : Int) < s.size := by omega
        rcases hway with ⟨hkn, rfl⟩ | ⟨hkn, rfl⟩
        · by_cases hkk : k = A.size
          · subst hkk
            have hc := HSP.out.at hlt
            go_wp2
            go_round
            case rel => exact ⟨A.size + 1, by omega, by go_num, .inr ⟨by omega, rfl⟩⟩
            case measure => simp [intOf]; omega
          · have hc := HSP.out.before k hlt (by omega)
            go_wp2
            go_round
            case rel => exact ⟨k + 1, by omega, by go_num, .inl ⟨by omega, rfl⟩⟩
            case measure => simp [intOf]; omega
        · obtain ⟨hn1, hn2⟩ := HN.out
          cases hc : ((s[k].toNat : Int) == 47)
          · go_wp2
            go_round
            case rel => exact ⟨k + 1, by omega, by go_num, .inr ⟨by omega, rfl⟩⟩
            case measure => simp [intOf]; omega
          · go_wp2
            go_round
            case rel => exact ⟨k + 1, by omega, by go_num, .inr ⟨by omega, rfl⟩⟩
            case measure => simp [intOf]; omega
      · obtain rfl : k = s.size := by omega
        rcases hway with ⟨hkn, rfl⟩ | ⟨hkn, rfl⟩
        · exfalso; have := HZ.out; omega
        · have c1 : (0 : Int) ≤ A.size := by omega
          have c2 : (A.size : Int) ≤ s.size := by omega
          have c3 : (A.size : Int) < s.size := by omega
          have c4 : (0 : Int) ≤ (A.size : Int) + 1 := by omega
          have c5 : (A.size : Int) + 1 ≤ s.size := by omega
          clear hlt hk hkn
          go_upto_region 11 with fail
          rw [HA.out]
          first | rw [HB.out] | rw [show s.extract (A.size + 1) s.size = B from HB.out]
          go_wp2_with fail
          refine (rV_to A _ KA _).mono ?_
          rintro e w9 ⟨rfl, rfl⟩
          obtain ⟨e0, e1, e2, e3⟩ := HX0.out.cell
          obtain ⟨f0, f1, f2, f3⟩ := HX0.out.froz
          go_wp2
          obtain ⟨l0, l1, l2, l3⟩ := (HX0.out.put (.bool false) (.slice none 0 0) (.bool false) (.slice none 0 0)).cell
          refine bodyPost_ret (v := .tuple #[.agg #[.bool false, .slice none 0 0, .bool false, .slice none 0 0], .bool false]) (by simp only [results, Tryz.results12]; simp [go_sem, l0, l1, l2, l3]) rfl ?_
          first | exact RRd.none HNONE.out HW0.out | exact RRd.zero HNONE.out HW0.out (Nat.le_refl _)
  · cases kb : canon B.data.toList
    · have HNONE : Hid (o = none) := Lib.hid (by rw [hv, ka, kb]; rfl)
      have KA := Lib.hid ka
      have KB := Lib.hid kb
      clear hv ka kb
      go_enter Tryz.func12, Tryz.ntmps12
      go_wp2
      go_loop [4, 5] (fun t i => ∃ k : Nat, k ≤ s.size ∧ i = .int .i64 k ∧ ((k ≤ A.size ∧ t = .int .i64 s.size) ∨ (A.size < k ∧ t = .int .i64 A.size))) (fun _ i => s.size - (intOf i).toNat)
      case atStart => exact ⟨0, Nat.zero_le _, rfl, .inl ⟨Nat.zero_le _, rfl⟩⟩
      case round =>
        obtain ⟨k, hk, rfl, hway⟩ := hrel
        by_cases hlt : k < s.size
        · have hlt' : (k : Int) < s.size := by omega
          rcases hway with ⟨hkn, rfl⟩ | ⟨hkn, rfl⟩
          · by_cases hkk : k = A.size
            · subst hkk
              have hc := HSP.out.at hlt
              go_wp2
              go_round
              case rel => exact ⟨A.size + 1, by omega, by go_num, .inr ⟨by omega, rfl⟩⟩
              case measure => simp [intOf]; omega
            · have hc := HSP.out.before k hlt (by omega)
              go_wp2
              go_round
              case rel => exact ⟨k + 1, by omega, by go_num, .inl ⟨by omega, rfl⟩⟩
              case measure => simp [intOf]; omega
          · obtain ⟨hn1, hn2⟩ := HN.out
            cases hc : ((s[k].toNat : Int) == 47)
            · go_wp2
              go_round
              case rel => exact ⟨k + 1, by omega, by go_num, .inr ⟨by omega, rfl⟩⟩
              case measure => simp [intOf]; omega
            · go_wp2
              go_round
              case rel => exact ⟨k + 1, by omega, by go_num, .inr ⟨by omega, rfl⟩⟩
              case measure => simp [intOf]; omega
        · obtain rfl : k = s.size := by omega
          rcases hway with ⟨hkn, rfl⟩ | ⟨hkn, rfl⟩
          · exfalso; have := HZ.out; omega
          · have c1 : (0 : Int) ≤ A.size := by omega
            have c2 : (A.size : Int) ≤ s.size := by omega
            have c3 : (A.size : Int) < s.size := by omega
            have c4 : (0 : Int) ≤ (A.size : Int) + 1 := by omega
            have c5 : (A.size : Int) + 1 ≤ s.size := by omega
            clear hlt hk hkn
            go_upto_region 11 with fail
            rw [HA.out]
            first | rw [HB.out] | rw [show s.extract (A.size + 1) s.size = B from HB.out]
            go_wp2_with fail
            refine (rV_to A _ KA _).mono ?_
            rintro e w9 ⟨rfl, rfl⟩
            go_wp2_with fail
            refine (rV_to B _ KB _).mono ?_
            rintro e w9 ⟨rfl, rfl⟩
            obtain ⟨e0, e1, e2, e3⟩ := HX0.out.cell
            obtain ⟨f0, f1, f2, f3⟩ := HX0.out.froz
            go_wp2
            obtain ⟨l0, l1, l2, l3⟩ := (HX0.out.put (.bool false) (.slice none 0 0) (.bool false) (.slice none 0 0)).cell
            refine bodyPost_ret (v := .tuple #[.agg #[.bool false, .slice none 0 0, .bool false, .slice none 0 0], .bool false]) (by simp only [results, Tryz.results12]; simp [go_sem, l0, l1, l2, l3]) rfl ?_
            first | exact RRd.none HNONE.out HW0.out | exact RRd.zero HNONE.out HW0.out (Nat.le_refl _)
    · have KA := Lib.hid ka
      have KB := Lib.hid kb
      obtain ⟨a, ha⟩ : ∃ a, zv A.data.toList = a := ⟨_, rfl⟩
      obtain ⟨b, hb⟩ : ∃ a, zv B.data.toList = a := ⟨_, rfl⟩
      have ta := zv_ten _ ka
      have tb := zv_ten _ kb
      rw [ha] at ta
      rw [hb] at tb
      rw [ka, kb, ha, hb] at hv
      have HZA := Lib.hid (And.intro trivial ha)
      have HZB := Lib.hid (And.intro trivial hb)
      by_cases hb0 : b = 0
      · have HNONE : Hid (o = none) := Lib.hid (by rw [hv, hb0]; rfl)
        have HNZ : Hid (True ∧ decide (b = 0) = true) := Lib.hid ⟨trivial, decide_eq_true hb0⟩
        clear hv ka kb ha hb ta tb hb0
        go_enter Tryz.func12, Tryz.ntmps12
        go_wp2
        go_loop [4, 5] (fun t i => ∃ k : Nat, k ≤ s.size ∧ i = .int .i64 k ∧ ((k ≤ A.size ∧ t = .int .i64 s.size) ∨ (A.size < k ∧ t = .int .i64 A.size))) (fun _ i => s.size - (intOf i).toNat)
        case atStart => exact ⟨0, Nat.zero_le _, rfl, .inl ⟨Nat.zero_le _, rfl⟩⟩
        case round =>
          obtain ⟨k, hk, rfl, hway⟩ := hrel
          by_cases hlt : k < s.size
          · have hlt' : (k : Int) < s.size := by omega
            rcases hway with ⟨hkn, rfl⟩ | ⟨hkn, rfl⟩
            · by_cases hkk : k = A.size
              · subst hkk
                have hc := HSP.out.at hlt
                go_wp2
                go_round
                case rel => exact ⟨A.size + 1, by omega, by go_num, .inr ⟨by omega, rfl⟩⟩
                case measure => simp [intOf]; omega
              · have hc := HSP.out.before k hlt (by omega)
                go_wp2
                go_round
                case rel => exact ⟨k + 1, by omega, by go_num, .inl ⟨by omega, rfl⟩⟩
                case measure => simp [intOf]; omega
            · obtain ⟨hn1, hn2⟩ := HN.out
              cases hc : ((s[k].toNat : Int) == 47)
              · go_wp2
                go_round
                case rel => exact ⟨k + 1, by omega, by go_num, .inr ⟨by omega, rfl⟩⟩
                case measure => simp [intOf]; omega
              · go_wp2
                go_round
                case rel => exact ⟨k + 1, by omega, by go_num, .inr ⟨by omega, rfl⟩⟩
                case measure => simp [intOf]; omega
          · obtain rfl : k = s.size := by omega
            rcases hway with ⟨hkn, rfl⟩ | ⟨hkn, rfl⟩
            · exfalso; have := HZ.out; omega
            · have c1 : (0 : Int) ≤ A.size := by omega
              have c2 : (A.size : Int) ≤ s.size := by omega
              have c3 : (A.size : Int) < s.size := by omega
              have c4 : (0 : Int) ≤ (A.size : Int) + 1 := by omega
              have c5 : (A.size : Int) + 1 ≤ s.size := by omega
              clear hlt hk hkn
              go_upto_region 11 with fail
              rw [HA.out]
              first | rw [HB.out] | rw [show s.extract (A.size + 1) s.size = B from HB.out]
              go_wp2_with fail
              refine (rV_to A _ KA _).mono ?_
              rintro e w9 ⟨rfl, rfl⟩
              go_wp2_with fail
              refine (rV_to B _ KB _).mono ?_
              rintro e w9 ⟨rfl, rfl⟩
              go_wp2_with fail
              refine (rO_to B b KB.out HZB _).mono ?_
              rintro e w1 ⟨v1, rfl, hv1, hb1⟩
              have HV1 := Lib.hid hv1
              have HW1 := Lib.hid (HW0.out.trans (hb1.mono HW0.out.size))
              have HX1 := Lib.hid (HX0.out.below hb1 HX0.out.lt)
              obtain ⟨n1, a1, l1, c1, rfl⟩ := hv1.any
              clear hv1 hb1
              go_wp2_with fail
              refine (rzero_any _ b true _ HV1.out HNZ).mono ?_
              rintro e w2 ⟨rfl, hb2⟩
              have HW2 := Lib.hid (HW1.out.trans (hb2.mono HW1.out.size))
              have HX2 := Lib.hid (HX1.out.below hb2 HX1.out.lt)
              clear hb2
              obtain ⟨e0, e1, e2, e3⟩ := HX2.out.cell
              obtain ⟨f0, f1, f2, f3⟩ := HX2.out.froz
              go_wp2
              obtain ⟨l0, l1, l2, l3⟩ := (HX2.out.put (.bool false) (.slice none 0 0) (.bool false) (.slice none 0 0)).cell
              refine bodyPost_ret (v := .tuple #[.agg #[.bool false, .slice none 0 0, .bool false, .slice none 0 0], .bool false]) (by simp only [results, Tryz.results12]; simp [go_sem, l0, l1, l2, l3]) rfl ?_
              first | exact RRd.none HNONE.out HW2.out | exact RRd.zero HNONE.out HW2.out (Nat.le_refl _)
      · have HNZ : Hid (True ∧ decide (b = 0) = false) := Lib.hid ⟨trivial, decide_eq_false hb0⟩
        have HNE := Lib.hid hb0
        obtain ⟨Q, hQ⟩ : ∃ Q, Rat.divInt a b = Q := ⟨_, rfl⟩
        have HRT : Hid (RT 400 Q) := Lib.hid (by rw [← hQ]; exact .divInt hb0 ta tb)
        have HLEN : Hid ((dg a.natAbs).length ≤ 1000 ∧ (dg b.natAbs).length ≤ 1000) := Lib.hid ⟨digs_ten ta 1000 (by omega), digs_ten tb 1000 (by omega)⟩
        have HQ := Lib.hid hQ
        obtain ⟨TX, hTX⟩ : ∃ t : ByteArray, t = ⟨(rt Q).toArray⟩ := ⟨_, rfl⟩
        have HTX := Lib.hid (And.intro trivial hTX)
        obtain ⟨r, hr⟩ : ∃ r : Bool, (TX.toList == s.toList) = r := ⟨_, rfl⟩
        have hu : ∀ p, o = some p → p = Q := by
          intro p hp
          have h1 := ho.out
          rw [hp, HSP.out.1] at h1
          rw [rval_den HSP.out.2 p h1, ha, hb, hQ]
        have hr1 : o.isSome = r := by
          rw [← hr, hTX, Lib.toList_data, Lib.toList_data, List.toList_toArray, text_back HRT.out, ho.out]
          cases o with
          | none => rfl
          | some p => rw [hu p rfl]; simp
        have HOR : Hid (o.isSome = r ∧ ∀ p, o = some p → p = Q) := Lib.hid ⟨hr1, hu⟩
        clear hv ka kb ha hb ta tb hb0 hQ hTX hu hr1
        go_enter Tryz.func12, Tryz.ntmps12
        go_wp2
        go_loop [4, 5] (fun t i => ∃ k : Nat, k ≤ s.size ∧ i = .int .i64 k ∧ ((k ≤ A.size ∧ t = .int .i64 s.size) ∨ (A.size < k ∧ t = .int .i64 A.size))) (fun _ i => s.size - (intOf i).toNat)
        case atStart => exact ⟨0, Nat.zero_le _, rfl, .inl ⟨Nat.zero_le _, rfl⟩⟩
        case round =>
          obtain ⟨k, hk, rfl, hway⟩ := hrel
          by_cases hlt : k < s.size
          · have hlt' : (k : Int) < s.size := by omega
            rcases hway with ⟨hkn, rfl⟩ | ⟨hkn, rfl⟩
            · by_cases hkk : k = A.size
              · subst hkk
                have hc := HSP.out.at hlt
                go_wp2
                go_round
                case rel => exact ⟨A.size + 1, by omega, by go_num, .inr ⟨by omega, rfl⟩⟩
                case measure => simp [intOf]; omega
              · have hc := HSP.out.before k hlt (by omega)
                go_wp2
                go_round
                case rel => exact ⟨k + 1, by omega, by go_num, .inl ⟨by omega, rfl⟩⟩
                case measure => simp [intOf]; omega
            · obtain ⟨hn1, hn2⟩ := HN.out
              cases hc : ((s[k].toNat : Int) == 47)
              · go_wp2
                go_round
                case rel => exact ⟨k + 1, by omega, by go_num, .inr ⟨by omega, rfl⟩⟩
                case measure => simp [intOf]; omega
              · go_wp2
                go_round
                case rel => exact ⟨k + 1, by omega, by go_num, .inr ⟨by omega, rfl⟩⟩
                case measure => simp [intOf]; omega
          · obtain rfl : k = s.size := by omega
            rcases hway with ⟨hkn, rfl⟩ | ⟨hkn, rfl⟩
            · exfalso; have := HZ.out; omega
            · have c1 : (0 : Int) ≤ A.size := by omega
              have c2 : (A.size : Int) ≤ s.size := by omega
              have c3 : (A.size : Int) < s.size := by omega
              have c4 : (0 : Int) ≤ (A.size : Int) + 1 := by omega
              have c5 : (A.size : Int) + 1 ≤ s.size := by omega
              clear hlt hk hkn
              go_upto_region 11 with fail
              rw [HA.out]
              first | rw [HB.out] | rw [show s.extract (A.size + 1) s.size = B from HB.out]
              go_wp2_with fail
              refine (rV_to A _ KA _).mono ?_
              rintro e w9 ⟨rfl, rfl⟩
              go_wp2_with fail
              refine (rV_to B _ KB _).mono ?_
              rintro e w9 ⟨rfl, rfl⟩
              go_wp2_with fail
              refine (rO_to B b KB.out HZB _).mono ?_
              rintro e w1 ⟨v1, rfl, hv1, hb1⟩
              have HV1 := Lib.hid hv1
              have HW1 := Lib.hid (HW0.out.trans (hb1.mono HW0.out.size))
              have HX1 := Lib.hid (HX0.out.below hb1 HX0.out.lt)
              obtain ⟨n1, a1, l1, c1, rfl⟩ := hv1.any
              clear hv1 hb1
              go_wp2_with fail
              refine (rzero_any _ b false _ HV1.out HNZ).mono ?_
              rintro e w2 ⟨rfl, hb2⟩
              have HW2 := Lib.hid (HW1.out.trans (hb2.mono HW1.out.size))
              have HX2 := Lib.hid (HX1.out.below hb2 HX1.out.lt)
              clear hb2
              go_wp2_with fail
              refine (rO_to A a KA.out HZA _).mono ?_
              rintro e w3 ⟨v3, rfl, hv3, hb3⟩
              have HV3 := Lib.hid hv3
              have HW3 := Lib.hid (HW2.out.trans (hb3.mono HW2.out.size))
              have HX3 := Lib.hid (HX2.out.below hb3 HX2.out.lt)
              obtain ⟨n3, a3, l3, c3, rfl⟩ := hv3.any
              clear hv3 hb3
              go_wp2_with fail
              refine (rO_to B b KB.out HZB _).mono ?_
              rintro e w4 ⟨v4, rfl, hv4, hb4⟩
              have HV4 := Lib.hid hv4
              have HV3' := Lib.hid (HV3.out.keep hb4 (Nat.le_refl _))
              have HW4 := Lib.hid (HW3.out.trans (hb4.mono HW3.out.size))
              have HX4 := Lib.hid (HX3.out.below hb4 HX3.out.lt)
              obtain ⟨n4, a4, l4, c4, rfl⟩ := hv4.any
              clear hv4 hb4
              go_wp2_with fail
              refine (rNew_any _ _ a b Q _ HV3'.out HV4.out HNE.out HLEN.out.1 HLEN.out.2 HQ).mono ?_
              rintro e w5 ⟨v5, rfl, hv5, hb5⟩
              have HW5 := Lib.hid (HW4.out.trans (hb5.mono HW4.out.size))
              have HX5 := Lib.hid (HX4.out.below hb5 HX4.out.lt)
              obtain ⟨m1, b1, k1, d1, m2, b2, k2, d2, rfl, hz1, hz2⟩ := hv5
              have hA := ((Below.refl w5.heap.size w5).alloc (Nat.le_refl _) (.cells #[.bool m1, .slice b1 k1 d1, .bool m2, .slice b2 k2 d2] 30)).drew
              have HV6 : Hid (RRef (w5.alloc (.cells #[.bool m1, .slice b1 k1 d1, .bool m2, .slice b2 k2 d2] 30)).drew (.agg #[.bool m1, .slice b1 k1 d1, .bool m2, .slice b2 k2 d2]) Q) := Lib.hid ⟨_, _, _, _, _, _, _, _, rfl, hz1.keep hA (Nat.le_refl _), hz2.keep hA (Nat.le_refl _)⟩
              have HB6 := Lib.hid (B4.new w5 (.bool m1) (.slice b1 k1 d1) (.bool m2) (.slice b2 k2 d2) 30).drew
              have HW6 := Lib.hid (HW5.out.trans (hA.mono HW5.out.size))
              have HX6 := Lib.hid (HX5.out.below hA HX5.out.lt)
              have hlt : w.heap.size < w5.heap.size := HX5.out.lt
              clear hz1 hz2 hA hb5 HV1 HW1 HX1 HW2 HX2 HV3 HW3 HX3 HV4 HV3' HW4 HX4 HW5 HX5
              obtain ⟨k0, k1', k2', k3⟩ := HB6.out.cell
              go_wp2_with fail
              go_region_held3 (fun w' => w'.cell? ⟨w5.heap.size, 0, none⟩ = some (.bool m1) ∧ w'.cell? ⟨w5.heap.size, 1, none⟩ = some (.slice b1 k1 d1) ∧ w'.cell? ⟨w5.heap.size, 2, none⟩ = some (.bool m2) ∧ w'.cell? ⟨w5.heap.size, 3, none⟩ = some (.slice b2 k2 d2)) (first | ((try dsimp only); (repeat' apply And.intro); all_goals with_reducible assumption) | ((try dsimp only); (repeat' apply And.intro); all_goals (repeat' (first | with_reducible assumption | refine cell_off4 ?_ ?_ | omega))) | go_keep) ((go_at_call 18; refine (rrText_any _ Q TX 400 _ (by exact HV6.out) HRT.out (by omega) HTX).mono ?_; rintro e w7 ⟨rfl, hb7⟩; have hV7 := HV6.out.keep hb7 (Nat.le_refl _); have hB7 := HB6.out.below hb7 HB6.out.lt; have hX7 := HX6.out.below hb7 HX6.out.lt; have hw7 := HW6.out.trans (hb7.mono HW6.out.size); clear k0 k1' k2' k3; obtain ⟨j0, j1, j2, j3⟩ := hB7.cell; obtain ⟨e0, e1, e2, e3⟩ := hX7.cell; obtain ⟨f0, f1, f2, f3⟩ := hX7.froz))
              have HV7 := Lib.hid hV7
              have HX7 := Lib.hid hX7
              have HW7 := Lib.hid hw7
              clear hV7 hX7 hw7 hB7 hb7 j0 j1 j2 j3 e0 e1 e2 e3 f0 f1 f2 f3
              go_wp2
              obtain ⟨l0, l1', l2', l3'⟩ := (HX7.out.put (.bool m1) (.slice b1 k1 d1) (.bool m2) (.slice b2 k2 d2)).cell
              refine bodyPost_ret (v := .tuple #[.agg #[.bool m1, .slice b1 k1 d1, .bool m2, .slice b2 k2 d2], .bool r]) (by simp only [results, Tryz.results12]; simp [go_sem, l0, l1', l2', l3']) rfl ?_
              exact RRd.full HOR.out.1 HOR.out.2 HV7.out HX7.out HW7.out (Nat.le_refl _)

theorem rrRead_any (s : ByteArray) (o : Option Rat) (w : World) (ho : Hid (rval s.data.toList = o)) (hs : s.size ≤ 100000) :
    Calls Tryz.prog 12 #[.string s] w (RRd o w) := by
  rcases split_or s with h | ⟨A, B, h⟩
  · exact rrRead_miss s o w h ho hs
  · exact rrRead_hit s A B o w h ho hs


end Go.Proofs.YtpnofebhpeiepaaGreatDoor
