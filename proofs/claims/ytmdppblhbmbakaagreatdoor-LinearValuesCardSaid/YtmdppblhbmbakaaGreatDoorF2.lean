/- What the checks of linear forms do. -/
import Derived.Test.YtmdppblhbmbakaaGreatDoorF1
import Derived.Test.YtmdppblhbmbakaaGreatDoorShelg
set_option linter.unusedVariables false
set_option linter.unusedSimpArgs false
namespace Go.Proofs.YtmdppblhbmbakaaGreatDoor
open Go.RowKit Go.Maps _root_.Go.Proofs.YtmdppblhbmbakaaGreatDoor.Nm

set_option maxRecDepth 100000 in
set_option maxHeartbeats 1600000 in
theorem isNoNumber_any (s : ByteArray) (r : Bool) (w : World) (hr : Hid (noNum s = r)) (hs : s.size ≤ 100000) :
    Calls Tryz.prog 54 #[.string s] w fun e w' => e = .returned (.bool r) ∧ Below w.heap.size w w' := by
  obtain ⟨b, hb⟩ : ∃ b, (rval s.data.toList).isSome = b := ⟨_, rfl⟩
  obtain rfl : r = !b := by rw [← hr.out]; unfold noNum; rw [hb]
  have HB := Lib.hid hb
  clear hb hr
  go_enter Tryz.func54, Tryz.ntmps54
  go_wp2_with fail
  refine (qValid_any s b _ HB hs).mono ?_
  rintro e w1 ⟨rfl, hb⟩
  have HW := Lib.hid hb
  clear hb
  go_wp2
  go_ret
  exact ⟨rfl, HW.out⟩

set_option maxRecDepth 100000 in
set_option maxHeartbeats 1600000 in
theorem isColumn_any (c : Int) (r : Bool) (w : World) (hr : Hid (okCol c = r)) :
    Calls Tryz.prog 58 #[.int .i64 c] w fun e w' => e = .returned (.bool r) ∧ w' = w := by
  have h := hr.out
  unfold okCol at h
  clear hr
  by_cases h1 : 0 ≤ c
  · by_cases h2 : c < 2048
    · obtain rfl : r = true := by rw [← h]; simp [h1, h2]
      go_enter Tryz.func58, Tryz.ntmps58
      go_wp2
      all_goals first | (exfalso; omega) | (go_ret; exact ⟨rfl, rfl⟩)
    · obtain rfl : r = false := by rw [← h]; simp [h1, h2]
      go_enter Tryz.func58, Tryz.ntmps58
      go_wp2
      all_goals first | (exfalso; omega) | (go_ret; exact ⟨rfl, rfl⟩)
  · obtain rfl : r = false := by rw [← h]; simp [h1]
    go_enter Tryz.func58, Tryz.ntmps58
    go_wp2
    all_goals first | (exfalso; omega) | (go_ret; exact ⟨rfl, rfl⟩)

/-- Terms whose texts have a bounded size. -/
abbrev Ts := { t : Tm // t.2.size ≤ 100000 }
instance : Inhabited Ts := ⟨⟨(0, ⟨#[]⟩), by decide⟩⟩
def encS (t : Ts) : List Value := [.int .i64 t.1.1, .string t.1.2]
theorem toTs : ∀ (l : List Tm), (∀ t ∈ l, t.2.size ≤ 100000) → ∃ z : List Ts, z.map Subtype.val = l
  | [], _ => ⟨[], rfl⟩
  | t :: l, h => by
    obtain ⟨z, hz⟩ := toTs l (fun x hx => h x (by simp [hx]))
    exact ⟨⟨t, h t (by simp)⟩ :: z, by simp [hz]⟩

set_option maxRecDepth 100000 in
set_option maxHeartbeats 1600000 in
theorem check1_pred (w : World) : Go.Proofs.PredBelow Tryz.prog 111 #[] (fun t : Ts => .agg (encS t).toArray) (fun t => noNum t.1.2) w := by
  rintro W ⟨⟨c, s⟩, hs⟩ hW
  have HW := Lib.hid hW
  obtain ⟨r, hr⟩ : ∃ r, noNum s = r := ⟨_, rfl⟩
  show Calls _ _ (#[.agg #[.int .i64 c, .string s]] ++ #[]) W fun e w' => e = .returned (.bool (noNum s)) ∧ _
  rw [hr]
  have HR := Lib.hid hr
  clear hr hW
  go_enter Tryz.func111, Tryz.ntmps111
  go_wp2_with fail
  refine (isNoNumber_any s r _ HR hs).mono ?_
  rintro e w1 ⟨rfl, hb⟩
  have HB := Lib.hid ((HW.out.alloc HW.out.size _).trans (hb.mono (Nat.le_trans HW.out.size (by simp))))
  clear hb
  go_wp2
  go_ret
  exact ⟨rfl, HB.out⟩

set_option maxRecDepth 100000 in
set_option maxHeartbeats 1600000 in
theorem check2_pred (w : World) : Go.Proofs.PredBelow Tryz.prog 112 #[] (fun t : Ts => .agg (encS t).toArray) (fun t => !okCol t.1.1) w := by
  rintro W ⟨⟨c, s⟩, hs⟩ hW
  have HW := Lib.hid hW
  obtain ⟨r, hr⟩ : ∃ r, okCol c = r := ⟨_, rfl⟩
  show Calls _ _ (#[.agg #[.int .i64 c, .string s]] ++ #[]) W fun e w' => e = .returned (.bool (!okCol c)) ∧ _
  rw [hr]
  have HR := Lib.hid hr
  clear hr hW
  go_enter Tryz.func112, Tryz.ntmps112
  go_wp2_with fail
  refine (isColumn_any c r _ HR).mono ?_
  rintro e w1 ⟨rfl, rfl⟩
  go_wp2
  go_ret
  exact ⟨rfl, HW.out.alloc HW.out.size _⟩

/-- ContainsFunc of terms. -/
theorem contains_any (g : Nat) (p : Tm → Bool) (v : Value) (l : List Tm) (w : World) (eg : ∀ args w, (callFunc g args).run Tryz.prog w = .ok (.enter g args) w) (hp : Go.Proofs.PredBelow Tryz.prog g #[] (fun t : Ts => .agg (encS t).toArray) (fun t => p t.1) w) (hv : TsAt w v l) (hl : ∀ t ∈ l, t.2.size ≤ 100000) (hn : l.length ≤ 100000) (h0 : l ≠ []) :
    Calls Tryz.prog 110 #[v, .func (.func g) #[] #[]] w fun e w' => e = .returned (.bool (l.any p)) ∧ Below w.heap.size w w' := by
  obtain ⟨ad, n, cap, rfl, hlen, hv⟩ := hv
  obtain ⟨z, hz⟩ := toTs l hl
  have hzl : z.length = l.length := by rw [← hz]; simp
  rcases hv with h | ⟨b, off, rfl, hb, hc⟩
  · exact absurd (List.length_eq_zero_iff.1 (hlen.symm.trans h)) h0
  · have h := Go.Proofs.AnyQ.slices_ContainsFunc Tryz.contT 2 Tryz.isAgg68 Tryz.sizeOf68 encS (fun _ => rfl) (fun t => p t.1) g #[] eg b off n cap z w hp (by omega) (by omega) hb (fun j hj i u hu => by
      have hj' : j < l.length := by omega
      have e1 : z[j]! = z[j] := getElem!_pos z j hj
      have e2 : l[j] = (z[j]).1 := by simp [← hz]
      obtain ⟨h1, h2⟩ := hc j hj'
      rw [e2] at h1 h2
      rw [e1] at hu
      match i, hu with
      | 0, hu => simp [encS] at hu; subst hu; exact h1
      | 1, hu => simp [encS] at hu; subst hu; exact h2
      | i + 2, hu => simp [encS] at hu)
    have e3 : ((z.take n).any fun t => p t.1) = l.any p := by
      rw [List.take_of_length_le (by omega), ← hz, List.any_map]; rfl
    rw [e3] at h
    exact h

/-- .. of no term. -/
theorem contains_nil (ad : Option Addr) (cap : Nat) (fv : Value) (w : World) : Calls Tryz.prog 110 #[.slice ad 0 cap, fv] w fun e w' => e = .returned (.bool false) ∧ w' = w := by
  have h : Calls Tryz.prog 92 #[.slice ad 0 cap, fv] w fun e w' => e = .returned (.int .i64 (-1)) ∧ w' = w := by
    go_enter Tryz.func92, Tryz.ntmps92
    go_wp2
    go_loopw [8] (fun i wr => i = .int .i64 0 ∧ wr = w) (fun _ _ => 0)
    case atStart => exact ⟨rfl, rfl⟩
    case round =>
      obtain ⟨rfl, rfl⟩ := hrel
      go_wp2
      go_ret
      exact ⟨rfl, rfl⟩
  go_enter Tryz.func110, Tryz.ntmps110
  go_wp2_with (first | (go_at_call 92; refine h.mono ?_; rintro e w' ⟨rfl, rfl⟩))
  go_ret
  exact ⟨rfl, rfl⟩

theorem contains_all (g : Nat) (p : Tm → Bool) (v : Value) (l : List Tm) (r : Bool) (w : World) (eg : ∀ args w, (callFunc g args).run Tryz.prog w = .ok (.enter g args) w) (hp : Go.Proofs.PredBelow Tryz.prog g #[] (fun t : Ts => .agg (encS t).toArray) (fun t => p t.1) w) (hv : TsAt w v l) (hl : ∀ t ∈ l, t.2.size ≤ 100000) (hn : l.length ≤ 100000) (hr : Hid (l.any p = r)) :
    Calls Tryz.prog 110 #[v, .func (.func g) #[] #[]] w fun e w' => e = .returned (.bool r) ∧ Below w.heap.size w w' := by
  obtain rfl := hr.out
  cases l with
  | nil =>
    obtain ⟨ad, n, cap, rfl, hlen, _⟩ := hv
    obtain rfl : n = 0 := by simpa using hlen
    refine (contains_nil ad cap _ w).mono ?_
    rintro e w' ⟨rfl, rfl⟩
    exact ⟨rfl, Below.refl _ _⟩
  | cons t l => exact contains_any g p v (t :: l) w eg hp hv hl hn (by simp)

set_option maxRecDepth 100000 in
set_option maxHeartbeats 1600000 in
theorem checkParts_any (c : ByteArray) (ad : Option Addr) (n cap : Nat) (l : List Tm) (r : Int) (w : World) (hv : TsAt w (.slice ad n cap) l) (hc : c.size ≤ 100000) (hl : ∀ t ∈ l, t.2.size ≤ 100000) (hn : l.length ≤ 100000) (hr : Hid (partsErr c l = r)) :
    Calls Tryz.prog 71 #[.string c, .slice ad n cap] w fun e w' => e = .returned (.int .i64 r) ∧ Below w.heap.size w w' := by
  have HV := Lib.hid hv
  have HL := Lib.hid hl
  have HN := Lib.hid (And.intro trivial hn)
  obtain ⟨b1, hb1⟩ : ∃ b, noNum c = b := ⟨_, rfl⟩
  obtain ⟨b2, hb2⟩ : ∃ b, (l.any fun t => noNum t.2) = b := ⟨_, rfl⟩
  obtain ⟨b3, hb3⟩ : ∃ b, (l.any fun t => !okCol t.1) = b := ⟨_, rfl⟩
  have hr2 := hr.out
  unfold partsErr at hr2
  rw [hb1, hb2, hb3] at hr2
  have HB1 := Lib.hid hb1
  have HB2 := Lib.hid hb2
  have HB3 := Lib.hid hb3
  have HR := Lib.hid hr2
  clear hv hl hn hb1 hb2 hb3 hr2 hr
  go_enter Tryz.func71, Tryz.ntmps71
  go_wp2_with fail
  refine (isNoNumber_any c b1 _ HB1 hc).mono ?_
  rintro e w1 ⟨rfl, hb⟩
  have HW1 := Lib.hid hb
  have HV1 := Lib.hid (HV.out.keep hb (Nat.le_refl _))
  clear hb
  cases b1
  · go_wp2_with fail
    refine (contains_all 111 (fun t => noNum t.2) _ l b2 _ (enters_of Tryz.func111 (by kernel_rfl) rfl) (check1_pred _) HV1.out HL.out HN.out.2 HB2).mono ?_
    rintro e w2 ⟨rfl, hb⟩
    have HW2 := Lib.hid (HW1.out.trans (hb.mono HW1.out.size))
    have HV2 := Lib.hid (HV1.out.keep hb (Nat.le_refl _))
    clear hb
    cases b2
    · go_wp2_with fail
      refine (contains_all 112 (fun t => !okCol t.1) _ l b3 _ (enters_of Tryz.func112 (by kernel_rfl) rfl) (check2_pred _) HV2.out HL.out HN.out.2 HB3).mono ?_
      rintro e w3 ⟨rfl, hb⟩
      have HW3 := Lib.hid (HW2.out.trans (hb.mono HW2.out.size))
      clear hb
      cases b3
      · obtain rfl : r = 0 := HR.out.symm
        go_wp2
        go_ret
        exact ⟨rfl, HW3.out⟩
      · obtain rfl : r = 2 := HR.out.symm
        go_wp2
        go_ret
        exact ⟨rfl, HW3.out⟩
    · obtain rfl : r = 3 := HR.out.symm
      go_wp2
      go_ret
      exact ⟨rfl, HW2.out⟩
  · obtain rfl : r = 3 := by have := HR.out; simpa using this.symm
    go_wp2
    go_ret
    exact ⟨rfl, HW1.out⟩

end Go.Proofs.YtmdppblhbmbakaaGreatDoor
