/- The reference's Valid, Of, Int at 0. -/
import Derived.Test.YtpnofebhpeiepaaGreatDoorT10
import Derived.Test.YtpnofebhpeiepaaGreatDoorT8
set_option linter.unusedVariables false
set_option linter.unusedSimpArgs false
namespace Go.Proofs.YtpnofebhpeiepaaGreatDoor
open Go.RowKit _root_.Go.Proofs.YtpnofebhpeiepaaGreatDoor.Nm

set_option maxRecDepth 100000 in
set_option maxHeartbeats 1600000 in
theorem rSmall_zero (w : World) : Calls Tryz.prog 75 #[.int .i64 0] w fun e w' => e = .returned (.string ⟨#[48]⟩) ∧ w = w' := by
  go_enter Tryz.func75, Tryz.ntmps75
  go_wp2
  go_ret
  exact ⟨rfl, rfl⟩

set_option maxRecDepth 100000 in
set_option maxHeartbeats 1600000 in
theorem rrValid_any (s : ByteArray) (o : Option Rat) (w : World) (ho : Hid (rval s.data.toList = o)) (hs : s.size ≤ 100000) :
    Calls Tryz.prog 40 #[.string s] w fun e w' => e = .returned (.bool o.isSome) ∧ Below w.heap.size w w' := by
  go_enter Tryz.func40, Tryz.ntmps40
  go_wp2_with fail
  refine (rrRead_any s o _ ho hs).mono ?_
  rintro e w1 ⟨n1, a1, l1, c1, n2, a2, l2, c2, rfl, _, hb⟩
  have HW := Lib.hid hb
  clear hb
  go_wp2
  go_ret
  exact ⟨rfl, HW.out.alloc HW.out.size _⟩

set_option maxRecDepth 100000 in
set_option maxHeartbeats 1600000 in
theorem rrInt_zero (w : World) : Calls Tryz.prog 41 #[.int .i64 0] w (RRPost 0 w) := by
  have hA := (Below.refl w.heap.size w).alloc (Nat.le_refl _) (.cells #[.bool false, .slice none 0 0, .bool false, .slice none 0 0] 30)
  have HB0 : Hid (B4 (w.alloc (.cells #[.bool false, .slice none 0 0, .bool false, .slice none 0 0] 30)) w.heap.size (.bool false) (.slice none 0 0) (.bool false) (.slice none 0 0)) := Lib.hid (B4.new w _ _ _ _ _)
  have HW0 := Lib.hid hA
  clear hA
  go_enter Tryz.func41, Tryz.ntmps41
  go_wp2_with fail
  refine (rSmall_zero _).mono ?_
  rintro e w1 ⟨rfl, rfl⟩
  go_wp2_with fail
  refine (rO_to ⟨#[48]⟩ 0 (by decide +kernel) (Lib.hid ⟨trivial, by decide +kernel⟩) _).mono ?_
  rintro e w1 ⟨v1, rfl, hv1, hb⟩
  have HV1 := Lib.hid hv1
  have HB1 := Lib.hid (HB0.out.below hb HB0.out.lt)
  have HW1 := Lib.hid (HW0.out.trans (hb.mono HW0.out.size))
  clear hv1 hb
  go_wp2_with fail
  refine (rone_any _).mono ?_
  rintro e w2 ⟨v2, rfl, hv2, hb⟩
  have HV2 := Lib.hid (HV1.out.keep hb (Nat.le_refl _))
  have HU2 := Lib.hid hv2
  have HB2 := Lib.hid (HB1.out.below hb HB1.out.lt)
  have HW2 := Lib.hid (HW1.out.trans (hb.mono HW1.out.size))
  clear hv2 hb
  go_wp2_with fail
  refine (rNew_any _ _ 0 1 0 _ HV2.out HU2.out (by decide) (by decide +kernel) (by decide +kernel) (Lib.hid (by decide +kernel))).mono ?_
  rintro e w3 ⟨v3, rfl, hv3, hb⟩
  obtain ⟨m1, b1, j1, d1, m2, b2, j2, d2, rfl, hz1, hz2⟩ := hv3
  have HV : Hid (RRef w3 (.agg #[.bool m1, .slice b1 j1 d1, .bool m2, .slice b2 j2 d2]) 0) := Lib.hid ⟨_, _, _, _, _, _, _, _, rfl, hz1, hz2⟩
  have HR := Lib.hid (HB2.out.below hb HB2.out.lt)
  have HW := Lib.hid (HW2.out.trans (hb.mono HW2.out.size))
  clear hz1 hz2 hb
  obtain ⟨e0, e1, e2, e3⟩ := HR.out.cell
  obtain ⟨f0, f1, f2, f3⟩ := HR.out.froz
  go_wp2
  obtain ⟨l0, l1', l2', l3'⟩ := (HR.out.put (.bool m1) (.slice b1 j1 d1) (.bool m2) (.slice b2 j2 d2)).cell
  refine bodyPost_ret (v := .agg #[.bool m1, .slice b1 j1 d1, .bool m2, .slice b2 j2 d2]) (by simp only [results, Tryz.results41]; simp [go_sem, l0, l1', l2', l3']) rfl ?_
  exact RRPost.boxed HV.out HR.out HW.out (by omega) _ _ _ _

set_option maxRecDepth 100000 in
set_option maxHeartbeats 1600000 in
theorem rrOf_some (s : ByteArray) (q : Rat) (w : World) (ho : Hid (rval s.data.toList = some q)) (hs : s.size ≤ 100000) : Calls Tryz.prog 42 #[.string s] w (RRPost q w) := by
  have hA := (Below.refl w.heap.size w).alloc (Nat.le_refl _) (.cells #[.bool false, .slice none 0 0, .bool false, .slice none 0 0] 30)
  have HB0 : Hid (B4 (w.alloc (.cells #[.bool false, .slice none 0 0, .bool false, .slice none 0 0] 30)) w.heap.size (.bool false) (.slice none 0 0) (.bool false) (.slice none 0 0)) := Lib.hid (B4.new w _ _ _ _ _)
  have HW0 := Lib.hid hA
  clear hA
  go_enter Tryz.func42, Tryz.ntmps42
  go_wp2_with fail
  refine (rrRead_any s (some q) _ ho hs).mono ?_
  rintro e w1 ⟨n1, a1, l1, c1, n2, a2, l2, c2, rfl, hq, hb⟩
  rw [show (some q : Option Rat).isSome = true from rfl]
  have hA := (Below.refl w1.heap.size w1).alloc (Nat.le_refl _) (.cells #[.bool n1, .slice a1 l1 c1, .bool n2, .slice a2 l2 c2] 30)
  have HV := Lib.hid ((hq q rfl).keep hA (Nat.le_refl _))
  have h1 := HB0.out.below hb HB0.out.lt
  have HR := Lib.hid (h1.below hA h1.lt)
  have h2 := HW0.out.trans (hb.mono HW0.out.size)
  have HW := Lib.hid (h2.trans (hA.mono h2.size))
  have hne : w.heap.size ≠ w1.heap.size := by have := h1.lt; omega
  have hne2 : w1.heap.size ≠ w.heap.size := fun e => hne e.symm
  clear hq hb hA h1 h2
  obtain ⟨e0, e1, e2, e3⟩ := HR.out.cell
  obtain ⟨f0, f1, f2, f3⟩ := HR.out.froz
  go_wp2
  obtain ⟨l0, l1', l2', l3'⟩ := (HR.out.put (.bool n1) (.slice a1 l1 c1) (.bool n2) (.slice a2 l2 c2)).cell
  refine bodyPost_ret (v := .agg #[.bool n1, .slice a1 l1 c1, .bool n2, .slice a2 l2 c2]) (by simp only [results, Tryz.results42]; simp [go_sem, l0, l1', l2', l3']) rfl ?_
  exact RRPost.boxed HV.out HR.out HW.out (by omega) _ _ _ _

end Go.Proofs.YtpnofebhpeiepaaGreatDoor
