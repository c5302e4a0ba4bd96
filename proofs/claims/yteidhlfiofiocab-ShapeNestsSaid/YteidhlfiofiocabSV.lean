/- The law ShapeNests. -/
import Derived.Test.YteidhlfiofiocabSL
import Derived.Test.YteidhlfiofiocabSM
import Derived.Test.YteidhlfiofiocabSI
set_option linter.unusedVariables false
set_option linter.unusedSimpArgs false
namespace Go.Proofs.Yteidhlfiofiocab
open Go.RowKit Go.Shelf

theorem Dt.shErr_ok {d : List DataM} {ts : List Int} (h : Dt.check d = 0) (k : ∀ t ∈ ts, Dt.ok d t = true) : Dt.shErr d ts = 0 := by
  unfold Dt.shErr
  rw [if_pos h, if_neg]
  intro h2
  obtain ⟨t, ht, hq⟩ := List.any_eq_true.1 h2
  rw [k t ht] at hq
  exact absurd hq (by decide)
theorem Dt.insE_zero {d : List DataM} {t f : Int} : Dt.insE d t f = 0 ↔ Dt.check d = 0 ∧ Dt.ok d t = true ∧ Dt.ok d f = true ∧ Dt.inAll d t f = true := by
  unfold Dt.insE
  constructor
  · intro h
    split at h
    next h0 =>
      obtain ⟨h1, h2⟩ := Dt.shErr_zero h0
      split at h
      next h3 => exact ⟨h1, h2 t (by simp), h2 f (by simp), h3⟩
      next => omega
    next h0 => exact absurd h h0
  · rintro ⟨h1, h2, h3, h4⟩
    have h0 : Dt.shErr d [t, f] = 0 := Dt.shErr_ok h1 (by simp [h2, h3])
    rw [if_pos h0, if_pos h4]
theorem Dt.insL_zero {d : List DataM} {t f : Int} (h : Dt.insE d t f = 0) : Dt.insL d t f = Dt.inList d t f := by unfold Dt.insL; rw [if_pos h]

/-- What the law asks of three lists. -/
def Nest (A B C : List Int) : Prop := C.length = B.length ∧ ∀ (i : Nat) (hi : i < B.length), ∃ (j : Nat) (hj : j < A.length) (hc : i < C.length), B[i] = (j : Int) ∧ C[i] = A[j]
def Count (S : List Int) : Prop := ∀ (i : Nat) (hi : i < S.length), S[i] = (i : Int)

theorem Dt.nest {d : List DataM} {t u x : Int} (h1 : Dt.insE d t u = 0) (h2 : Dt.insE d u x = 0) : Dt.insE d t x = 0 ∧ Dt.insE d t t = 0 ∧ Nest (Dt.insL d t u) (Dt.insL d u x) (Dt.insL d t x) ∧ Count (Dt.insL d t t) := by
  obtain ⟨a1, a2, a3, a4⟩ := Dt.insE_zero.1 h1
  obtain ⟨b1, b2, b3, b4⟩ := Dt.insE_zero.1 h2
  have h3 : Dt.insE d t x = 0 := Dt.insE_zero.2 ⟨a1, a2, b3, Dt.inAll_trans a4 b4⟩
  have h4 : Dt.insE d t t = 0 := Dt.insE_zero.2 ⟨a1, a2, a2, Dt.inAll_self d t⟩
  refine ⟨h3, h4, ?_, ?_⟩
  · rw [Dt.insL_zero h1, Dt.insL_zero h2, Dt.insL_zero h3]
    refine ⟨by simp [Dt.inList_length], fun i hi => ?_⟩
    rw [Dt.inList_length] at hi
    obtain ⟨j, hj, e1, e2⟩ := Dt.inList_twice a4 b4 i hi
    exact ⟨j, by rw [Dt.inList_length]; exact hj, by rw [Dt.inList_length]; exact hi, e1, e2⟩
  · rw [Dt.insL_zero h4]
    intro i hi
    rw [Dt.inList_length] at hi
    exact Dt.inList_self d t i hi

theorem Dt.insL_short {d : List DataM} (hd : Sm d) (t f : Int) : (Dt.insL d t f).length ≤ 10100 := by
  unfold Dt.insL
  split
  · rw [Dt.inList_length]; exact Dt.places_few hd f
  · simp

/-- The box of the law's argument. -/
def Box3 (W : World) (g : Nat) (v : Value) (t u x : Int) : Prop := g < W.heap.size ∧ W.cell? ⟨g, 0, none⟩ = some v ∧ W.cell? ⟨g, 1, none⟩ = some (.int .i64 t) ∧ W.cell? ⟨g, 2, none⟩ = some (.int .i64 u) ∧ W.cell? ⟨g, 3, none⟩ = some (.int .i64 x)
theorem Box3.keep {X Y : World} {g : Nat} {v : Value} {t u x : Int} (h : Box3 X g v t u x) (b : Below X.heap.size X Y) : Box3 Y g v t u x :=
  ⟨Nat.lt_of_lt_of_le h.1 b.size, (b.cell (p := ⟨g, 0, none⟩) h.1).trans h.2.1, (b.cell (p := ⟨g, 1, none⟩) h.1).trans h.2.2.1, (b.cell (p := ⟨g, 2, none⟩) h.1).trans h.2.2.2.1, (b.cell (p := ⟨g, 3, none⟩) h.1).trans h.2.2.2.2⟩
theorem Box3.new (w : World) (v : Value) (t u x : Int) (T : TypeId) : Box3 (w.alloc (.cells #[v, .int .i64 t, .int .i64 u, .int .i64 x] T)) w.heap.size v t u x := by
  have h := World.alloc_heap_new w (.cells #[v, .int .i64 t, .int .i64 u, .int .i64 x] T)
  refine ⟨by simp, ?_, ?_, ?_, ?_⟩ <;> (unfold World.cell?; rw [h]; rfl)

set_option maxRecDepth 100000 in
set_option maxHeartbeats 12800000 in
theorem law_ShapeNests (v : Value) (d : List DataM) (t u x : Int) (w : World) (hv : DsAt w v d) (h64 : H64 d) (hl : d.length ≤ maxLen) (ht : In64 t) (hu : In64 u) (hx : In64 x) :
    Calls Try.prog 3 #[.agg #[v, .int .i64 t, .int .i64 u, .int .i64 x]] w fun e w' => e = .returned (.bool true) ∧ Below w.heap.size w w' := by
  obtain ⟨ad, cap, hE⟩ := hv.slice
  have HV := Lib.hid hv
  obtain ⟨q, hq⟩ : ∃ q, Dt.fewS d = q := ⟨_, rfl⟩
  have HFW : Hid (∀ W : World, DsAt W v d → Calls Try.prog 5 #[v] W fun e w' => e = .returned (.bool q) ∧ w' = W) := Lib.hid fun W h => sFew_any v d q W h hl (Lib.hid hq)
  have HIN : Hid (q = true → ∀ (W : World) (a b : Int), DsAt W v d → In64 a → In64 b → Calls Try.prog 6 #[v, .int .i64 a, .int .i64 b] W fun e w' => (∃ u, e = .returned (.tuple #[u, .int .i64 (Dt.insE d a b)]) ∧ FsAt w' u (Dt.insL d a b)) ∧ Below W.heap.size W w') :=
    Lib.hid fun h W a b hW ha hb => Inside_any v d a b W hW (Dt.fewS_sm (hq.trans h) h64) ha hb
  have HQ : Hid (q = true → ∀ a b, (Dt.insL d a b).length ≤ 10100) := Lib.hid fun h a b => Dt.insL_short (Dt.fewS_sm (hq.trans h) h64) a b
  have HT := Lib.hid ht
  have HU := Lib.hid hu
  have HX := Lib.hid hx
  have HNE := Lib.hid (@Dt.nest d t u x)
  generalize d.length = n at hE
  subst hE
  clear hv h64 ht hu hx hq hl
  go_enter Try.func3, Try.ntmps3
  go_wp2_with fail
  have HB0 := Lib.hid ((Below.refl w.heap.size w).alloc (Nat.le_refl _) (.cells #[.slice ad n cap, .int .i64 t, .int .i64 u, .int .i64 x] 25))
  have HX0 := Lib.hid (Box3.new w (.slice ad n cap) t u x 25)
  have HV0 := Lib.hid (HV.out.keep HB0.out (Nat.le_refl _))
  generalize w.alloc (.cells #[.slice ad n cap, .int .i64 t, .int .i64 u, .int .i64 x] 25) = w0 at HB0 HX0 HV0 ⊢
  refine (sawake_any w0).mono ?_
  rintro e w1 ⟨rfl, hb⟩
  have HB := Lib.hid (HB0.out.trans (hb.mono HB0.out.size))
  have HV1 := Lib.hid (HV0.out.keep hb (Nat.le_refl _))
  have HX1 := Lib.hid (HX0.out.keep hb)
  clear hb HB0 HV0 HX0 HV
  obtain ⟨x0, x1, x2, x3, x4⟩ := HX1.out
  go_wp2_with fail
  refine (HFW.out w1 HV1.out).mono ?_
  rintro e w2 ⟨rfl, hw⟩
  rw [hw]
  clear hw w2 HFW
  cases q with
  | false =>
    go_wp2
    go_ret
    exact ⟨rfl, HB.out⟩
  | true =>
    have HI : Hid (∀ (W : World) (a b : Int), DsAt W (.slice ad n cap) d → In64 a → In64 b → Calls Try.prog 6 #[.slice ad n cap, .int .i64 a, .int .i64 b] W fun e w' => (∃ u, e = .returned (.tuple #[u, .int .i64 (Dt.insE d a b)]) ∧ FsAt w' u (Dt.insL d a b)) ∧ Below W.heap.size W w') := Lib.hid (HIN.out (by trivial))
    have HL := Lib.hid (HQ.out (by trivial))
    clear HIN HQ
    go_wp2_with fail
    refine (HI.out w1 t u HV1.out HT.out HU.out).mono ?_
    rintro e w2 ⟨⟨ua, rfl, hua⟩, hb⟩
    have HB2 := Lib.hid (HB.out.trans (hb.mono HB.out.size))
    have HV2 := Lib.hid (HV1.out.keep hb (Nat.le_refl _))
    have HX2 := Lib.hid (HX1.out.keep hb)
    have HA2 := Lib.hid hua
    obtain ⟨E1, hE1⟩ : ∃ E, Dt.insE d t u = E := ⟨_, rfl⟩
    rw [hE1] at HNE ⊢
    clear hb hua hE1 x0 x1 x2 x3 x4
    obtain ⟨x0, x1, x2, x3, x4⟩ := HX2.out
    go_wp2_with fail
    refine (HI.out w2 u x HV2.out HU.out HX.out).mono ?_
    rintro e w3 ⟨⟨ub, rfl, hub⟩, hb⟩
    have HB3 := Lib.hid (HB2.out.trans (hb.mono HB2.out.size))
    have HV3 := Lib.hid (HV2.out.keep hb (Nat.le_refl _))
    have HX3 := Lib.hid (HX2.out.keep hb)
    have HA3 := Lib.hid (HA2.out.keep hb (Nat.le_refl _))
    have HC3 := Lib.hid hub
    obtain ⟨E2, hE2⟩ : ∃ E, Dt.insE d u x = E := ⟨_, rfl⟩
    rw [hE2] at HNE ⊢
    clear hb hub hE2 x0 x1 x2 x3 x4 HA2 HV2 HX2 HB2
    obtain ⟨x0, x1, x2, x3, x4⟩ := HX3.out
    by_cases h1 : E1 = 0
    · subst h1
      by_cases h2 : E2 = 0
      · subst h2
        obtain ⟨n1, n2, n3, n4⟩ := HNE.out rfl rfl
        have HN := Lib.hid n3
        have HS := Lib.hid n4
        have HN1 := Lib.hid n1
        have HN2 := Lib.hid n2
        clear n1 n2 n3 n4 HNE
        go_wp2_with fail
        refine (HI.out w3 t x HV3.out HT.out HX.out).mono ?_
        rintro e w4 ⟨⟨uc, rfl, huc⟩, hb⟩
        have HB4 := Lib.hid (HB3.out.trans (hb.mono HB3.out.size))
        have HV4 := Lib.hid (HV3.out.keep hb (Nat.le_refl _))
        have HX4 := Lib.hid (HX3.out.keep hb)
        have HA4 := Lib.hid (HA3.out.keep hb (Nat.le_refl _))
        have HC4 := Lib.hid (HC3.out.keep hb (Nat.le_refl _))
        have HR4 := Lib.hid huc
        rw [HN1.out]
        clear hb huc x0 x1 x2 x3 x4 HA3 HC3 HV3 HX3 HB3 HN1
        have HLb := HL.out u x
        have HLs := HL.out t t
        generalize Dt.insL d t u = La at HA4 HN
        generalize Dt.insL d u x = Lb at HC4 HN HLb
        generalize Dt.insL d t x = Lc at HR4 HN
        obtain ⟨aa, ca, hEa⟩ := HA4.out.slice
        obtain ⟨ab, cb, hEb⟩ := HC4.out.slice
        obtain ⟨ac, cc, hEc⟩ := HR4.out.slice
        rw [HN.out.1] at hEc
        obtain ⟨na, hna⟩ : ∃ n, La.length = n := ⟨_, rfl⟩
        obtain ⟨nb, hnb⟩ : ∃ n, Lb.length = n := ⟨_, rfl⟩
        rw [hna] at hEa
        rw [hnb] at hEb hEc
        have HNA := Lib.hid hna
        have HNB := Lib.hid hnb
        have hnm : nb ≤ 10100 := by rw [← hnb]; exact HLb
        clear hna hnb HLb
        subst hEa hEb hEc
        go_wp2
        go_loopw [9] (fun i wr => ∃ k : Nat, k ≤ nb ∧ i = .int .i64 k ∧ Hid (Below w4.heap.size w4 wr)) (fun i _ => nb - (intOf i).toNat)
        case atStart => exact ⟨0, Nat.zero_le _, rfl, Lib.hid (Below.refl _ _)⟩
        case round =>
          obtain ⟨k, hk, rfl, HBR⟩ := hrel
          by_cases hlt : k < nb
          · have hltz : (k : Int) < (nb : Int) := by omega
            obtain ⟨j, hj, hkc, e1, e2⟩ := HN.out.2 k (by rw [HNB.out]; exact hlt)
            obtain ⟨p1, o1, rfl, b1, c1⟩ := HC4.out.at k (by rw [HNB.out]; exact hlt)
            obtain ⟨p2, o2, rfl, b2, c2⟩ := HR4.out.at k hkc
            obtain ⟨p3, o3, rfl, b3, c3⟩ := HA4.out.at j hj
            rw [e1] at c1
            rw [e2] at c2
            generalize La[j] = y at c2 c3
            rw [HNA.out] at hj
            replace c1 := (HBR.out.cell (p := ⟨p1, o1 + k, none⟩) b1).trans c1
            replace c2 := (HBR.out.cell (p := ⟨p2, o2 + k, none⟩) b2).trans c2
            replace c3 := (HBR.out.cell (p := ⟨p3, o3 + j, none⟩) b3).trans c3
            have hk0 : (0 : Int) ≤ k := by omega
            have hj0 : (0 : Int) ≤ j := by omega
            have hjz : (j : Int) < na := by omega
            have hd1 : decide ((j : Int) < 0) = false := by simp
            have hd2 : decide ((na : Int) ≤ (j : Int)) = false := by simp; omega
            have hd3 : ¬ na ≤ j := by omega
            clear e1 e2 hkc
            go_wp2
            go_quiet ((fail))
            go_wp2
            go_roundw
            case rel => exact ⟨k + 1, by omega, by go_num, Lib.hid (HBR.out.trans ((below_drewNg wr _).mono HBR.out.size))⟩
            case measure => simp [intOf]; omega
          · obtain rfl : nb = k := by omega
            have hnn : ¬ (nb : Int) < nb := by omega
            have HV5 := Lib.hid (HV4.out.keep HBR.out (Nat.le_refl _))
            have HX5 := Lib.hid (HX4.out.keep HBR.out)
            have HB5 := Lib.hid (HB4.out.trans (HBR.out.mono HB4.out.size))
            obtain ⟨x0, x1, x2, x3, x4⟩ := HX5.out
            go_wp2_with fail
            refine (HI.out wr t t HV5.out HT.out HT.out).mono ?_
            rintro e w6 ⟨⟨us, rfl, hus⟩, hb⟩
            have HB6 := Lib.hid (HB5.out.trans (hb.mono HB5.out.size))
            have HS6 := Lib.hid hus
            rw [HN2.out]
            clear hb hus x0 x1 x2 x3 x4 HN2
            generalize Dt.insL d t t = Ls at HS6 HS HLs
            obtain ⟨pa, pc, hEs⟩ := HS6.out.slice
            obtain ⟨ns, hns⟩ : ∃ n, Ls.length = n := ⟨_, rfl⟩
            rw [hns] at hEs HLs
            have HNS := Lib.hid hns
            clear hns
            subst hEs
            go_wp2
            go_loopw [12] (fun i wr => ∃ k : Nat, k ≤ ns ∧ i = .int .i64 k ∧ Hid (Below w6.heap.size w6 wr)) (fun i _ => ns - (intOf i).toNat)
            case atStart => exact ⟨0, Nat.zero_le _, rfl, Lib.hid (Below.refl _ _)⟩
            case round =>
              obtain ⟨k, hk, rfl, HBR2⟩ := hrel
              by_cases hlt2 : k < ns
              · have hltz : (k : Int) < (ns : Int) := by omega
                obtain ⟨p1, o1, rfl, b1, c1⟩ := HS6.out.at k (by rw [HNS.out]; exact hlt2)
                rw [HS.out k (by rw [HNS.out]; exact hlt2)] at c1
                replace c1 := (HBR2.out.cell (p := ⟨p1, o1 + k, none⟩) b1).trans c1
                have hk0 : (0 : Int) ≤ k := by omega
                go_wp2
                go_roundw
                case rel => exact ⟨k + 1, by omega, by go_num, HBR2⟩
                case measure => simp [intOf]; omega
              · obtain rfl : ns = k := by omega
                have hnn2 : ¬ (ns : Int) < ns := by omega
                go_wp2
                go_ret
                exact ⟨rfl, HB6.out.trans (HBR2.out.mono HB6.out.size)⟩
      · have hne2 : (E2 != 0) = true := by simpa using h2
        go_wp2
        go_ret
        exact ⟨rfl, HB3.out⟩
    · have hne1 : (E1 != 0) = true := by simpa using h1
      go_wp2
      go_ret
      exact ⟨rfl, HB3.out⟩

end Go.Proofs.Yteidhlfiofiocab
