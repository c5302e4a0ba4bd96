/- What exists, constructors, hasFields, Flat and Cells do. -/
import Derived.Test.YtphlokjhfbfogaaZ2
import Derived.Shelf.Abstract
set_option linter.unusedVariables false
set_option linter.unusedSimpArgs false
namespace Go.Proofs.Ytphlokjhfbfogaa
open Go.RowKit Go.Shelf

theorem eHasFields : ∀ args w, (callFunc 33 args).run Try.prog w = .ok (.enter 33 args) w := enters_of Try.func33 (by kernel_rfl) rfl

theorem consOf_mem {d : List DataM} {t : Int} {c : ConM} (h : c ∈ Dt.consOf d t) : ∃ x ∈ d, c ∈ x.cons := by
  unfold Dt.consOf at h
  split at h
  · cases h
  · cases hx : d[(t - 1).toNat]? with
    | none => rw [hx] at h; cases h
    | some x => rw [hx] at h; exact ⟨x, List.mem_of_getElem? hx, h⟩
theorem consOf_length {d : List DataM} (hd : Sm d) (t : Int) : (Dt.consOf d t).length ≤ 100 := by
  unfold Dt.consOf
  split
  · simp
  · cases hx : d[(t - 1).toNat]? with
    | none => simp
    | some x => simpa using (hd.2 x (List.mem_of_getElem? hx)).2.1

theorem ok_iff (d : List DataM) (t : Int) : Dt.ok d t = true ↔ 0 ≤ t ∧ t ≤ d.length := by simp [Dt.ok]

set_option maxRecDepth 100000 in
set_option maxHeartbeats 1600000 in
theorem exists_any (ad : Option Addr) (n cap : Nat) (t : Int) (d : List DataM) (r : Bool) (w : World) (hn : Hid (d.length = n)) (hr : Hid (Dt.ok d t = r)) :
    Calls Try.prog 24 #[.slice ad n cap, .int .i64 t] w fun e w' => e = .returned (.bool r) ∧ w' = w := by
  have h := hr.out
  rw [Dt.ok, hn.out] at h
  clear hr hn
  by_cases h1 : 0 ≤ t
  · by_cases h2 : t ≤ (n : Int)
    · obtain rfl : r = true := by rw [← h]; simp [h1, h2]
      clear h
      go_enter Try.func24, Try.ntmps24
      go_wp2
      all_goals first | (exfalso; omega) | (go_ret; exact ⟨rfl, rfl⟩)
    · obtain rfl : r = false := by rw [← h]; simp [h1, h2]
      clear h
      go_enter Try.func24, Try.ntmps24
      go_wp2
      all_goals first | (exfalso; omega) | (go_ret; exact ⟨rfl, rfl⟩)
  · obtain rfl : r = false := by rw [← h]; simp [h1]
    clear h
    go_enter Try.func24, Try.ntmps24
    go_wp2
    all_goals first | (exfalso; omega) | (go_ret; exact ⟨rfl, rfl⟩)

set_option maxRecDepth 100000 in
set_option maxHeartbeats 1600000 in
theorem constructors_any (v : Value) (d : List DataM) (t : Int) (w : World) (hv : DsAt w v d) (hd : d.length ≤ 100) :
    Calls Try.prog 26 #[v, .int .i64 t] w fun e w' => ∃ u, e = .returned u ∧ CsAt w u (Dt.consOf d t) ∧ w' = w := by
  obtain ⟨ad, cap, rfl⟩ := hv.slice
  obtain ⟨n, hln⟩ : ∃ n, d.length = n := ⟨_, rfl⟩
  obtain ⟨r, hr⟩ : ∃ r, Dt.ok d t = r := ⟨_, rfl⟩
  rw [hln] at hv ⊢
  have HL := Lib.hid hln
  have HR := Lib.hid hr
  have HV := Lib.hid hv
  by_cases h0 : t = 0
  · subst h0
    have hc : Dt.consOf d 0 = [] := by simp [Dt.consOf]
    rw [hc]
    clear hv hr hln
    go_enter Try.func26, Try.ntmps26
    go_wp2
    go_ret
    exact ⟨_, rfl, CsAt.nil _, rfl⟩
  · cases r with
    | false =>
      have hc : Dt.consOf d t = [] := by simp [Dt.consOf, hr]
      rw [hc]
      have ht0 : (t == 0) = false := by simp [h0]
      clear hv hr hln hc
      go_enter Try.func26, Try.ntmps26
      go_wp2_with fail
      refine (exists_any ad n cap t d false w HL HR).mono ?_
      rintro e w' ⟨rfl, rfl⟩
      go_wp2
      go_ret
      exact ⟨_, rfl, CsAt.nil _, rfl⟩
    | true =>
      obtain ⟨h1, h2⟩ := (ok_iff d t).1 hr
      obtain ⟨k, hk⟩ : ∃ k : Nat, t = k + 1 := ⟨(t - 1).toNat, by omega⟩
      have hkd : k < d.length := by omega
      have hc : Dt.consOf d t = d[k].cons := by
        have e1 : (t - 1).toNat = k := by omega
        simp [Dt.consOf, h0, hr, e1, List.getElem?_eq_getElem hkd]
      rw [hc]
      subst hk
      obtain ⟨b, off, fa, fc, rfl, hb, c0, c1, hcs⟩ := hv.at k hkd
      obtain ⟨fl, hfl⟩ : ∃ fl, d[k].cons.length = fl := ⟨_, rfl⟩
      rw [hfl] at c1 hcs
      have HC := Lib.hid hcs
      have ht0 : ((k : Int) + 1 == 0) = false := by simp; omega
      have hs1 : IntKind.i64.wrap ((k : Int) + 1 - 1) = k := by rw [show (k : Int) + 1 - 1 = k by omega]; exact IntWalk.i64_in _ (by omega)
      have hkn : (k : Int) < n := by omega
      clear hfl hv hr hln hc hcs h0 h1 h2 c0
      go_enter Try.func26, Try.ntmps26
      go_wp2_with fail
      refine (exists_any _ n cap ((k : Int) + 1) d true w HL HR).mono ?_
      rintro e w' ⟨rfl, rfl⟩
      go_wp2
      go_ret
      exact ⟨_, rfl, HC.out, rfl⟩


set_option maxRecDepth 100000 in
set_option maxHeartbeats 1600000 in
theorem hasFields_any (nm : ByteArray) (ad : Option Addr) (n cap : Nat) (r : Bool) (w : World) (hr : Hid (decide (0 < n) = r)) :
    Calls Try.prog 33 #[.agg #[.string nm, .slice ad n cap]] w fun e w' => e = .returned (.bool r) ∧ Below w.heap.size w w' := by
  have HA := Lib.hid ((Below.refl w.heap.size w).alloc (Nat.le_refl _) (.cells #[.string nm, .slice ad n cap] 34))
  go_enter Try.func33, Try.ntmps33
  go_wp2
  go_ret
  exact ⟨by rw [← hr.out] <;> rfl, HA.out⟩

theorem hasFields_pred (l : List ConM) (w : World) : PredC 33 #[] l Dt.hasF w := by
  intro W x vf hx hW hf
  obtain ⟨ad, cap, rfl⟩ := hf.slice
  refine (hasFields_any x.name ad x.fields.length cap (Dt.hasF x) W (Lib.hid rfl)).mono ?_
  rintro e w' ⟨rfl, hb⟩
  exact ⟨rfl, hW.trans (hb.mono hW.size)⟩

set_option maxRecDepth 100000 in
set_option maxHeartbeats 1600000 in
theorem Flat_any (v : Value) (d : List DataM) (t : Int) (r : Bool) (w : World) (hv : DsAt w v d) (hd : Sm d) (hr : Hid (Dt.flat d t = r)) :
    Calls Try.prog 12 #[v, .int .i64 t] w fun e w' => e = .returned (.bool r) ∧ Below w.heap.size w w' := by
  obtain ⟨ad, cap, rfl⟩ := hv.slice
  obtain ⟨n, hln⟩ : ∃ n, d.length = n := ⟨_, rfl⟩
  obtain ⟨q, hq⟩ : ∃ q, Dt.ok d t = q := ⟨_, rfl⟩
  obtain ⟨s, hs⟩ : ∃ s, (Dt.consOf d t).any Dt.hasF = s := ⟨_, rfl⟩
  obtain rfl : r = (q && !s) := by rw [← hr.out, Dt.flat, hq, hs]
  have hcl : (Dt.consOf d t).length ≤ 100 := consOf_length hd t
  have HC := Lib.hid (constructors_any (.slice ad d.length cap) d t w hv hd.1)
  rw [hln] at hv HC ⊢
  have HL := Lib.hid hln
  have HQ := Lib.hid hq
  have HS := Lib.hid hs
  clear hv hr hln hq hs
  cases q with
  | false =>
    go_enter Try.func12, Try.ntmps12
    go_wp2_with fail
    refine (exists_any ad n cap t d false w HL HQ).mono ?_
    rintro e w' ⟨rfl, rfl⟩
    go_wp2
    go_ret
    exact ⟨rfl, Below.refl _ _⟩
  | true =>
    go_enter Try.func12, Try.ntmps12
    go_wp2_with fail
    refine (exists_any ad n cap t d true w HL HQ).mono ?_
    rintro e w' ⟨rfl, rfl⟩
    go_wp2_with fail
    refine HC.out.mono ?_
    rintro e w'' ⟨u, rfl, hu, rfl⟩
    go_wp2_with fail
    refine (containsC 33 #[] Dt.hasF u _ s _ eHasFields (hasFields_pred _ _) hu (by omega) HS).mono ?_
    rintro e w1 ⟨rfl, hb⟩
    have HB := Lib.hid hb
    clear hb
    go_wp2
    go_ret
    exact ⟨by cases s <;> rfl, HB.out⟩

set_option maxRecDepth 100000 in
set_option maxHeartbeats 1600000 in
theorem Cells_any (v : Value) (d : List DataM) (t con : Int) (w : World) (hv : DsAt w v d) (hd : Sm d) (hc : In64 con) :
    Calls Try.prog 13 #[v, .int .i64 t, .int .i64 con] w fun e w' => e = .returned (.int .i64 (Dt.cells d t con)) ∧ Below w.heap.size w w' := by
  obtain ⟨ad, cap, rfl⟩ := hv.slice
  have hcl : (Dt.consOf d t).length ≤ 100 := consOf_length hd t
  have HC := Lib.hid (constructors_any (.slice ad d.length cap) d t w hv hd.1)
  obtain ⟨c1, c2⟩ := hc
  generalize d.length = n at HC
  obtain ⟨l, hl⟩ : ∃ l, Dt.consOf d t = l := ⟨_, rfl⟩
  rw [Dt.cells, hl]
  rw [hl] at hcl HC
  clear hv hl
  unfold Dt.cellsL
  obtain ⟨m, hm⟩ : ∃ m, l.length = m := ⟨_, rfl⟩
  by_cases h1 : con < 0
  · rw [if_pos (.inl h1)]
    clear hm
    go_enter Try.func13, Try.ntmps13
    go_wp2_with fail
    refine HC.out.mono ?_
    rintro e w'' ⟨u, rfl, hu, rfl⟩
    obtain ⟨a2, m2, rfl⟩ := hu.slice
    clear hu
    go_wp2
    go_ret
    exact ⟨rfl, Below.refl _ _⟩
  · by_cases h2 : (m : Int) ≤ con
    · rw [if_pos (.inr (by rw [hm]; exact h2))]
      have HM := Lib.hid hm
      clear hm
      go_enter Try.func13, Try.ntmps13
      go_wp2_with fail
      refine HC.out.mono ?_
      rintro e w'' ⟨u, rfl, hu, rfl⟩
      obtain ⟨a2, m2, rfl⟩ := hu.slice
      rw [HM.out]
      clear hu
      go_wp2
      all_goals first | (exfalso; omega) | (go_ret; exact ⟨rfl, Below.refl _ _⟩)
    · obtain ⟨k, rfl⟩ : ∃ k : Nat, con = k := ⟨con.toNat, by omega⟩
      have hk : k < l.length := by omega
      rw [if_neg (by rintro (h | h) <;> omega)]
      have e1 : ((k : Int)).toNat = k := by omega
      rw [e1, List.getElem?_eq_getElem hk]
      obtain ⟨y, hy⟩ : ∃ y, l[k] = y := ⟨_, rfl⟩
      obtain ⟨q, hq⟩ : ∃ q, Dt.hasF y = q := ⟨_, rfl⟩
      simp only [hy, hq]
      have HM := Lib.hid hm
      have HY := Lib.hid hy
      have HQ := Lib.hid hq
      clear hm hy hq e1
      go_enter Try.func13, Try.ntmps13
      go_wp2_with fail
      refine HC.out.mono ?_
      rintro e w'' ⟨u, rfl, hu, rfl⟩
      obtain ⟨a2, m2, rfl⟩ := hu.slice
      obtain ⟨b, off, fa, fc, rfl, hb, c0, c1, hfs⟩ := hu.at k hk
      rw [HY.out] at c0 c1 hfs
      rw [HM.out]
      have hkm : (k : Int) < m := by omega
      have hkm2 : ¬ (m : Int) ≤ k := by omega
      have HF := Lib.hid (hasFields_any y.name fa y.fields.length fc q w'' HQ)
      generalize y.name = nm at c0 HF
      generalize y.fields.length = fl at c1 HF
      clear hu hfs HY hk HC h2 hcl
      go_wp2_with fail
      refine HF.out.mono ?_
      rintro e w1 ⟨rfl, hb1⟩
      have HB := Lib.hid hb1
      clear hb1 c0 c1
      cases q
      · go_wp2
        go_ret
        exact ⟨rfl, HB.out⟩
      · go_wp2
        go_ret
        exact ⟨rfl, HB.out⟩

end Go.Proofs.Ytphlokjhfbfogaa
