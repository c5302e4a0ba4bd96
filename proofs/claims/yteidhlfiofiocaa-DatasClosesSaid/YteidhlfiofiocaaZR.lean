/- The reference's IsType, Flat, Cells, Type, Con and Name. -/
import Derived.Test.YteidhlfiofiocaaZ4
set_option linter.unusedVariables false
set_option linter.unusedSimpArgs false
namespace Go.Proofs.Yteidhlfiofiocaa
open Go.RowKit Go.Shelf

set_option maxRecDepth 100000 in
set_option maxHeartbeats 1600000 in
theorem rIsType_any (ad : Option Addr) (n cap : Nat) (t : Int) (d : List DataM) (r : Bool) (w : World) (hn : Hid (d.length = n)) (hr : Hid (Dt.ok d t = r)) :
    Calls Try.prog 61 #[.slice ad n cap, .int .i64 t] w fun e w' => e = .returned (.bool r) ∧ w' = w := by
  have h := hr.out
  rw [Dt.ok, hn.out] at h
  clear hr hn
  by_cases h1 : 0 ≤ t
  · by_cases h2 : t ≤ (n : Int)
    · obtain rfl : r = true := by rw [← h]; simp [h1, h2]
      clear h
      go_enter Try.func61, Try.ntmps61
      go_wp2
      all_goals first | (exfalso; omega) | (go_ret; exact ⟨rfl, rfl⟩)
    · obtain rfl : r = false := by rw [← h]; simp [h1, h2]
      clear h
      go_enter Try.func61, Try.ntmps61
      go_wp2
      all_goals first | (exfalso; omega) | (go_ret; exact ⟨rfl, rfl⟩)
  · obtain rfl : r = false := by rw [← h]; simp [h1]
    clear h
    go_enter Try.func61, Try.ntmps61
    go_wp2
    all_goals first | (exfalso; omega) | (go_ret; exact ⟨rfl, rfl⟩)

theorem wrap_k (k : Nat) (h : k ≤ 100000) : wrap64 (k : Int) = k := IntWalk.wrap64_in _ (by omega)
theorem wrap_k' (k : Nat) (h : k ≤ 100000) : IntKind.i64.wrap (k : Int) = k := IntWalk.i64_in _ (by omega)

/-- What lies at a type that exists. -/
theorem typ_at {w : World} {ad : Option Addr} {n cap : Nat} {d : List DataM} {t : Int} (hv : DsAt w (.slice ad n cap) d) (hok : Dt.ok d t = true) (h0 : t ≠ 0) :
    ∃ (k : Nat) (x : DataM) (b off : Nat) (fa : Option Addr) (fc : Nat), t = k + 1 ∧ k < d.length ∧ d[k]? = some x ∧ Dt.consOf d t = x.cons ∧ Dt.nameOf d t = x.name ∧ ad = some ⟨b, off, none⟩ ∧ b < w.heap.size ∧ w.cell? ⟨b, off + k * 2, none⟩ = some (.string x.name) ∧ w.cell? ⟨b, off + k * 2 + 1, none⟩ = some (.slice fa x.cons.length fc) ∧ CsAt w (.slice fa x.cons.length fc) x.cons := by
  obtain ⟨h1, h2⟩ := (ok_iff d t).1 hok
  obtain ⟨k, hk⟩ : ∃ k : Nat, t = k + 1 := ⟨(t - 1).toNat, by omega⟩
  have hkd : k < d.length := by omega
  have e1 : (t - 1).toNat = k := by omega
  obtain ⟨b, off, fa, fc, e, hb, c0, c1, hcs⟩ := hv.at k hkd
  refine ⟨k, d[k], b, off, fa, fc, hk, hkd, List.getElem?_eq_getElem hkd, ?_, ?_, e, hb, c0, c1, hcs⟩
  · simp [Dt.consOf, h0, hok, e1, List.getElem?_eq_getElem hkd]
  · simp [Dt.nameOf, h0, hok, e1, List.getElem?_eq_getElem hkd]

set_option maxRecDepth 100000 in
set_option maxHeartbeats 3200000 in
theorem rFlat_any (v : Value) (d : List DataM) (t : Int) (r : Bool) (w : World) (hv : DsAt w v d) (hd : Sm d) (hr : Hid (Dt.flat d t = r)) :
    Calls Try.prog 20 #[v, .int .i64 t] w fun e w' => e = .returned (.bool r) ∧ w' = w := by
  obtain ⟨ad, cap, rfl⟩ := hv.slice
  have h := hr.out
  unfold Dt.flat at h
  by_cases h0 : t = 0
  · subst h0
    obtain rfl : r = true := by rw [← h]; simp [Dt.ok, Dt.consOf]
    clear h hr hv hd
    go_enter Try.func20, Try.ntmps20
    go_wp2
    go_ret
    exact ⟨rfl, rfl⟩
  · have ht0 : (t == 0) = false := by simp [h0]
    cases hok : Dt.ok d t with
    | false =>
      obtain rfl : r = false := by rw [← h, hok]; rfl
      have HE := Lib.hid (rIsType_any ad d.length cap t d false w (Lib.hid rfl) (Lib.hid hok))
      generalize d.length = n at HE
      clear h hr hv hd hok
      go_enter Try.func20, Try.ntmps20
      go_wp2_with fail
      refine HE.out.mono ?_
      rintro e w' ⟨rfl, rfl⟩
      go_wp2
      go_ret
      exact ⟨rfl, rfl⟩
    | true =>
      have HE := Lib.hid (rIsType_any ad d.length cap t d true w (Lib.hid rfl) (Lib.hid hok))
      obtain ⟨k, x, b, off, fa, fc, rfl, hkd, hx, hcons, _, rfl, hb, c0, c1, hcs⟩ := typ_at hv hok h0
      have hxs : SmD x := hd.2 x (List.mem_of_getElem? hx)
      have hd1 := hd.1
      rw [hok, hcons] at h
      obtain ⟨n, hn⟩ : ∃ n, d.length = n := ⟨_, rfl⟩
      rw [hn] at HE hkd hd1 ⊢
      have hkn : (k : Int) < n := by omega
      have hw1 : wrap64 ((k : Int) + 1 - 1) = k := by rw [show (k : Int) + 1 - 1 = k by omega]; exact wrap_k k (by omega)
      have hw2 : IntKind.i64.wrap ((k : Int) + 1 - 1) = k := by rw [show (k : Int) + 1 - 1 = k by omega]; exact wrap_k' k (by omega)
      obtain ⟨cs, hcse⟩ : ∃ cs, x.cons = cs := ⟨_, rfl⟩
      rw [hcse] at c1 hcs h
      have hcl := hxs.2.1
      rw [hcse] at hcl
      obtain ⟨m, hm⟩ : ∃ m, cs.length = m := ⟨_, rfl⟩
      rw [hm] at c1 hcs hcl
      have HM := Lib.hid hm
      have HCS := Lib.hid hcs
      have HH := Lib.hid h
      have ht1 : ((k : Int) + 1 == 0) = false := by simp; omega
      clear hr hv hd hok hx hcons hxs hcse hm hcs h c0 hn hkd h0 ht0
      go_enter Try.func20, Try.ntmps20
      go_wp2_with fail
      refine HE.out.mono ?_
      rintro e w' ⟨rfl, hw⟩
      rw [hw]
      clear hw w' HE
      go_wp2
      go_loop [5] (fun i => ∃ j : Nat, j ≤ m ∧ i = .int .i64 j ∧ Hid (∀ i (h : i < j) (h2 : i < cs.length), Dt.hasF (cs[i]'h2) = false)) (fun i => m - (intOf i).toNat)
      case atStart => exact ⟨0, Nat.zero_le _, rfl, Lib.hid (fun j h => absurd h (Nat.not_lt_zero _))⟩
      case round =>
        obtain ⟨j, hj, rfl, HA⟩ := hrel
        by_cases hlt : j < m
        · have hjz : (j : Int) < (m : Int) := by omega
          have hjl : j < cs.length := by rw [HM.out]; exact hlt
          obtain ⟨b2, off2, ga, gc, rfl, hb2, e0, e1, hfs⟩ := HCS.out.at j hjl
          obtain ⟨z, hz⟩ : ∃ z, cs[j] = z := ⟨_, rfl⟩
          rw [hz] at e1
          have HZ := Lib.hid hz
          have HZM : Hid (z ∈ cs) := Lib.hid (by rw [← hz]; exact List.getElem_mem hjl)
          obtain ⟨zl, hzl⟩ : ∃ zl, z.fields.length = zl := ⟨_, rfl⟩
          rw [hzl] at e1
          have HZL := Lib.hid hzl
          clear hz hfs hzl e0
          by_cases p1 : 0 < zl
          · have p2 : (0 : Int) < zl := by omega
            obtain rfl : r = false := by
              rw [← HH.out]
              have : cs.any Dt.hasF = true := by rw [List.any_eq_true]; exact ⟨z, HZM.out, by simp [Dt.hasF, HZL.out, p1]⟩
              rw [this]; rfl
            go_wp2
            go_ret
            exact ⟨rfl, rfl⟩
          · obtain rfl : zl = 0 := by omega
            go_wp2
            go_round
            case rel =>
              refine ⟨j + 1, by omega, by go_num, Lib.hid (fun i h h2 => ?_)⟩
              by_cases e : i = j
              · subst e; rw [HZ.out]; simp [Dt.hasF, HZL.out]
              · exact HA.out i (by omega) h2
            case measure => simp [intOf]; omega
        · obtain rfl : m = j := by omega
          have hnn : ¬ (m : Int) < m := by omega
          obtain rfl : r = true := by
            rw [← HH.out]
            have : cs.any Dt.hasF = false := by
              rw [List.any_eq_false]
              intro x hx
              obtain ⟨i, hi, rfl⟩ := List.getElem_of_mem hx
              rw [HA.out i (by rw [← HM.out]; exact hi) hi]; simp
            rw [this]; rfl
          go_wp2
          go_ret
          exact ⟨rfl, rfl⟩

end Go.Proofs.Yteidhlfiofiocaa
