/- What Join does with the tokens of a scan. -/
import Derived.Test.YtpoddcegfhgdeaaDoorYR
import Derived.Test.YtpoddcegfhgdeaaDoorYT
import Derived.Shelf.Strings.BuilderK
set_option linter.unusedVariables false
set_option linter.unusedSimpArgs false
namespace Go.Proofs.YtpoddcegfhgdeaaDoor
open Go.RowKit

theorem Len_any (B b : Nat) (bs : List Value) (w : World) (h : Lib.IsBuilder 64 5 B b bs w) :
    Calls Tryd.prog 30 #[.pointer (some ⟨b, 0, none⟩)] w fun e w' => e = .returned (.int .i64 (bs.length : Nat)) ∧ w' = w := by
  obtain ⟨p, h⟩ : ∃ p, Lib.BuilderAt 64 5 B b p bs w := by
    rcases h with h | h
    · exact ⟨_, h⟩
    · exact ⟨_, h⟩
  obtain ⟨hB, v, hbk, hown, hne⟩ := h
  have c1 : w.cell? ⟨b, 1, none⟩ = some v := by rw [Lib.cell_of_heap hbk]; rfl
  obtain ⟨ad, cap, rfl⟩ : ∃ ad cap, v = .slice ad bs.length cap := by
    rcases hown.2 with ⟨h, h0⟩ | ⟨g, cap, cur, h, _⟩
    · exact ⟨none, 0, by rw [h, h0]⟩
    · exact ⟨_, cap, h⟩
  go_enter Tryd.func30, Tryd.ntmps30
  go_wp2
  go_ret
  exact ⟨rfl, rfl⟩

theorem cells_app (l : List UInt8) (s : ByteArray) : Lib.byteCells l ++ Lib.strCells s = Lib.byteCells (l ++ s.data.toList) := by
  unfold Lib.byteCells Lib.strCells
  rw [List.map_append]

theorem Builder.alloc {G : Nat} {bs : List Value} {W : World} (h : Lib.IsBuilder 64 5 G G bs W) {W' : World} (hb : Below W.heap.size W W') : Lib.IsBuilder 64 5 G G bs W' := by
  have key : ∀ p, Lib.BuilderAt 64 5 G G p bs W → Lib.BuilderAt 64 5 G G p bs W' := by
    rintro p ⟨h1, v, h2, h3, h4⟩
    exact ⟨h1, v, (hb.block G (Array.getElem?_eq_some_iff.1 h2).1).trans h2, own_same h3 fun g hg => hb.block g (own_type h3 hg).choose_spec.2.2, h4⟩
  rcases h with h | h
  · exact .inl (key _ h)
  · exact .inr (key _ h)

theorem Builder.other {G : Nat} {bs : List Value} {W W' : World} {row : Option Nat} (h : Lib.IsBuilder 64 5 G G bs W) (hg : W.grownBy W' row) (hr : ∀ g, row = some g → G < g ∧ ∃ cur fz, W.heap[g]? = some (.cells cur 37 fz)) : Lib.IsBuilder 64 5 G G bs W' := by
  have key : ∀ p, Lib.BuilderAt 64 5 G G p bs W → Lib.BuilderAt 64 5 G G p bs W' := by
    rintro p ⟨h1, v, h2, h3, h4⟩
    refine ⟨h1, v, (hg.block G (Array.getElem?_eq_some_iff.1 h2).1 (fun e => by have := (hr G e.symm).1; omega)).trans h2, own_same h3 fun g hv => hg.block g (own_type h3 hv).choose_spec.2.2 (fun e => ?_), h4⟩
    obtain ⟨c, f, hc⟩ := (hr g e.symm).2
    obtain ⟨c', h1', _⟩ := own_type h3 hv
    rw [hc] at h1'
    cases h1'
  rcases h with h | h
  · exact .inl (key _ h)
  · exact .inr (key _ h)

theorem bytes_back (S : ByteArray) : (⟨S.data.toList.toArray⟩ : ByteArray) = S := by apply ByteArray.ext; simp
theorem BString_k (B b : Nat) (l : List UInt8) (w : World) (h : Lib.IsBuilderF 64 5 B b (Lib.byteCells l) w) (hBw : B ≤ w.heap.size) :
    Calls Tryd.prog 31 #[.pointer (some ⟨b, 0, none⟩)] w fun e w' => e = .returned (.string ⟨l.toArray⟩) ∧ (Lib.IsBuilderF 64 5 B b (Lib.byteCells l) w' ∧ Below B w w' ∧ Lib.OthersKept 5 (some b) w w') := Any.Builder_String_any_k Tryd.lays169 Tryd.Builder_Extra_169 B b l w h hBw

theorem builderF_below {G : Nat} {bs : List Value} {W W' : World} (h : Lib.IsBuilderF 64 5 G G bs W) (hb : Below W.heap.size W W') : Lib.IsBuilderF 64 5 G G bs W' := by
  have key : ∀ p, Lib.BuilderAtF 64 5 G G p bs W → Lib.BuilderAtF 64 5 G G p bs W' := by
    rintro p ⟨h1, v, h2, h3, h4⟩
    refine ⟨h1, v, (hb.block G (Array.getElem?_eq_some_iff.1 h2).1).trans h2, ⟨h3.1, ?_⟩, h4⟩
    rcases h3.2 with h | ⟨g, cap, cur, fz, e, hB, hg, r⟩
    · exact .inl h
    · exact .inr ⟨g, cap, cur, fz, e, hB, (hb.block g (Array.getElem?_eq_some_iff.1 hg).1).trans hg, r⟩
  rcases h with h | h
  · exact .inl (key _ h)
  · exact .inr (key _ h)

/-- The kinds and the texts of tokens. -/
def kt (s : ByteArray) (R : List Tk.Tok) : List (Nat × ByteArray) := (R.map (Tk.pr s.data.toList)).map (fun p => (p.1, (⟨p.2.toArray⟩ : ByteArray)))
theorem ext_byte (s : ByteArray) (a b : Nat) : s.extract a b = ⟨(Tk.ext s.data.toList a b).toArray⟩ := by
  apply ByteArray.ext
  apply Array.toList_inj.1
  rw [ext_at]
theorem kt_len (s : ByteArray) (R : List Tk.Tok) : (kt s R).length = R.length := by unfold kt; rw [List.length_map, List.length_map]
theorem kt_get (s : ByteArray) (R : List Tk.Tok) (i : Nat) (h : i < (kt s R).length) (h' : i < R.length) : (kt s R)[i] = (R[i].1, s.extract R[i].2.1 R[i].2.2) := by
  simp only [kt, List.getElem_map]
  rw [ext_byte]
  rfl
theorem krow_but {B m : Nat} {W : World} {ad : Option Addr} {cap : Nat} {s : ByteArray} {R : List Tk.Tok} {q : List Tk.Tok} (h : TokRow B W (.slice ad (m + q.length) cap) s (R ++ q)) (hm : R.length = m) : KRow W (.slice ad m cap) (kt s R) := by
  refine ⟨ad, cap, by rw [kt_len, hm], fun i hi => ?_⟩
  have h1 : i < R.length := by rw [kt_len] at hi; exact hi
  have h2 : i < (R ++ q).length := by rw [List.length_append]; omega
  obtain ⟨g, cap', hv, hg, _, c0, c1, c2, c3⟩ := h.at i h2
  injection hv with hv1 hv2 hv3
  subst hv1
  rw [List.getElem_append_left h1] at c0 c1 c2 c3
  rw [kt_get s R i hi h1]
  exact ⟨g, _, _, rfl, hg, c0, c1, c2, c3⟩
theorem krow {B m : Nat} {W : World} {ad : Option Addr} {cap : Nat} {s : ByteArray} {R : List Tk.Tok} (h : TokRow B W (.slice ad m cap) s R) (hm : m = R.length) : KRow W (.slice ad m cap) (kt s R) :=
  krow_but (q := []) (by rw [List.append_nil]; exact h) hm.symm

/-- The bytes of the first k tokens, with a space between each two. -/
def bj (s : ByteArray) (R : List Tk.Tok) (k : Nat) : List UInt8 := Tk.jn ((R.take k).map (Tk.pr s.data.toList))
theorem jt_snoc (X : List Tk.KT) (q : Tk.KT) : Tk.jt (X ++ [q]) = Tk.jt X ++ 32 :: q.2 := by
  induction X with
  | nil => simp [Tk.jt]
  | cons a r ih => simp [Tk.jt, ih]
theorem jn_snoc (X : List Tk.KT) (q : Tk.KT) : Tk.jn (X ++ [q]) = if X = [] then q.2 else Tk.jn X ++ 32 :: q.2 := by
  cases X with
  | nil => simp [Tk.jn, Tk.jt]
  | cons a r => rw [if_neg (by simp)]; show a.2 ++ Tk.jt (r ++ [q]) = _; rw [jt_snoc]; simp [Tk.jn]
theorem bj_zero (s : ByteArray) (R : List Tk.Tok) (h : 0 < R.length) : bj s R 1 = (s.extract R[0].2.1 R[0].2.2).data.toList := by
  unfold bj
  rw [ext_at]
  cases R with
  | nil => simp at h
  | cons a r => simp [Tk.jn, Tk.jt, Tk.pr]
theorem bj_succ (s : ByteArray) (R : List Tk.Tok) (k : Nat) (h : k < R.length) (h0 : k ≠ 0) : bj s R (k + 1) = (bj s R k ++ [32]) ++ (s.extract R[k].2.1 R[k].2.2).data.toList := by
  unfold bj
  rw [ext_at, ← List.take_append_getElem h, List.map_append]
  show Tk.jn (_ ++ [Tk.pr s.data.toList R[k]]) = _
  rw [jn_snoc, if_neg (by
    intro e
    have e2 := congrArg List.length e
    rw [List.length_map, List.length_take, List.length_nil] at e2
    omega)]
  simp [Tk.pr]
theorem bj_len (s : ByteArray) (R : List Tk.Tok) (k : Nat) : (bj s R k).length ≤ (Tk.jn (R.map (Tk.pr s.data.toList))).length := by
  unfold bj
  have key : ∀ (X Y : List Tk.KT), (Tk.jt X).length ≤ (Tk.jt (X ++ Y)).length := by
    intro X Y
    induction X with
    | nil => exact Nat.zero_le _
    | cons a r ih => simp [Tk.jt]; omega
  have key2 : ∀ (X Y : List Tk.KT), (Tk.jn X).length ≤ (Tk.jn (X ++ Y)).length := by
    intro X Y
    cases X with
    | nil => exact Nat.zero_le _
    | cons a r => have := key r Y; simp [Tk.jn]; omega
  have := key2 ((R.take k).map (Tk.pr s.data.toList)) ((R.drop k).map (Tk.pr s.data.toList))
  rwa [← List.map_append, List.take_append_drop] at this

set_option maxRecDepth 100000 in
set_option maxHeartbeats 25600000 in
theorem Join_good (s S : ByteArray) (R R2 : List Tk.Tok) (tl : Tk.Tok) (ta : Option Addr) (tc n : Nat) (B : Nat) (w : World) (her : Erg w) (hT : TokRow B w (.slice ta n tc) s (R ++ [tl])) (hn : n = R.length + 1) (hn2 : n ≤ 2000) (htl : tl.1 = 6)
    (hR6 : Hid (∀ t ∈ R, t.1 ≠ 6)) (hS : Hid (S.data.toList = Tk.jn (R.map (Tk.pr s.data.toList)))) (hSs : S.size ≤ 2000)
    (hsc : Hid (Tk.scanF S.data.toList = .inr (R2 ++ [(6, S.size, S.size)], []))) (hpr : Hid (R2.map (Tk.pr S.data.toList) = R.map (Tk.pr s.data.toList))) :
    Calls Tryd.prog 16 #[.slice ta n tc] w fun e w' => e = .returned (.tuple #[.string S, .int .i64 0]) ∧ Below w.heap.size w w' := by
  obtain ⟨b, hb0⟩ : ∃ b, w.heap.size = b := ⟨_, rfl⟩
  have HT := Lib.hid hT
  have HER := Lib.hid her
  have HN := Lib.hid hn
  have HTL := Lib.hid htl
  have hge : 2 < w.heap.size := by obtain ⟨_, _, _, h⟩ := her; exact h
  have hfresh := Lib.fresh_isBuilder 64 5 w
  rw [hb0] at hfresh
  have HB0 : Hid (Lib.IsBuilder 64 5 b b (Lib.byteCells []) (w.alloc (.cells #[.pointer none, .slice none 0 0] 64))) := Lib.hid hfresh
  have HW0 := Lib.hid ((Below.refl w.heap.size w).alloc (Nat.le_refl _) (.cells #[.pointer none, .slice none 0 0] 64))
  have HJL : Hid (∀ k, (bj s R k).length ≤ 2000) := Lib.hid (fun k => by have := bj_len s R k; rw [← hS.out, ← Lib.size_eq] at this; omega)
  have HXL : Hid (∀ t ∈ R, (s.extract t.2.1 t.2.2).size ≤ 2000) := Lib.hid (fun t ht => by
    obtain ⟨k, hk, rfl⟩ := List.getElem_of_mem ht
    have h1 := HJL.out (k + 1)
    rw [Lib.size_eq]
    by_cases h0 : k = 0
    · subst h0; rw [bj_zero s R hk] at h1; exact h1
    · rw [bj_succ s R k hk h0, List.length_append] at h1; omega)
  clear hT her hn htl hfresh
  have HBE := Lib.hid hb0
  go_enter Tryd.func16, Tryd.ntmps16
  go_wp2
  rw [hb0] at HW0
  go_loopw [14, 5] (fun i v wr => ∃ k : Nat, k ≤ n ∧ i = .int .i64 k ∧ (∃ ad cap, v = .slice ad (R.take k).length cap) ∧ Hid (Lib.IsBuilder 64 5 b b (Lib.byteCells (bj s R k)) wr) ∧ Hid (TokRow (b + 1) wr v s (R.take k)) ∧ Hid (Below b w wr) ∧ Hid (b < wr.heap.size)) (fun i _ _ => n - (intOf i).toNat)
  case atStart => exact ⟨0, Nat.zero_le _, rfl, ⟨none, 0, rfl⟩, HB0, Lib.hid (World.ownsRow_nil _ _ _ _), HW0, Lib.hid (by simp; omega)⟩
  case round =>
    obtain ⟨k, hk, rfl, ⟨ad, cap, rfl⟩, HBU, HTO, HW, HLT⟩ := hrel
    obtain ⟨m, hm⟩ : ∃ m, (R.take k).length = m := ⟨_, rfl⟩
    rw [hm] at HTO ⊢
    have HM := Lib.hid hm
    clear hm
    by_cases hlt : k < n
    · have hk1 : k < (R ++ [tl]).length := by rw [List.length_append, List.length_singleton, ← HN.out]; exact hlt
      obtain ⟨g, cap1, hv, hg, _, c0, c1, c2, c3⟩ := HT.out.at k hk1
      have hlen : (R ++ [tl]).length = n := by rw [List.length_append, List.length_singleton, ← HN.out]
      rw [hlen] at hv
      cases hv
      by_cases hkR : k < R.length
      · have hel : (R ++ [tl])[k] = R[k] := List.getElem_append_left hkR
        rw [hel] at c0 c1 c2 c3
        obtain ⟨kd, hkd⟩ : ∃ x, R[k].1 = x := ⟨_, rfl⟩
        obtain ⟨a, ha⟩ : ∃ x, R[k].2.1 = x := ⟨_, rfl⟩
        obtain ⟨bb, hbb⟩ : ∃ x, R[k].2.2 = x := ⟨_, rfl⟩
        obtain ⟨X, hX⟩ : ∃ x, s.extract a bb = x := ⟨_, rfl⟩
        have HXS : Hid (X.size ≤ 2000) := Lib.hid (by rw [← hX, ← ha, ← hbb]; exact HXL.out _ (List.getElem_mem hkR))
        have hk6 : ((kd : Int) == 6) = false := by
          have := hR6.out _ (List.getElem_mem hkR)
          rw [hkd] at this
          rw [beq_eq_false_iff_ne]; omega
        rw [ha, hbb, hX] at c1
        rw [hkd] at c0
        rw [ha] at c2
        rw [hbb] at c3
        rw [HBE.out] at hg
        have e0 := (HW.out.cell (p := ⟨g, k * 4, none⟩) hg).trans c0
        have e1 := (HW.out.cell (p := ⟨g, k * 4 + 1, none⟩) hg).trans c1
        have e2 := (HW.out.cell (p := ⟨g, k * 4 + 2, none⟩) hg).trans c2
        have e3 := (HW.out.cell (p := ⟨g, k * 4 + 3, none⟩) hg).trans c3
        have hi1 : (k : Int) < n := by omega
        have HE4 := Lib.hid (And.intro hkd (And.intro ha (And.intro hbb hX)))
        clear c0 c1 c2 c3 hkd ha hbb hX hel hk1 hlen
        have hAl := (Below.refl wr.heap.size wr).alloc (Nat.le_refl _) (.cells #[.int .i64 kd, .string X, .int .i64 a, .int .i64 bb] 37)
        have HBU1 := Lib.hid (Builder.alloc HBU.out hAl)
        have HW1 : Hid (Below b w (wr.alloc (.cells #[.int .i64 kd, .string X, .int .i64 a, .int .i64 bb] 37))) := Lib.hid (HW.out.trans (hAl.mono (Nat.le_of_lt HLT.out)))
        have HLT1 : Hid (b < (wr.alloc (.cells #[.int .i64 kd, .string X, .int .i64 a, .int .i64 bb] 37)).heap.size) := Lib.hid (by have := HLT.out; simp; omega)
        have HTK : Hid (m = k) := Lib.hid (by rw [← HM.out, List.length_take]; omega)
        clear hAl
        by_cases hk0 : k = 0
        · have hpos : ¬ (0 : Int) < (m : Nat) := by have := HTK.out; omega
          have HK0 := Lib.hid hk0
          clear hk0
          obtain ⟨l2, hl2⟩ : ∃ l, bj s R k = l := ⟨_, rfl⟩
          obtain ⟨l3, hl3⟩ : ∃ l, bj s R (k + 1) = l := ⟨_, rfl⟩
          have HL3 : Hid (l2 ++ X.data.toList = l3) := Lib.hid (by
            have hk0 := HK0.out
            subst hk0
            rw [← hl2, ← hl3, bj_zero s R hkR, HE4.out.2.1, HE4.out.2.2.1, HE4.out.2.2.2]; rfl)
          have HLL2 : Hid (l2.length ≤ 2000) := Lib.hid (by rw [← hl2]; exact HJL.out _)
          have HBU2 := HBU1
          rw [hl2] at HBU2
          have HLT2 := HLT1
          have HW2 := HW1
          have HF2 : Hid (BF b (wr.alloc (.cells #[.int .i64 kd, .string X, .int .i64 a, .int .i64 bb] 37)) (wr.alloc (.cells #[.int .i64 kd, .string X, .int .i64 a, .int .i64 bb] 37))) := Lib.hid (BF.refl b _)
          have HL3L : Hid (l3.length ≤ 2000) := Lib.hid (by rw [← hl3]; exact HJL.out _)
          have HL3E := Lib.hid hl3
          clear HBU1 hl2 hl3
          go_wp2_with fail
          refine (WriteString_far b b (Lib.byteCells l2) X _ HBU2.out (by rw [Lib.byteCells_length]; have := HLL2.out; have := HXS.out; omega) (Nat.le_of_lt HLT2.out)).mono ?_
          rintro e W3 ⟨rfl, hbu, hbl, hbf⟩
          rw [cells_app] at hbu
          have HBU3 : Hid (Lib.IsBuilder 64 5 b b (Lib.byteCells l3) W3) := Lib.hid (by rw [← HL3.out]; exact .inr hbu)
          have hF3 := HF2.out.trans hbf
          have HW3 : Hid (Below b w W3) := Lib.hid (HW2.out.trans hbl)
          have hbox3 : W3.heap[wr.heap.size]? = some (.cells #[.int .i64 kd, .string X, .int .i64 a, .int .i64 bb] 37 (0, 0)) := by
            rw [hF3.high wr.heap.size (by simp) (by have := HLT.out; omega) (by intro cur fz e; rw [heap_alloc_new] at e; cases e)]
            exact heap_alloc_new _ _
          have hrow3 : TokRow (b + 1) W3 (.slice ad m cap) s (R.take k) := own_same (HTO.out) fun g hg => by
            obtain ⟨c, h1, h2, h3⟩ := own_type HTO.out hg
            have h4 : (wr.alloc (.cells #[.int .i64 kd, .string X, .int .i64 a, .int .i64 bb] 37)).heap[g]? = wr.heap[g]? := Lib.alloc_old wr _ g h3
            rw [hF3.high g (by simp; omega) (by omega) (by intro cur fz e; rw [h4, h1] at e; cases e), h4]
          have HLT3 : Hid (b < W3.heap.size) := Lib.hid (Nat.lt_of_lt_of_le HLT2.out hbf.size)
          have HR3 := Lib.hid hrow3
          have HBOX := Lib.hid hbox3
          clear hbu hbl hbf hF3 hrow3
          have p0 : W3.cell? ⟨wr.heap.size, 0, none⟩ = some (.int .i64 kd) := by simp only [World.cell?, hbox3]; rfl
          have p1 : W3.cell? ⟨wr.heap.size, 1, none⟩ = some (.string X) := by simp only [World.cell?, hbox3]; rfl
          have p2 : W3.cell? ⟨wr.heap.size, 2, none⟩ = some (.int .i64 a) := by simp only [World.cell?, hbox3]; rfl
          have p3 : W3.cell? ⟨wr.heap.size, 3, none⟩ = some (.int .i64 bb) := by simp only [World.cell?, hbox3]; rfl
          clear hbox3
          have hA4 := (Below.refl W3.heap.size W3).alloc (Nat.le_refl _) (.cells #[.int .i64 kd, .string X, .int .i64 a, .int .i64 bb] 37)
          have HBU4 := Lib.hid (Builder.alloc HBU3.out hA4)
          have HR4 : Hid (TokRow (b + 1) (W3.alloc (.cells #[.int .i64 kd, .string X, .int .i64 a, .int .i64 bb] 37)) (.slice ad m cap) s (R.take k)) := Lib.hid (own_same HR3.out fun g hg => hA4.block g (own_type HR3.out hg).choose_spec.2.2)
          have HW4 := Lib.hid (HW3.out.trans (hA4.mono (Nat.le_of_lt HLT3.out)))
          have hr4 : World.ownsRow (W3.alloc (.cells #[.int .i64 kd, .string X, .int .i64 a, .int .i64 bb] 37)) (b + 1) 37 4 (.slice ad m cap) m (flatTok s (R.take k)) := by
            have := HR4.out
            unfold TokRow at this
            rwa [HM.out] at this
          have hm5 : m ≤ 2000 := by have := HTK.out; omega
          clear hA4
          obtain ⟨i0, hi, hz0, hz1, hz2⟩ := info_parts infoTok
          go_wp2_with (at_builtin; refine wpList_append_lies _ rfl _ _ 23 rfl (b + 1) 37 i0 (.agg #[.int .i64 0, .string ⟨#[]⟩, .int .i64 0, .int .i64 0]) 4 40 Tryd.underlying23 hi hz0 hz1 hz2 rfl (by decide) (.slice ad m cap) m (flatTok s (R.take k)) rfl hr4 ⟨W3.heap.size, 0, none⟩ 1 1 [.int .i64 kd, .string X, .int .i64 a, .int .i64 bb] rfl rfl ?c1 ?c2 (by decide) ?c3 ?c4 ?c5 _ rfl ?_)
          case c1 => exact four_cells _ _ _ _ _ _
          case c2 => simp [Value.oneCell']
          case c3 => unfold maxLen; omega
          case c4 => omega
          case c5 => have := HLT3.out; simp; omega
          intro g2 cap2 W5 hown hgrow _ hsz
          have HB5 : Hid (Lib.IsBuilder 64 5 b b (Lib.byteCells l3) W5) := Lib.hid (Builder.other HBU4.out hgrow (fun g e => by obtain ⟨c, h1, h2, _⟩ := own_type hr4 e; exact ⟨by omega, _, _, h1⟩))
          have HW5 : Hid (Below b w W5) := Lib.hid (HW4.out.grown hgrow (Nat.le_of_lt (by have := HLT3.out; have := HW4.out.size; simp at *; omega)) (fun g e => by obtain ⟨c, h1, h2, _⟩ := own_type hr4 e; omega))
          have HR5 : Hid (TokRow (b + 1) W5 (.slice (some ⟨g2, 0, none⟩) (m + 1) cap2) s (R.take (k + 1))) := Lib.hid (by
            unfold TokRow
            rw [← List.take_append_getElem hkR, flatTok_snoc, List.length_append, HM.out]
            have e : tokCells s R[k] = [.int .i64 kd, .string X, .int .i64 a, .int .i64 bb] := by
              unfold tokCells
              rw [HE4.out.1, HE4.out.2.1, HE4.out.2.2.1, HE4.out.2.2.2]
            rw [e]
            exact hown)
          have HLT5 : Hid (b < W5.heap.size) := Lib.hid (by have := hgrow.size; have := HLT3.out; simp at *; omega)
          have hlenb : ¬ (65536 : Int) < ((Lib.byteCells l3).length : Nat) := by rw [Lib.byteCells_length]; have := HL3L.out; omega
          clear hown hgrow hr4 p0 p1 p2 p3 hsz hi hz0 hz1 hz2
          go_wp2_with fail
          refine (Len_any b b (Lib.byteCells l3) _ HB5.out).mono ?_
          rintro e W6 ⟨rfl, rfl⟩
          go_wp2
          go_roundw
          case rel => exact ⟨k + 1, by omega, by go_num, ⟨_, _, by rw [← List.take_append_getElem hkR, List.length_append, HM.out]; rfl⟩, by rw [HL3E.out]; exact HB5, HR5, HW5, HLT5⟩
          case measure => simp [intOf]; omega
        · have hpos : (0 : Int) < (m : Nat) := by have := HTK.out; omega
          have HK0 := Lib.hid hk0
          clear hk0
          obtain ⟨l1, hl1⟩ : ∃ l, bj s R k = l := ⟨_, rfl⟩
          obtain ⟨l3, hl3⟩ : ∃ l, bj s R (k + 1) = l := ⟨_, rfl⟩
          obtain ⟨l2, hl2⟩ : ∃ l, l1 ++ [32] = l := ⟨_, rfl⟩
          have HL3 : Hid (l2 ++ X.data.toList = l3) := Lib.hid (by
            rw [← hl2, ← hl1, ← hl3, bj_succ s R k hkR HK0.out, HE4.out.2.1, HE4.out.2.2.1, HE4.out.2.2.2])
          have HLL1 : Hid (l1.length ≤ 2000) := Lib.hid (by rw [← hl1]; exact HJL.out _)
          have HLL2 : Hid (l2.length ≤ 2001) := Lib.hid (by rw [← hl2, List.length_append, List.length_singleton]; have := HLL1.out; omega)
          have HL3L : Hid (l3.length ≤ 2000) := Lib.hid (by rw [← hl3]; exact HJL.out _)
          have HL3E := Lib.hid hl3
          have HL2E := Lib.hid hl2
          rw [hl1] at HBU1
          clear hl1 hl2 hl3
          go_wp2_with fail
          refine (WriteByte_far b b (Lib.byteCells l1) 32 _ HBU1.out (by rw [Lib.byteCells_length]; have := HLL1.out; omega) (Nat.le_of_lt HLT1.out)).mono ?_
          rintro e W2 ⟨rfl, hbu2, hbl2, hbf2⟩
          have hcb : Lib.byteCells l1 ++ [Value.int .u8 32] = Lib.byteCells l2 := by rw [← HL2E.out]; unfold Lib.byteCells; rw [List.map_append]; rfl
          rw [hcb] at hbu2
          have HBU2 : Hid (Lib.IsBuilder 64 5 b b (Lib.byteCells l2) W2) := Lib.hid (.inr hbu2)
          have HLT2 : Hid (b < W2.heap.size) := Lib.hid (Nat.lt_of_lt_of_le HLT1.out hbf2.size)
          have HW2 : Hid (Below b w W2) := Lib.hid (HW1.out.trans hbl2)
          have HF2 := Lib.hid hbf2
          have hbox2 : W2.heap[wr.heap.size]? = some (.cells #[.int .i64 kd, .string X, .int .i64 a, .int .i64 bb] 37 (0, 0)) := by
            rw [hbf2.high wr.heap.size (by simp) (by have := HLT.out; omega) (by intro cur fz e; rw [heap_alloc_new] at e; cases e)]
            exact heap_alloc_new _ _
          have o1 : W2.cell? ⟨wr.heap.size, 1, none⟩ = some (.string X) := by simp only [World.cell?, hbox2]; rfl
          clear hbu2 hbl2 hbf2 hcb hbox2
          go_wp2_with fail
          refine (WriteString_far b b (Lib.byteCells l2) X _ HBU2.out (by rw [Lib.byteCells_length]; have := HLL2.out; have := HXS.out; omega) (Nat.le_of_lt HLT2.out)).mono ?_
          rintro e W3 ⟨rfl, hbu, hbl, hbf⟩
          rw [cells_app] at hbu
          have HBU3 : Hid (Lib.IsBuilder 64 5 b b (Lib.byteCells l3) W3) := Lib.hid (by rw [← HL3.out]; exact .inr hbu)
          have hF3 := HF2.out.trans hbf
          have HW3 : Hid (Below b w W3) := Lib.hid (HW2.out.trans hbl)
          have hbox3 : W3.heap[wr.heap.size]? = some (.cells #[.int .i64 kd, .string X, .int .i64 a, .int .i64 bb] 37 (0, 0)) := by
            rw [hF3.high wr.heap.size (by simp) (by have := HLT.out; omega) (by intro cur fz e; rw [heap_alloc_new] at e; cases e)]
            exact heap_alloc_new _ _
          have hrow3 : TokRow (b + 1) W3 (.slice ad m cap) s (R.take k) := own_same (HTO.out) fun g hg => by
            obtain ⟨c, h1, h2, h3⟩ := own_type HTO.out hg
            have h4 : (wr.alloc (.cells #[.int .i64 kd, .string X, .int .i64 a, .int .i64 bb] 37)).heap[g]? = wr.heap[g]? := Lib.alloc_old wr _ g h3
            rw [hF3.high g (by simp; omega) (by omega) (by intro cur fz e; rw [h4, h1] at e; cases e), h4]
          have HLT3 : Hid (b < W3.heap.size) := Lib.hid (Nat.lt_of_lt_of_le HLT2.out hbf.size)
          have HR3 := Lib.hid hrow3
          have HBOX := Lib.hid hbox3
          clear hbu hbl hbf hF3 hrow3
          have p0 : W3.cell? ⟨wr.heap.size, 0, none⟩ = some (.int .i64 kd) := by simp only [World.cell?, hbox3]; rfl
          have p1 : W3.cell? ⟨wr.heap.size, 1, none⟩ = some (.string X) := by simp only [World.cell?, hbox3]; rfl
          have p2 : W3.cell? ⟨wr.heap.size, 2, none⟩ = some (.int .i64 a) := by simp only [World.cell?, hbox3]; rfl
          have p3 : W3.cell? ⟨wr.heap.size, 3, none⟩ = some (.int .i64 bb) := by simp only [World.cell?, hbox3]; rfl
          clear hbox3
          have hA4 := (Below.refl W3.heap.size W3).alloc (Nat.le_refl _) (.cells #[.int .i64 kd, .string X, .int .i64 a, .int .i64 bb] 37)
          have HBU4 := Lib.hid (Builder.alloc HBU3.out hA4)
          have HR4 : Hid (TokRow (b + 1) (W3.alloc (.cells #[.int .i64 kd, .string X, .int .i64 a, .int .i64 bb] 37)) (.slice ad m cap) s (R.take k)) := Lib.hid (own_same HR3.out fun g hg => hA4.block g (own_type HR3.out hg).choose_spec.2.2)
          have HW4 := Lib.hid (HW3.out.trans (hA4.mono (Nat.le_of_lt HLT3.out)))
          have hr4 : World.ownsRow (W3.alloc (.cells #[.int .i64 kd, .string X, .int .i64 a, .int .i64 bb] 37)) (b + 1) 37 4 (.slice ad m cap) m (flatTok s (R.take k)) := by
            have := HR4.out
            unfold TokRow at this
            rwa [HM.out] at this
          have hm5 : m ≤ 2000 := by have := HTK.out; omega
          clear hA4
          obtain ⟨i0, hi, hz0, hz1, hz2⟩ := info_parts infoTok
          go_wp2_with (at_builtin; refine wpList_append_lies _ rfl _ _ 23 rfl (b + 1) 37 i0 (.agg #[.int .i64 0, .string ⟨#[]⟩, .int .i64 0, .int .i64 0]) 4 40 Tryd.underlying23 hi hz0 hz1 hz2 rfl (by decide) (.slice ad m cap) m (flatTok s (R.take k)) rfl hr4 ⟨W3.heap.size, 0, none⟩ 1 1 [.int .i64 kd, .string X, .int .i64 a, .int .i64 bb] rfl rfl ?c1 ?c2 (by decide) ?c3 ?c4 ?c5 _ rfl ?_)
          case c1 => exact four_cells _ _ _ _ _ _
          case c2 => simp [Value.oneCell']
          case c3 => unfold maxLen; omega
          case c4 => omega
          case c5 => have := HLT3.out; simp; omega
          intro g2 cap2 W5 hown hgrow _ hsz
          have HB5 : Hid (Lib.IsBuilder 64 5 b b (Lib.byteCells l3) W5) := Lib.hid (Builder.other HBU4.out hgrow (fun g e => by obtain ⟨c, h1, h2, _⟩ := own_type hr4 e; exact ⟨by omega, _, _, h1⟩))
          have HW5 : Hid (Below b w W5) := Lib.hid (HW4.out.grown hgrow (Nat.le_of_lt (by have := HLT3.out; have := HW4.out.size; simp at *; omega)) (fun g e => by obtain ⟨c, h1, h2, _⟩ := own_type hr4 e; omega))
          have HR5 : Hid (TokRow (b + 1) W5 (.slice (some ⟨g2, 0, none⟩) (m + 1) cap2) s (R.take (k + 1))) := Lib.hid (by
            unfold TokRow
            rw [← List.take_append_getElem hkR, flatTok_snoc, List.length_append, HM.out]
            have e : tokCells s R[k] = [.int .i64 kd, .string X, .int .i64 a, .int .i64 bb] := by
              unfold tokCells
              rw [HE4.out.1, HE4.out.2.1, HE4.out.2.2.1, HE4.out.2.2.2]
            rw [e]
            exact hown)
          have HLT5 : Hid (b < W5.heap.size) := Lib.hid (by have := hgrow.size; have := HLT3.out; simp at *; omega)
          have hlenb : ¬ (65536 : Int) < ((Lib.byteCells l3).length : Nat) := by rw [Lib.byteCells_length]; have := HL3L.out; omega
          clear hown hgrow hr4 p0 p1 p2 p3 hsz hi hz0 hz1 hz2
          go_wp2_with fail
          refine (Len_any b b (Lib.byteCells l3) _ HB5.out).mono ?_
          rintro e W6 ⟨rfl, rfl⟩
          go_wp2
          go_roundw
          case rel => exact ⟨k + 1, by omega, by go_num, ⟨_, _, by rw [← List.take_append_getElem hkR, List.length_append, HM.out]; rfl⟩, by rw [HL3E.out]; exact HB5, HR5, HW5, HLT5⟩
          case measure => simp [intOf]; omega
      · have hkR2 : k = R.length := by have := HN.out; omega
        have hel : (R ++ [tl])[k]'hk1 = tl := by
          subst hkR2
          exact List.getElem_concat_length rfl _
        rw [hel, HTL.out] at c0
        rw [hel] at c1 c2 c3
        obtain ⟨a, ha⟩ : ∃ x, tl.2.1 = x := ⟨_, rfl⟩
        obtain ⟨bb, hbb⟩ : ∃ x, tl.2.2 = x := ⟨_, rfl⟩
        obtain ⟨X, hX⟩ : ∃ x, s.extract a bb = x := ⟨_, rfl⟩
        rw [ha, hbb, hX] at c1
        rw [ha] at c2
        rw [hbb] at c3
        rw [HBE.out] at hg
        have e0 := (HW.out.cell (p := ⟨g, k * 4, none⟩) hg).trans c0
        have e1 := (HW.out.cell (p := ⟨g, k * 4 + 1, none⟩) hg).trans c1
        have e2 := (HW.out.cell (p := ⟨g, k * 4 + 2, none⟩) hg).trans c2
        have e3 := (HW.out.cell (p := ⟨g, k * 4 + 3, none⟩) hg).trans c3
        have hi1 : (k : Int) < n := by omega
        have hAl := (Below.refl wr.heap.size wr).alloc (Nat.le_refl _) (.cells #[.int .i64 (6 : Nat), .string X, .int .i64 a, .int .i64 bb] 37)
        have ht : R.take (k + 1) = R.take k := by rw [List.take_of_length_le (by omega), List.take_of_length_le (by omega)]
        have HBU1 := Lib.hid (Builder.alloc HBU.out hAl)
        have HW1 : Hid (Below b w (wr.alloc (.cells #[.int .i64 (6 : Nat), .string X, .int .i64 a, .int .i64 bb] 37))) := Lib.hid (HW.out.trans (hAl.mono (Nat.le_of_lt HLT.out)))
        have HLT1 : Hid (b < (wr.alloc (.cells #[.int .i64 (6 : Nat), .string X, .int .i64 a, .int .i64 bb] 37)).heap.size) := Lib.hid (by have := HLT.out; simp; omega)
        have HR1 : Hid (TokRow (b + 1) (wr.alloc (.cells #[.int .i64 (6 : Nat), .string X, .int .i64 a, .int .i64 bb] 37)) (.slice ad m cap) s (R.take k)) := Lib.hid (own_same HTO.out fun g hg => hAl.block g (own_type HTO.out hg).choose_spec.2.2)
        have HTT := Lib.hid ht
        clear hAl ht c0 c1 c2 c3 hel hkR2 hk1 hlen ha hbb hX
        go_wp2
        go_roundw
        case rel => exact ⟨k + 1, by omega, by go_num, ⟨_, _, by rw [HTT.out, HM.out]⟩, by unfold bj; rw [HTT.out]; exact HBU1, by rw [HTT.out]; exact HR1, HW1, HLT1⟩
        case measure => simp [intOf]; omega
    · obtain rfl : n = k := by omega
      have hnn : ¬ (n : Int) < n := by omega
      have hmR : m = R.length := by rw [← HM.out, List.length_take]; have := HN.out; omega
      have hTn : R.take n = R := List.take_of_length_le (by have := HN.out; omega)
      have hLS : bj s R n = S.data.toList := by unfold bj; rw [hTn, hS.out]
      rw [hLS] at HBU
      rw [hTn] at HTO
      have HMR := Lib.hid hmR
      have hm5 : m ≤ 2000 := by rw [hmR]; have := HN.out; omega
      clear hLS hTn hmR
      go_wp2_with fail
      refine (BString_k b b S.data.toList _ (Lib.IsBuilderF.of HBU.out) (Nat.le_of_lt HLT.out)).mono ?_
      rintro e W2 ⟨rfl, hbf, hbl, hok⟩
      rw [bytes_back S]
      have HW2 : Hid (Below b w W2) := Lib.hid (HW.out.trans hbl)
      have HR2 : Hid (TokRow (b + 1) W2 (.slice ad m cap) s R) := Lib.hid (own_same HTO.out fun g hg => by
        obtain ⟨c, h1, h2, _⟩ := own_type HTO.out hg
        exact (hok g _ h1 (by intro e; cases e; omega) (by intro c fz e; cases e)).trans h1.symm)
      have HBF2 := Lib.hid hbf
      have HLT2 : Hid (b < W2.heap.size) := Lib.hid (Nat.lt_of_lt_of_le HLT.out hbl.size)
      clear hbf hbl hok
      go_wp2_with fail
      refine (Scan_good S _ _ _ (HER.out.keep hge (by rw [HBE.out]; exact HW2.out)) (by omega) hsc).mono ?_
      rintro e W3 ⟨ta2, tc2, na2, nc2, rfl, hsc3, hb3⟩
      have hRR : R2.length = R.length := by have := congrArg List.length hpr.out; simpa using this
      have hl3 : (R2 ++ [((6 : Nat), S.size, S.size)]).length = m + 1 := by rw [List.length_append, List.length_singleton, hRR, HMR.out]
      rw [hl3] at hsc3 ⊢
      have HK1 : Hid (KRow W3 (.slice ad m cap) (kt s R)) := Lib.hid (krow (own_same HR2.out fun g hg => hb3.block g (own_type HR2.out hg).choose_spec.2.2) HMR.out)
      have HK2 : Hid (KRow W3 (.slice ta2 m tc2) (kt s R)) := Lib.hid (by
        have e : kt s R = kt S R2 := by unfold kt; rw [hpr.out]
        rw [e]
        exact krow_but hsc3.1 (by rw [hRR, HMR.out]))
      obtain ⟨g3, rfl, hc3⟩ : ∃ g3, ta2 = some ⟨g3, 0, none⟩ ∧ m + 1 ≤ tc2 := by
        rcases hsc3.1.2 with ⟨_, h0⟩ | ⟨g, cap, cur, h, _, _, h1, _⟩
        · rw [hl3] at h0; omega
        · rw [hl3] at h1
          injection h with x1 x2 x3
          exact ⟨g, x1, by rw [x3]; exact h1⟩
      have HBF3 : Hid (Lib.IsBuilderF 64 5 b b (Lib.byteCells S.data.toList) W3) := Lib.hid (builderF_below HBF2.out hb3)
      have HW3 : Hid (Below b w W3) := Lib.hid (HW2.out.trans (hb3.mono (Nat.le_of_lt HLT2.out)))
      have HLT3 : Hid (b < W3.heap.size) := Lib.hid (Nat.lt_of_lt_of_le HLT2.out hb3.size)
      have HX5 : Hid ((kt s R).length ≤ 1000000) := Lib.hid (by unfold kt; rw [List.length_map, List.length_map, ← HMR.out]; omega)
      have hc4 : (m : Int) ≤ tc2 := by omega
      clear hsc3 hb3 hl3 hRR
      go_wp2_with fail
      refine (equal_rows _ _ (kt s R) _ HK2.out HK1.out HX5.out).mono ?_
      rintro e W4 ⟨rfl, hb4⟩
      have HBF4 : Hid (Lib.IsBuilderF 64 5 b b (Lib.byteCells S.data.toList) W4) := Lib.hid (builderF_below HBF3.out hb4)
      have HW4 : Hid (Below b w W4) := Lib.hid (HW3.out.trans (hb4.mono (Nat.le_of_lt HLT3.out)))
      have HLT4 : Hid (b < W4.heap.size) := Lib.hid (Nat.lt_of_lt_of_le HLT3.out hb4.size)
      clear hb4
      go_wp2_with fail
      refine (BString_k b b S.data.toList _ HBF4.out (Nat.le_of_lt HLT4.out)).mono ?_
      rintro e W5 ⟨rfl, _, hbl, _⟩
      rw [bytes_back S]
      have HW5 : Hid (Below b w W5) := Lib.hid (HW4.out.trans hbl)
      clear hbl
      go_wp2
      go_ret2
      exact ⟨rfl, by rw [hb0]; exact HW5.out⟩

end Go.Proofs.YtpoddcegfhgdeaaDoor
