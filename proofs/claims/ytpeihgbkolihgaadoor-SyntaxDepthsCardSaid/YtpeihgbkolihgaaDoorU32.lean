/- The law SyntaxDepths. -/
import Derived.Test.YtpeihgbkolihgaaDoorU31
import Derived.Test.YtpeihgbkolihgaaDoorU17
import Derived.OpenShut
set_option linter.unusedVariables false
set_option linter.unusedSimpArgs false
namespace Go.Proofs.YtpeihgbkolihgaaDoor
open Go.RowKit

/-- The tree so far, c leaves of the chain. -/
def ChI (w0 : World) (TB c : Nat) (W : World) : Prop :=
  ∃ v P, W.heap[TB]? = some (.cells #[v, .int .i64 0] 24) ∧ RowL w0.heap.size TB W v P ∧ P.map (·.1) = (List.range c).map Sx.copyL ∧ Below TB w0 W

/-- The leaves of the wide tree while they are laid: c kids so far. -/
def wideE (n c : Nat) (vk : Value) : List Ent := (⟨11, ⟨#[67]⟩, 0, (List.range c).map (fun i => ((i + 1 : Nat) : Int)), 0, 0⟩, vk) :: (List.replicate c (Sx.numL, .slice none 0 0) ++ List.replicate (n - 1 - c) zeroE)
def upTo (c : Nat) : List Value := (List.range c).map (fun i => Value.int .i64 ((i + 1 : Nat) : Int))
structure WdI (w0 : World) (R n c : Nat) (vk : Value) (W : World) : Prop where
  below : Below R w0 W
  row : W.heap[R]? = some (.cells (entC (wideE n c vk)).toArray 38)
  box : W.heap[R + 1]? = some (.cells #[.slice (some ⟨R, 0, none⟩) n n, .int .i64 0] 24)
  kids : W.ownsRow R 3 1 vk c (upTo c)
  ne : vk.ownBlock ≠ some R ∧ vk.ownBlock ≠ some (R + 1)
theorem wide_start (n : Nat) (h : 1 ≤ n) : (((((((entC (List.replicate n zeroE)).toArray.setIfInBounds 0 (.int .i64 11)).setIfInBounds 1 (.string ⟨#[67]⟩)).setIfInBounds 2 (.int .i64 0)).setIfInBounds 3 (.slice none 0 0)).setIfInBounds 4 (.int .i64 0)).setIfInBounds 5 (.int .i64 0)) = (entC (wideE n 0 (.slice none 0 0))).toArray := by
  obtain ⟨m, rfl⟩ : ∃ m, n = m + 1 := ⟨n - 1, by omega⟩
  rw [List.replicate_succ]
  simp only [List.setIfInBounds_toArray]
  rfl
theorem wideE_len (n c : Nat) (vk : Value) (h : c < n) : (wideE n c vk).length = n := by
  unfold wideE
  simp
  omega
theorem entC_kind : ∀ (P : List Ent) (i : Nat) (h : i < P.length) (k : Int), (entC P).set (i * 6) (.int .i64 k) = entC (P.set i ({ P[i].1 with kind := k }, P[i].2))
  | [], i, h, _ => absurd h (Nat.not_lt_zero _)
  | p :: P, 0, h, k => rfl
  | p :: P, i + 1, h, k => by
    show (leafCs p.1 p.2 ++ entC P).set ((i + 1) * 6) _ = leafCs p.1 p.2 ++ entC (P.set i _)
    rw [List.set_append_right _ _ (by show 6 ≤ _; omega), show (i + 1) * 6 - (leafCs p.1 p.2).length = i * 6 by show (i + 1) * 6 - 6 = _; omega, entC_kind P i (by simpa using h) k]
    rfl
theorem wide_at (n c : Nat) (vk : Value) (h : c + 1 < n) (hl : c + 1 < (wideE n c vk).length) : (wideE n c vk)[c + 1] = zeroE := by
  have : (wideE n c vk)[c + 1]? = some zeroE := by
    unfold wideE
    rw [List.getElem?_cons_succ, List.getElem?_append_right (by simp), List.length_replicate, Nat.sub_self, List.getElem?_replicate, if_pos (by omega)]
  rw [List.getElem?_eq_getElem hl] at this
  exact Option.some.inj this
theorem wide_kind (n c : Nat) (vk : Value) (h : c + 1 < n) : (entC (wideE n c vk)).set ((c + 1) * 6) (.int .i64 9) = entC ((⟨11, ⟨#[67]⟩, 0, (List.range c).map (fun i => ((i + 1 : Nat) : Int)), 0, 0⟩, vk) :: (List.replicate (c + 1) (Sx.numL, .slice none 0 0) ++ List.replicate (n - 1 - (c + 1)) zeroE)) := by
  have hl : c + 1 < (wideE n c vk).length := by rw [wideE_len n c vk (by omega)]; omega
  rw [entC_kind _ _ hl, wide_at n c vk h hl]
  congr 1
  unfold wideE
  rw [List.set_cons_succ]
  congr 1
  obtain ⟨q, hq⟩ : ∃ q, n - 1 - c = q + 1 := ⟨n - 1 - c - 1, by omega⟩
  rw [hq, show n - 1 - (c + 1) = q by omega, List.set_append_right _ _ (by simp), List.length_replicate, Nat.sub_self, List.replicate_succ (n := q), List.set_cons_zero, List.replicate_succ' (n := c), List.append_assoc]
  rfl
theorem wide_next (n c : Nat) (vk vk' : Value) (h : c + 1 < n) : ((entC (wideE n c vk)).set ((c + 1) * 6) (.int .i64 9)).set 3 vk' = entC (wideE n (c + 1) vk') := by
  rw [wide_kind n c vk h]
  rfl

theorem wide_map (n c : Nat) (vk : Value) (h : n = c + 1) : (wideE n c vk).map (·.1) = Sx.wideL c := by
  subst h
  unfold wideE Sx.wideL
  rw [show c + 1 - 1 - c = 0 by omega, List.replicate_zero, List.append_nil, List.map_cons, List.map_replicate]
theorem wide_ls {w0 W : World} {R n c : Nat} {za : Option Addr} {zn zc : Nat} (hn : n = c + 1) (h : WdI w0 R n c (.slice za zn zc) W) : LsAt W (.slice (some ⟨R, 0, none⟩) n n) (Sx.wideL c) := by
  have hwl := wideE_len n c (.slice za zn zc) (by omega)
  refine ⟨_, _, _, rfl, by rw [Sx.wide_len]; exact hn, .inr ⟨R, 0, rfl, lt_of h.row, fun i hi => ?_⟩⟩
  have hi2 : i < (wideE n c (.slice za zn zc)).length := by rw [hwl]; rw [Sx.wide_len] at hi; omega
  have hc : ∀ j, j < 6 → W.cell? ⟨R, 0 + i * 6 + j, none⟩ = (leafCs (wideE n c (.slice za zn zc))[i].1 (wideE n c (.slice za zn zc))[i].2)[j]? := by
    intro j hj
    have e1 := entC_at _ i hi2 j hj
    rw [Nat.zero_add, ← e1]
    simp [World.cell?, h.row]
  have hx : (Sx.wideL c)[i] = (wideE n c (.slice za zn zc))[i].1 := by
    have e := wide_map n c (.slice za zn zc) hn
    have e2 : (Sx.wideL c)[i]? = ((wideE n c (.slice za zn zc)).map (·.1))[i]? := by rw [e]
    rw [List.getElem?_eq_getElem hi, List.getElem?_map, List.getElem?_eq_getElem hi2] at e2
    exact Option.some.inj e2
  rw [hx]
  have hk : IsAt W (wideE n c (.slice za zn zc))[i].2 (wideE n c (.slice za zn zc))[i].1.kids := by
    cases i with
    | zero =>
      obtain ⟨hlen, hv⟩ := h.kids
      show IsAt W (.slice za zn zc) ((List.range c).map (fun i => ((i + 1 : Nat) : Int)))
      rcases hv with ⟨e, h0⟩ | ⟨g, cap, cur, e, h1, h2, h3, h4, h5, h6⟩
      · cases e
        subst h0
        exact IsAt.nil W
      · cases e
        refine ⟨_, _, _, rfl, by simp, .inr ⟨g, 0, rfl, lt_of h2, fun q hq => ?_⟩⟩
        have hq2 : q < c := by simpa using hq
        have e1 : (upTo c)[q]? = some (.int .i64 ((q + 1 : Nat) : Int)) := by
          unfold upTo
          rw [List.getElem?_map, List.getElem?_range hq2]
          rfl
        rw [← h6, List.getElem?_take, if_pos (by omega)] at e1
        rw [Nat.zero_add, List.getElem_map, List.getElem_range]
        simp only [World.cell?, h2]
        simpa using e1
    | succ i =>
      have : (wideE n c (.slice za zn zc))[i + 1]? = some (Sx.numL, .slice none 0 0) := by
        unfold wideE
        rw [List.getElem?_cons_succ, List.getElem?_append_left (by simp; omega), List.getElem?_replicate, if_pos (by omega)]
      rw [List.getElem?_eq_getElem hi2] at this
      rw [Option.some.inj this]
      exact IsAt.nil W
  exact ⟨hc 0 (by decide), hc 1 (by decide), hc 2 (by decide), ⟨_, hc 3 (by decide), hk⟩, hc 4 (by decide), hc 5 (by decide)⟩
theorem numL_sm : SmL Sx.numL := ⟨by decide, by decide, in64_small (by decide) (by decide), in64_small (by decide) (by decide), in64_small (by decide) (by decide), in64_small (by decide) (by decide), fun t ht => by cases ht⟩
theorem wide_sm (c : Nat) (hc : c ≤ 99999) : SmT (Sx.wideL c) := by
  refine ⟨by rw [Sx.wide_len]; omega, fun x hx => ?_⟩
  unfold Sx.wideL at hx
  rcases List.mem_cons.1 hx with rfl | hx
  · refine ⟨by show 1 ≤ 100000; decide, by simp; omega, in64_small (z := 11) (by decide) (by decide), in64_small (z := 0) (by decide) (by decide), in64_small (z := 0) (by decide) (by decide), in64_small (z := 0) (by decide) (by decide), fun t ht => ?_⟩
    obtain ⟨i, hi, rfl⟩ := List.mem_map.1 ht
    rw [List.mem_range] at hi
    unfold In64
    omega
  · rw [List.mem_replicate] at hx
    rw [hx.2]
    exact numL_sm
theorem chain_sm (d : Nat) (hd : d ≤ 100) : SmT (Sx.chain d) := by
  refine ⟨by unfold Sx.chain; simp; omega, fun x hx => ?_⟩
  unfold Sx.chain at hx
  rcases List.mem_append.1 hx with hx | hx
  · obtain ⟨i, hi, rfl⟩ := List.mem_map.1 hx
    rw [List.mem_range] at hi
    refine ⟨by show 0 ≤ 100000; decide, by show 1 ≤ 100000; decide, in64_small (z := 18) (by decide) (by decide), in64_small (z := 0) (by decide) (by decide), in64_small (z := 0) (by decide) (by decide), in64_small (z := 0) (by decide) (by decide), fun t ht => ?_⟩
    have : t = (i : Int) + 1 := by simpa [Sx.copyL] using ht
    subst this
    unfold In64
    omega
  · rw [List.mem_singleton] at hx
    subst hx
    exact numL_sm

set_option maxRecDepth 100000 in
set_option maxHeartbeats 25600000 in
theorem law_SyntaxDepths (a b : Int) (ha : 0 ≤ a ∧ a ≤ 65535) (hb : 0 ≤ b ∧ b ≤ 65535) (w : World) (htab : Tab w) :
    Calls Tryd.prog 9 #[.int .u16 a, .int .u16 b] w fun e w' => e = .returned (.bool true) ∧ Below w.heap.size w w' := by
  have HAW := Lib.hid (awake_any w htab)
  clear htab
  go_enter Tryd.func9, Tryd.ntmps9
  go_wp2_with fail
  refine HAW.out.mono ?_
  rintro e w1 ⟨rfl, hb1⟩
  have HB1 := Lib.hid hb1
  clear hb1 HAW
  go_upto_region 4 with fail
  obtain ⟨d, hd⟩ : ∃ d : Nat, 60 + a % 10 = (d : Int) := ⟨(60 + a % 10).toNat, by omega⟩
  obtain ⟨n, hn⟩ : ∃ n : Nat, 4090 + b % 12 = (n : Int) := ⟨(4090 + b % 12).toNat, by omega⟩
  have hd0 : 60 ≤ d ∧ d < 70 := by omega
  have hn0 : 4090 ≤ n ∧ n < 4102 := by omega
  rw [hd, hn]
  have HD := Lib.hid hd0
  have HN := Lib.hid hn0
  clear hd hn hd0 hn0 ha hb
  go_upto_region 5 with fail
  obtain ⟨TB, hTB⟩ : ∃ x, w1.heap.size = x := ⟨_, rfl⟩
  have t2 := World.alloc_heap_new w1 (.cells #[.slice none 0 0, .int .i64 0] 24)
  have hb2 : Below w1.heap.size w1 (w1.alloc (.cells #[.slice none 0 0, .int .i64 0] 24)) := (Below.refl _ _).alloc (Nat.le_refl _) _
  generalize w1.alloc (.cells #[.slice none 0 0, .int .i64 0] 24) = w2 at t2 hb2 ⊢
  rw [hTB] at t2 ⊢
  have HB2 := Lib.hid (HB1.out.trans (hb2.mono HB1.out.size))
  have HT2 := Lib.hid t2
  have HTB := Lib.hid (And.intro trivial hTB)
  have HB1s := Lib.hid HB1.out.size
  clear t2 hb2 hTB HB1
  obtain ⟨i0, hi, hz0, hz1, hz2⟩ := info_parts infoLeaf
  have HI := Lib.hid hi
  have HZ0 := Lib.hid hz0
  have HZ1 := Lib.hid hz1
  have HZ2 := Lib.hid hz2
  clear hi hz0 hz1 hz2
  go_wp2_with fail
  go_loopw [8] (fun iv wr => ∃ (c : Nat), c ≤ d ∧ iv = .int .i64 c ∧ Hid (ChI w2 TB c wr)) (fun iv _ => d - (intOf iv).toNat)
  case atStart => exact ⟨0, Nat.zero_le _, rfl, Lib.hid ⟨_, [], HT2.out, RowL.nil _ _ _, rfl, Below.refl _ _⟩⟩
  case round =>
    obtain ⟨c, hc, rfl, HR⟩ := hrel
    obtain ⟨v, P, ht, hrow, hP, hb⟩ := HR.out
    have c0 := cell_at (i := 0) ht rfl
    by_cases hlt : c < d
    · have g2 : (c : Int) < d := by omega
      have hw := wrap_one c (by have := HD.out; omega)
      have hw' := wrap_one' c (by have := HD.out; omega)
      have hPl : P.length = c := by have := congrArg List.length hP; simpa using this
      have hlv := hrow.own
      have hb3 : Below wr.heap.size wr (wr.alloc (.cells #[.int .i64 ((c : Int) + 1)] 3)) := (Below.refl _ _).alloc (Nat.le_refl _) _
      have hb4 := hb3.alloc hb3.size (.cells #[.int .i64 (Sx.copyL c).kind, .string (Sx.copyL c).text, .int .i64 (Sx.copyL c).num, .slice (some ⟨wr.heap.size, 0, none⟩) 1 1, .int .i64 (Sx.copyL c).frm, .int .i64 (Sx.copyL c).to] 38)
      have hr4 := hrow.keep hb4
      have hnc := new_cells (wr.alloc (.cells #[.int .i64 ((c : Int) + 1)] 3)) (leafCs (Sx.copyL c) (.slice (some ⟨wr.heap.size, 0, none⟩) 1 1)) 38
      rw [World.size_alloc] at hnc
      have hks : IsAt ((wr.alloc (.cells #[.int .i64 ((c : Int) + 1)] 3)).alloc (.cells (leafCs (Sx.copyL c) (.slice (some ⟨wr.heap.size, 0, none⟩) 1 1)).toArray 38)) (.slice (some ⟨wr.heap.size, 0, none⟩) 1 1) (Sx.copyL c).kids := by
        refine IsAt.keep (B := (wr.alloc (.cells #[.int .i64 ((c : Int) + 1)] 3)).heap.size) (IsAt.blk (World.alloc_heap_new wr _) rfl (fun i hi => ?_)) ((Below.refl _ _).alloc (Nat.le_refl _) _) (Nat.le_refl _)
        have : i = 0 := by have : (Sx.copyL c).kids.length = 1 := rfl; omega
        subst this
        rfl
      have hX : TB < ((wr.alloc (.cells #[.int .i64 ((c : Int) + 1)] 3)).alloc (.cells (leafCs (Sx.copyL c) (.slice (some ⟨wr.heap.size, 0, none⟩) 1 1)).toArray 38)).heap.size := by have := lt_of ht; simp; omega
      have hoff : Off (.slice (some ⟨wr.heap.size, 0, none⟩) 1 1) v TB := by
        intro ad n' cap' e hn'
        cases e
        refine ⟨fun e => ?_, by have := lt_of ht; show wr.heap.size ≠ TB; omega⟩
        have := (hrow.lt _ e).2
        exact Nat.lt_irrefl _ this
      have ht4 : ((wr.alloc (.cells #[.int .i64 ((c : Int) + 1)] 3)).alloc (.cells (leafCs (Sx.copyL c) (.slice (some ⟨wr.heap.size, 0, none⟩) 1 1)).toArray 38)).heap[TB]? = some (.cells #[v, .int .i64 0] 24) := (hb4.block TB (lt_of ht)).trans ht
      have hB4 : Below TB w2 ((wr.alloc (.cells #[.int .i64 ((c : Int) + 1)] 3)).alloc (.cells (leafCs (Sx.copyL c) (.slice (some ⟨wr.heap.size, 0, none⟩) 1 1)).toArray 38)) := hb.trans (hb4.mono (Nat.le_of_lt (lt_of ht)))
      have hwb : w2.heap.size ≤ ((wr.alloc (.cells #[.int .i64 ((c : Int) + 1)] 3)).alloc (.cells (leafCs (Sx.copyL c) (.slice (some ⟨wr.heap.size, 0, none⟩) 1 1)).toArray 38)).heap.size := hB4.size
      have hoc := leafCs_one (Sx.copyL c) (some ⟨wr.heap.size, 0, none⟩) 1 1
      have HR4 := Lib.hid hr4
      have HNC := Lib.hid hnc
      have HKS := Lib.hid hks
      have HX := Lib.hid hX
      have HOFF := Lib.hid hoff
      have HT4 := Lib.hid ht4
      have HB4 := Lib.hid hB4
      have HWB := Lib.hid hwb
      have HOC := Lib.hid hoc
      have HP := Lib.hid hP
      have HPL := Lib.hid (And.intro trivial hPl)
      have HLE : Hid (P.length ≤ 100) := Lib.hid (by have := HD.out; omega)
      clear ht hrow hP hPl hb hlv hb3 hb4 hr4 hnc hks hX hoff ht4 hB4 hwb hoc
      go_upto_region 8 with fail
      go_wp2_with (at_builtin; refine wpList_append_at _ rfl _ _ 22 rfl w2.heap.size 38 i0 (.agg #[.int .i64 0, .string ⟨#[]⟩, .int .i64 0, .slice none 0 0, .int .i64 0, .int .i64 0]) 6 72 Tryd.underlying22 HI.out HZ0.out HZ1.out HZ2.out rfl (by decide) v P.length _ rfl HR4.out.own ⟨wr.heap.size + 1, 0, none⟩ 1 1 (leafCs (Sx.copyL c) (.slice (some ⟨wr.heap.size, 0, none⟩) 1 1)) rfl rfl HNC.out HOC.out (by have := HLE.out; unfold maxLen; omega) (by have := HLE.out; omega) HWB.out ?_)
      intro v' w3 hown' hgrow hloc
      obtain ⟨hr5, hnx⟩ := HR4.out.app HX.out hown' hgrow (hloc.imp id (fun e => by rw [e]; simp)) HKS.out HOFF.out
      obtain ⟨g, cap, rfl⟩ : ∃ g cap, v' = .slice (some ⟨g, 0, none⟩) (P.length + 1) cap := by
        rcases hown'.2 with ⟨_, h0⟩ | ⟨g, cap, cur, hv, _⟩
        · omega
        · exact ⟨g, cap, hv⟩
      have hTBv : v.ownBlock ≠ some TB := HR4.out.ne
      have ht5 := (hgrow.block TB HX.out (fun e => hTBv e.symm)).trans HT4.out
      have hB5 : Below TB w2 w3 := HB4.out.grown hgrow (Nat.le_of_lt HX.out) (fun k hk => Nat.le_trans (Nat.le_of_lt (lt_of HT2.out)) (HR4.out.lt k hk).1)
      have cb := cell_at (i := 0) ht5 rfl
      have fb := cells_frozen (i := 0) ht5
      have hr6 := hr5.box 0 (.slice (some ⟨g, 0, none⟩) (P.length + 1) cap)
      have ht6 := cells_set (i := 0) (.slice (some ⟨g, 0, none⟩) (P.length + 1) cap) ht5
      have hB6 := hB5.setCell (p := ⟨TB, 0, none⟩) (Nat.le_refl TB) (.slice (some ⟨g, 0, none⟩) (P.length + 1) cap)
      have HR6 : Hid (ChI w2 TB (c + 1) (w3.setCell ⟨TB, 0, none⟩ (.slice (some ⟨g, 0, none⟩) (P.length + 1) cap))) := Lib.hid ⟨_, _, ht6, hr6, by rw [List.map_append, HP.out, List.range_succ, List.map_append]; rfl, hB6⟩
      clear hown' hgrow hloc hr5 hnx hTBv ht5 hB5 hr6 ht6 hB6 HR4 HNC HKS HX HOFF HT4 HB4 HWB HOC HP HPL HLE c0
      go_wp2
      go_roundw
      case rel => exact ⟨c + 1, by omega, by go_num, HR6⟩
      case measure => simp [intOf]; omega
    · obtain rfl : d = c := by omega
      have hnn : ¬ (d : Int) < d := by omega
      have hPl : P.length = d := by have := congrArg List.length hP; simpa using this
      have hb4 : Below wr.heap.size wr (wr.alloc (.cells #[.int .i64 9, .string ⟨#[]⟩, .int .i64 0, .slice none 0 0, .int .i64 0, .int .i64 0] 38)) := (Below.refl _ _).alloc (Nat.le_refl _) _
      have hr4 := hrow.keep hb4
      have hnc := new_cells wr (leafCs Sx.numL (.slice none 0 0)) 38
      have hoc := leafCs_one Sx.numL none 0 0
      have HR4 := Lib.hid hr4
      have HNC := Lib.hid hnc
      have HOC := Lib.hid hoc
      have HT4 := Lib.hid ((hb4.block TB (lt_of ht)).trans ht)
      have HX : Hid (TB < (wr.alloc (.cells #[.int .i64 9, .string ⟨#[]⟩, .int .i64 0, .slice none 0 0, .int .i64 0, .int .i64 0] 38)).heap.size) := Lib.hid (by have := lt_of ht; simp; omega)
      have HB4 := Lib.hid (hb.trans (hb4.mono (Nat.le_of_lt (lt_of ht))))
      have HP := Lib.hid hP
      have HLE : Hid (P.length ≤ 100) := Lib.hid (by have := HD.out; omega)
      clear ht hrow hP hPl hb hb4 hr4 hnc hoc hlt
      go_upto_region 9 with fail
      go_wp2_with (at_builtin; refine wpList_append_at _ rfl _ _ 22 rfl w2.heap.size 38 i0 (.agg #[.int .i64 0, .string ⟨#[]⟩, .int .i64 0, .slice none 0 0, .int .i64 0, .int .i64 0]) 6 72 Tryd.underlying22 HI.out HZ0.out HZ1.out HZ2.out rfl (by decide) v P.length _ rfl HR4.out.own ⟨wr.heap.size, 0, none⟩ 1 1 (leafCs Sx.numL (.slice none 0 0)) rfl rfl HNC.out HOC.out (by have := HLE.out; unfold maxLen; omega) (by have := HLE.out; omega) HB4.out.size ?_)
      intro v' w3 hown' hgrow hloc
      obtain ⟨hr5, hnx⟩ := HR4.out.app HX.out hown' hgrow (hloc.imp id (fun e => by rw [e]; simp)) (IsAt.nil _) (Off.nil _ _)
      obtain ⟨g, cap, rfl⟩ : ∃ g cap, v' = .slice (some ⟨g, 0, none⟩) (P.length + 1) cap := by
        rcases hown'.2 with ⟨_, h0⟩ | ⟨g, cap, cur, hv, _⟩
        · omega
        · exact ⟨g, cap, hv⟩
      have hTBv : v.ownBlock ≠ some TB := HR4.out.ne
      have ht5 := (hgrow.block TB HX.out (fun e => hTBv e.symm)).trans HT4.out
      have hB5 : Below TB w2 w3 := HB4.out.grown hgrow (Nat.le_of_lt HX.out) (fun k hk => Nat.le_trans (Nat.le_of_lt (lt_of HT2.out)) (HR4.out.lt k hk).1)
      have cb := cell_at (i := 0) ht5 rfl
      have fb := cells_frozen (i := 0) ht5
      have hr6 := (hr5.box 0 (.slice (some ⟨g, 0, none⟩) (P.length + 1) cap)).ls
      have ht6 := cells_set (i := 0) (.slice (some ⟨g, 0, none⟩) (P.length + 1) cap) ht5
      have hB6 := hB5.setCell (p := ⟨TB, 0, none⟩) (Nat.le_refl TB) (.slice (some ⟨g, 0, none⟩) (P.length + 1) cap)
      have hcl : (P.map (·.1)) ++ [Sx.numL] = Sx.chain d := by rw [HP.out]; rfl
      rw [List.map_append] at hr6
      have hr7 : LsAt (w3.setCell ⟨TB, 0, none⟩ (.slice (some ⟨g, 0, none⟩) (P.length + 1) cap)) (.slice (some ⟨g, 0, none⟩) (P.length + 1) cap) (Sx.chain d) := by rw [← hcl]; exact hr6
      have HR7 := Lib.hid hr7
      have HT7 := Lib.hid ht6
      have HB7 := Lib.hid (HB2.out.trans (hB6.mono (by rw [← HTB.out.2]; exact HB1s.out)))
      clear hown' hgrow hloc hr5 hnx hTBv ht5 hB5 hr6 ht6 hB6 hcl hr7 HR4 HNC HX HT4 HB4 HOC HP HLE c0
      go_upto_region 10 with fail
      generalize (w3.setCell ⟨TB, 0, none⟩ (.slice (some ⟨g, 0, none⟩) (P.length + 1) cap)) = w4 at HR7 HT7 HB7 ⊢
      obtain ⟨R, hR⟩ : ∃ x, w4.heap.size = x := ⟨_, rfl⟩
      have hnz : n ≤ 5000 := by have := HN.out; omega
      have tr := World.alloc_heap_new w4 (.cells (entC (List.replicate n zeroE)).toArray 38)
      have hb5 : Below w4.heap.size w4 (w4.alloc (.cells (entC (List.replicate n zeroE)).toArray 38)) := (Below.refl _ _).alloc (Nat.le_refl _) _
      have tu := World.alloc_heap_new (w4.alloc (.cells (entC (List.replicate n zeroE)).toArray 38)) (.cells #[.slice (some ⟨w4.heap.size, 0, none⟩) n n, .int .i64 0] 24)
      have hb6 := hb5.alloc hb5.size (.cells #[.slice (some ⟨w4.heap.size, 0, none⟩) n n, .int .i64 0] 24)
      have tr6 := (Below.heap_alloc (w4.alloc (.cells (entC (List.replicate n zeroE)).toArray 38)) (.cells #[.slice (some ⟨w4.heap.size, 0, none⟩) n n, .int .i64 0] 24) _ (lt_of tr)).trans tr
      rw [World.size_alloc] at tu
      rw [hR] at tu tr6 hb6
      have HTU := Lib.hid tu
      have HTR := Lib.hid tr6
      have HB6 := Lib.hid hb6
      clear tr hb5 tu hb6 tr6 cb fb
      go_upto_region 11 with (refine wpList_make_at _ rfl (.tmp 44) (.tmp 44) 22 rfl 38 i0 (.agg #[.int .i64 0, .string ⟨#[]⟩, .int .i64 0, .slice none 0 0, .int .i64 0, .int .i64 0]) Tryd.underlying22 HI.out HZ0.out n rfl rfl (by rw [HZ2.out]; omega) (by omega) ?_; rw [HZ1.out, made_leaves])
      generalize ((w4.alloc (.cells (entC (List.replicate n zeroE)).toArray 38)).alloc (.cells #[.slice (some ⟨R, 0, none⟩) n n, .int .i64 0] 24)) = w6 at HTU HTR HB6 ⊢
      have HR := Lib.hid (And.intro trivial hR)
      have HNZ := Lib.hid hnz
      have hat : ∀ j, j < 6 → w6.cell? ⟨R, j, none⟩ = (leafCs zeroE.1 zeroE.2)[j]? := fun j hj => by
        have e1 := entC_at (List.replicate n zeroE) 0 (by rw [List.length_replicate]; have := HN.out; omega) j hj
        rw [List.getElem_replicate, Nat.zero_mul, Nat.zero_add] at e1
        have e2 := HTR.out
        simp only [World.cell?, e2]
        simpa using e1
      have c0 : w6.cell? ⟨R, 0, none⟩ = some (.int .i64 0) := hat 0 (by decide)
      have c1 : w6.cell? ⟨R, 1, none⟩ = some (.string ⟨#[]⟩) := hat 1 (by decide)
      have c2 : w6.cell? ⟨R, 2, none⟩ = some (.int .i64 0) := hat 2 (by decide)
      have c3 : w6.cell? ⟨R, 3, none⟩ = some (.slice none 0 0) := hat 3 (by decide)
      have c4 : w6.cell? ⟨R, 4, none⟩ = some (.int .i64 0) := hat 4 (by decide)
      have c5 : w6.cell? ⟨R, 5, none⟩ = some (.int .i64 0) := hat 5 (by decide)
      have fz : ∀ j, w6.frozen? ⟨R, j, none⟩ = false := fun j => cells_frozen HTR.out
      have f0 := fz 0
      have f1 := fz 1
      have f2 := fz 2
      have f3 := fz 3
      have f4 := fz 4
      have f5 := fz 5
      have u0 := cell_at (i := 0) HTU.out rfl
      have g0 : (0 : Int) < n := by have := HN.out; omega
      clear hR hnz hat fz
      go_upto_region 12 with fail
      have hrow := cells_set (i := 5) (.int .i64 0) (cells_set (i := 4) (.int .i64 0) (cells_set (i := 3) (.slice none 0 0) (cells_set (i := 2) (.int .i64 0) (cells_set (i := 1) (.string ⟨#[67]⟩) (cells_set (i := 0) (.int .i64 11) HTR.out)))))
      rw [wide_start n (by have := HN.out; omega)] at hrow
      have hR4 : R ≤ R := Nat.le_refl R
      have hbw := (((((HB6.out.setCell (p := ⟨R, 0, none⟩) hR4 (.int .i64 11)).setCell (p := ⟨R, 1, none⟩) hR4 (.string ⟨#[67]⟩)).setCell (p := ⟨R, 2, none⟩) hR4 (.int .i64 0)).setCell (p := ⟨R, 3, none⟩) hR4 (.slice none 0 0)).setCell (p := ⟨R, 4, none⟩) hR4 (.int .i64 0)).setCell (p := ⟨R, 5, none⟩) hR4 (.int .i64 0)
      have hkb : ∀ {W : World} {x : Obj} (j : Nat) (u : Value), W.heap[R + 1]? = some x → (W.setCell ⟨R, j, none⟩ u).heap[R + 1]? = some x := fun j u h => (Below.heap_setCell _ _ _ _ (by show R + 1 ≠ R; omega)).trans h
      have hbox := hkb 5 (.int .i64 0) (hkb 4 (.int .i64 0) (hkb 3 (.slice none 0 0) (hkb 2 (.int .i64 0) (hkb 1 (.string ⟨#[67]⟩) (hkb 0 (.int .i64 11) HTU.out)))))
      have hw0 : WdI w4 R n 0 (.slice none 0 0) ((((((w6.setCell ⟨R, 0, none⟩ (.int .i64 11)).setCell ⟨R, 1, none⟩ (.string ⟨#[67]⟩)).setCell ⟨R, 2, none⟩ (.int .i64 0)).setCell ⟨R, 3, none⟩ (.slice none 0 0)).setCell ⟨R, 4, none⟩ (.int .i64 0)).setCell ⟨R, 5, none⟩ (.int .i64 0)) :=
        ⟨hbw, hrow, hbox, World.ownsRow_nil _ _ _ _, ⟨fun h => (by cases h), fun h => (by cases h)⟩⟩
      generalize ((((((w6.setCell ⟨R, 0, none⟩ (.int .i64 11)).setCell ⟨R, 1, none⟩ (.string ⟨#[67]⟩)).setCell ⟨R, 2, none⟩ (.int .i64 0)).setCell ⟨R, 3, none⟩ (.slice none 0 0)).setCell ⟨R, 4, none⟩ (.int .i64 0)).setCell ⟨R, 5, none⟩ (.int .i64 0)) = w7 at hw0 ⊢
      have HW0 := Lib.hid hw0
      obtain ⟨j0, hji, hjz0, hjz1, hjz2⟩ := info_parts infoInt
      have JI := Lib.hid hji
      have JZ0 := Lib.hid hjz0
      have JZ1 := Lib.hid hjz1
      have JZ2 := Lib.hid hjz2
      clear hrow hR4 hbw hkb hbox hw0 c0 c1 c2 c3 c4 c5 f0 f1 f2 f3 f4 f5 u0 HTU HTR HB6 g0 hji hjz0 hjz1 hjz2
      go_wp2_with fail
      go_loopw [10] (fun iv wr => ∃ (i c : Nat) (vk : Value), iv = .int .i64 i ∧ i ≤ n ∧ Hid (i = c + 1) ∧ Hid (WdI w4 R n c vk wr)) (fun iv _ => n - (intOf iv).toNat)
      case atStart => exact ⟨1, 0, .slice none 0 0, rfl, by have := HN.out; omega, Lib.hid rfl, HW0⟩
      case round =>
        obtain ⟨i, c, vk, rfl, hin, HIC, HW⟩ := hrel
        by_cases hlt : i < n
        · have g1 : (0 : Int) ≤ i := by omega
          have g2 : (i : Int) < n := by omega
          have hic := HIC.out
          have hcn : c + 1 < n := by omega
          have hwl : (entC (wideE n c vk)).length = n * 6 := by rw [entC_len, wideE_len n c vk (by omega)]
          have hi6 : i * 6 < n * 6 := by omega
          obtain ⟨za, zn, zc, hvk⟩ : ∃ za zn zc, vk = .slice za zn zc := by
            rcases HW.out.kids.2 with ⟨rfl, _⟩ | ⟨g, cap, cur, rfl, _⟩
            · exact ⟨_, _, _, rfl⟩
            · exact ⟨_, _, _, rfl⟩
          subst hvk
          have b0 := cell_at (i := 0) HW.out.box rfl
          have r3 : wr.cell? ⟨R, 3, none⟩ = some (.slice za zn zc) := cell_at (i := 3) HW.out.row rfl
          have rk : ∃ u, wr.cell? ⟨R, i * 6, none⟩ = some u := ⟨_, cell_at (i := i * 6) HW.out.row (by rw [List.getElem?_toArray]; exact List.getElem?_eq_getElem (by rw [hwl]; exact hi6))⟩
          obtain ⟨uk, rk⟩ := rk
          have fk : wr.frozen? ⟨R, i * 6, none⟩ = false := cells_frozen HW.out.row
          have f3 : wr.frozen? ⟨R, 3, none⟩ = false := cells_frozen HW.out.row
          have hne3 : i * 6 ≠ 3 := by omega
          clear hic hwl hi6
          have hrow1 := cells_set (i := i * 6) (.int .i64 9) HW.out.row
          have hbox1 : (wr.setCell ⟨R, i * 6, none⟩ (.int .i64 9)).heap[R + 1]? = _ := (Below.heap_setCell wr ⟨R, i * 6, none⟩ (.int .i64 9) (R + 1) (by show R + 1 ≠ R; omega)).trans HW.out.box
          have hkid1 : (wr.setCell ⟨R, i * 6, none⟩ (.int .i64 9)).ownsRow R 3 1 (.slice za zn zc) c (upTo c) := own_same HW.out.kids fun g hg => Below.heap_setCell _ _ _ _ (fun e => HW.out.ne.1 (by rw [hg, e]))
          have hb1 := HW.out.below.setCell (p := ⟨R, i * 6, none⟩) (Nat.le_refl R) (.int .i64 9)
          have HROW1 := Lib.hid hrow1
          have HBOX1 := Lib.hid hbox1
          have HKID1 := Lib.hid hkid1
          have HB1 := Lib.hid hb1
          have HNE := Lib.hid HW.out.ne
          clear hrow1 hbox1 hkid1 hb1
          go_upto_region 16 with fail
          generalize wr.setCell ⟨R, i * 6, none⟩ (.int .i64 9) = W1 at HROW1 HBOX1 HKID1 HB1 ⊢
          clear b0 r3 rk fk f3 HW
          have s1 := cell_at (i := 0) HBOX1.out rfl
          have s2 : W1.cell? ⟨R, 3, none⟩ = some (.slice za zn zc) := cell_at (i := 3) HROW1.out (by
            rw [List.setIfInBounds_toArray, List.getElem?_toArray, List.getElem?_set_ne hne3]
            rfl)
          have HSS : Hid (W1.drew.cell? ⟨R + 1, 0, none⟩ = some (.slice (some ⟨R, 0, none⟩) n n) ∧ W1.drew.cell? ⟨R, 3, none⟩ = some (.slice za zn zc)) := Lib.hid ⟨s1, s2⟩
          have HCC := Lib.hid (And.intro trivial hcn)
          have g0 : (0 : Int) < n := by omega
          have g00 : n ≠ 0 := by omega
          have g000 : 0 < n := by omega
          clear s1 s2 hcn
          refine region_plainX (S := fun X => X.cell? ⟨R + 1, 0, none⟩ = some (.slice (some ⟨R, 0, none⟩) n n) ∧ X.cell? ⟨R, 3, none⟩ = some (.slice za zn zc)) (m := 12) (by kernel_rfl) ?_
          refine x_take (i := 0) (v := .pointer (some ⟨R + 1, 0, none⟩)) rfl rfl (by kernel_rfl) (by kernel_rfl) (by kernel_rfl) (by kernel_rfl) (fun _ _ _ h => h) (.inl ⟨by rfl, ?_⟩) HSS.out ?_
          · intro X hX; (try dsimp only at hX); obtain ⟨hs1, hs2⟩ := hX; go_simp
          simp only [List.getElem_toArray, List.getElem_cons_succ, List.getElem_cons_zero, Act.put, List.setIfInBounds_toArray, List.set_cons_zero, List.set_cons_succ]
          refine x_take (i := 1) (v := (.slice (some ⟨R, 0, none⟩) n n)) rfl rfl (by kernel_rfl) (by kernel_rfl) (by kernel_rfl) (by kernel_rfl) (fun _ _ _ h => h) (.inl ⟨by rfl, ?_⟩) HSS.out ?_
          · intro X hX; (try dsimp only at hX); obtain ⟨hs1, hs2⟩ := hX; go_simp
          simp only [List.getElem_toArray, List.getElem_cons_succ, List.getElem_cons_zero, Act.put, List.setIfInBounds_toArray, List.set_cons_zero, List.set_cons_succ]
          refine x_take (i := 2) (v := .pointer (some ⟨R + 1, 0, none⟩)) rfl rfl (by kernel_rfl) (by kernel_rfl) (by kernel_rfl) (by kernel_rfl) (fun _ _ _ h => h) (.inl ⟨by rfl, ?_⟩) HSS.out ?_
          · intro X hX; (try dsimp only at hX); obtain ⟨hs1, hs2⟩ := hX; go_simp
          simp only [List.getElem_toArray, List.getElem_cons_succ, List.getElem_cons_zero, Act.put, List.setIfInBounds_toArray, List.set_cons_zero, List.set_cons_succ]
          refine x_take (i := 3) (v := (.slice (some ⟨R, 0, none⟩) n n)) rfl rfl (by kernel_rfl) (by kernel_rfl) (by kernel_rfl) (by kernel_rfl) (fun _ _ _ h => h) (.inl ⟨by rfl, ?_⟩) HSS.out ?_
          · intro X hX; (try dsimp only at hX); obtain ⟨hs1, hs2⟩ := hX; go_simp
          simp only [List.getElem_toArray, List.getElem_cons_succ, List.getElem_cons_zero, Act.put, List.setIfInBounds_toArray, List.set_cons_zero, List.set_cons_succ]
          refine x_take (i := 4) (v := (.pointer (some ⟨R, 0, none⟩))) rfl rfl (by kernel_rfl) (by kernel_rfl) (by kernel_rfl) (by kernel_rfl) (fun _ _ _ h => h) (.inl ⟨by rfl, ?_⟩) HSS.out ?_
          · intro X hX; (try dsimp only at hX); obtain ⟨hs1, hs2⟩ := hX; go_simp
          simp only [List.getElem_toArray, List.getElem_cons_succ, List.getElem_cons_zero, Act.put, List.setIfInBounds_toArray, List.set_cons_zero, List.set_cons_succ]
          refine x_take (i := 5) (v := (.pointer (some ⟨R, 3, none⟩))) rfl rfl (by kernel_rfl) (by kernel_rfl) (by kernel_rfl) (by kernel_rfl) (fun _ _ _ h => h) (.inl ⟨by rfl, ?_⟩) HSS.out ?_
          · intro X hX; (try dsimp only at hX); obtain ⟨hs1, hs2⟩ := hX; go_simp
          simp only [List.getElem_toArray, List.getElem_cons_succ, List.getElem_cons_zero, Act.put, List.setIfInBounds_toArray, List.set_cons_zero, List.set_cons_succ]
          refine x_take (i := 6) (v := (.slice za zn zc)) rfl rfl (by kernel_rfl) (by kernel_rfl) (by kernel_rfl) (by kernel_rfl) (fun _ _ _ h => h) (.inl ⟨by rfl, ?_⟩) HSS.out ?_
          · intro X hX; (try dsimp only at hX); obtain ⟨hs1, hs2⟩ := hX; go_simp
          simp only [List.getElem_toArray, List.getElem_cons_succ, List.getElem_cons_zero, Act.put, List.setIfInBounds_toArray, List.set_cons_zero, List.set_cons_succ]
          refine x_take (i := 7) (v := (.int .i64 (i : Int))) rfl rfl (by kernel_rfl) (by kernel_rfl) (by kernel_rfl) (by kernel_rfl) (fun _ _ _ h => h) (.inl ⟨by rfl, ?_⟩) HSS.out ?_
          · intro X hX; (try dsimp only at hX); obtain ⟨hs1, hs2⟩ := hX; go_simp
          simp only [List.getElem_toArray, List.getElem_cons_succ, List.getElem_cons_zero, Act.put, List.setIfInBounds_toArray, List.set_cons_zero, List.set_cons_succ]
          have hb2 : Below W1.heap.size W1 (W1.alloc (.cells #[.int .i64 (i : Int)] 3)).drew := ((Below.refl _ _).alloc (Nat.le_refl _) _).drew
          have hkid2 : (W1.alloc (.cells #[.int .i64 (i : Int)] 3)).drew.ownsRow R 3 1 (.slice za zn zc) c (upTo c) := HKID1.out.alloc (.cells #[.int .i64 (i : Int)] 3)
          have hcn2 : ∀ (q : Nat) (u : Value), [Value.int .i64 (i : Int)][q]? = some u → (W1.alloc (.cells #[.int .i64 (i : Int)] 3)).drew.cell? ((⟨W1.heap.size, 0, none⟩ : Addr).add q) = some u := fun q u h => cell_one W1 (.int .i64 (i : Int)) 3 q u h
          have hrow2 := (hb2.block R (lt_of HROW1.out)).trans HROW1.out
          have hbox2 := (hb2.block (R + 1) (lt_of HBOX1.out)).trans HBOX1.out
          have hB2 := HB1.out.trans (hb2.mono (Nat.le_of_lt (lt_of HROW1.out)))
          have HSX : Hid (∀ X : World, X.heap[R]? = some (.cells ((entC (wideE n c (.slice za zn zc))).toArray.setIfInBounds (i * 6) (.int .i64 9)) 38) → X.heap[R + 1]? = some (.cells #[.slice (some ⟨R, 0, none⟩) n n, .int .i64 0] 24) → X.cell? ⟨R + 1, 0, none⟩ = some (.slice (some ⟨R, 0, none⟩) n n) ∧ X.cell? ⟨R, 3, none⟩ = some (.slice za zn zc)) := Lib.hid (fun X h1 h2 => ⟨cell_at (i := 0) h2 rfl, cell_at (i := 3) h1 (by
            rw [List.setIfInBounds_toArray, List.getElem?_toArray, List.getElem?_set_ne hne3]
            rfl)⟩)
          have HROW2 := Lib.hid hrow2
          have HBOX2 := Lib.hid hbox2
          have HKID2 := Lib.hid hkid2
          have HB2' := Lib.hid hB2
          have HCN2 := Lib.hid hcn2
          clear hb2 hkid2 hcn2 hrow2 hbox2 hB2
          refine x_one (i := 8) (by kernel_rfl) rfl (fun K' hK' => ?_)
          go_simp
          refine hK'.out _ _ (fun _ => HSX.out _ HROW2.out HBOX2.out) ?_
          clear hK' K'
          refine x_one (i := 9) (by kernel_rfl) rfl (fun K' hK' => ?_)
          refine step_append _ (by rfl) _ _ 32 (by rfl) R 3 j0 (.int .i64 0) 1 8 Tryd.underlying32 JI.out JZ0.out JZ1.out JZ2.out rfl (by decide) (.slice za zn zc) c (upTo c) rfl HKID2.out ⟨W1.heap.size, 0, none⟩ 1 1 [.int .i64 (i : Int)] rfl rfl HCN2.out (by intro u hu; simp at hu; subst hu; rfl) (by have := HNZ.out; have := HCC.out.2; unfold maxLen; omega) (by have := HNZ.out; have := HCC.out.2; omega) (Nat.le_of_lt (lt_of HROW2.out)) ?_
          intro v5 w5 hown hgrow hloc
          have hrow5 := (hgrow.block R (lt_of HROW2.out) (fun e => HNE.out.1 e.symm)).trans HROW2.out
          have hbox5 := (hgrow.block (R + 1) (lt_of HBOX2.out) (fun e => HNE.out.2 e.symm)).trans HBOX2.out
          have hB5 := HB2'.out.grown hgrow (Nat.le_of_lt (lt_of HROW2.out)) (fun q hq => (HKID2.out.lt q hq).1)
          have hne5 : v5.ownBlock ≠ some R ∧ v5.ownBlock ≠ some (R + 1) := by
            have h1 := lt_of HBOX2.out
            rcases hloc with e | e
            · rw [e]; exact HNE.out
            · rw [e]
              refine ⟨fun e2 => ?_, fun e2 => ?_⟩
              · have := Option.some.inj e2; omega
              · have := Option.some.inj e2; omega
          obtain ⟨na5, nc5, rfl⟩ : ∃ a c', v5 = .slice a (c + 1) c' := by
            rcases hown.2 with ⟨_, h0⟩ | ⟨g, cp, cur, e, _⟩
            · omega
            · exact ⟨_, _, e⟩
          have hup : upTo c ++ [Value.int .i64 (i : Int)] = upTo (c + 1) := by
            unfold upTo
            rw [List.range_succ, List.map_append, HIC.out]
            rfl
          rw [hup] at hown
          have hrow6 := cells_set (i := 3) (.slice na5 (c + 1) nc5) hrow5
          have hbox6 : (w5.setCell ⟨R, 3, none⟩ (.slice na5 (c + 1) nc5)).heap[R + 1]? = _ := (Below.heap_setCell w5 ⟨R, 3, none⟩ (.slice na5 (c + 1) nc5) (R + 1) (by show R + 1 ≠ R; omega)).trans hbox5
          have hkid6 : (w5.setCell ⟨R, 3, none⟩ (.slice na5 (c + 1) nc5)).ownsRow R 3 1 (.slice na5 (c + 1) nc5) (c + 1) (upTo (c + 1)) := own_same hown fun g hg => Below.heap_setCell _ _ _ _ (fun e => hne5.1 (by rw [hg, e]))
          have hb6 := hB5.setCell (p := ⟨R, 3, none⟩) (Nat.le_refl R) (.slice na5 (c + 1) nc5)
          rw [List.setIfInBounds_toArray, List.setIfInBounds_toArray, HIC.out, wide_next n c _ (.slice na5 (c + 1) nc5) HCC.out.2] at hrow6
          have HW6 : Hid (WdI w4 R n (c + 1) (.slice na5 (c + 1) nc5) (w5.setCell ⟨R, 3, none⟩ (.slice na5 (c + 1) nc5))) := Lib.hid ⟨hb6, hrow6, hbox6, hkid6, hne5⟩
          have HS5 := Lib.hid (HSX.out w5 hrow5 hbox5)
          have k3 := (HSX.out w5 hrow5 hbox5).2
          have f3 : w5.frozen? ⟨R, 3, none⟩ = false := cells_frozen hrow5
          clear hown hgrow hloc hrow5 hbox5 hB5 hne5 hup hrow6 hbox6 hkid6 hb6 HROW2 HBOX2 HKID2 HB2' HCN2 HKID1 HROW1 HBOX1 HB1 HSS HNE
          refine hK'.out _ _ (fun _ => HS5.out) ?_
          clear hK' K'
          simp only [List.getElem_toArray, List.getElem_cons_succ, List.getElem_cons_zero, Act.put, List.setIfInBounds_toArray, List.set_cons_zero, List.set_cons_succ]
          refine x_one (i := 10) (by kernel_rfl) rfl (fun K' hK' => ?_)
          go_simp
          refine hK'.out _ _ (fun _ => HS5.out) ?_
          clear hK' K'
          refine x_one (i := 11) (by kernel_rfl) rfl (fun K' hK' => ?_)
          go_simp
          refine hK'.out _ _ (fun _ => HS5.out) ?_
          clear hK' K'
          refine x_one (i := 12) (by kernel_rfl) rfl (fun K' hK' => ?_)
          go_simp
          refine hK'.out _ _ (fun h => absurd rfl h) ?_
          clear hK' K' k3 f3 HS5 HSX
          refine x_done (by kernel_rfl) ?_ _
          have hwi := wrap_one i (by have := HNZ.out; omega)
          have hwi' := wrap_one' i (by have := HNZ.out; omega)
          go_wp2
          go_roundw
          case rel => exact ⟨i + 1, c + 1, _, by go_num, by omega, Lib.hid (by rw [HIC.out]), HW6⟩
          case measure => simp [intOf]; omega
        · obtain rfl : n = i := by omega
          have hnn : ¬ (n : Int) < n := by omega
          have hic := HIC.out
          obtain ⟨za, zn, zc, hvk⟩ : ∃ za zn zc, vk = .slice za zn zc := by
            rcases HW.out.kids.2 with ⟨rfl, _⟩ | ⟨g, cap, cur, rfl, _⟩
            · exact ⟨_, _, _, rfl⟩
            · exact ⟨_, _, _, rfl⟩
          subst hvk
          have hls : LsAt wr (.slice (some ⟨R, 0, none⟩) n n) (Sx.wideL c) := wide_ls hic HW.out
          have hlt : LsAt wr (.slice (some ⟨g, 0, none⟩) (P.length + 1) cap) (Sx.chain d) := HR7.out.keep HW.out.below (Nat.le_of_eq HR.out.2)
          have hTR : TB < R := by have := lt_of HT7.out; rw [HR.out.2] at this; exact this
          have ht8 := (HW.out.below.block TB hTR).trans HT7.out
          have hB8 := HB7.out.trans (HW.out.below.mono (by rw [← HR.out.2]; exact HB7.out.size))
          have t0 := cell_at (i := 0) ht8 rfl
          have t1 := cell_at (i := 1) ht8 rfl
          have HCK1 := Lib.hid (Check_any _ (Sx.chain d) 0 wr hlt (chain_sm d (by have := HD.out; omega)))
          rw [Sx.check_chain d (by have := HD.out; omega) (by have := HD.out; omega)] at HCK1
          have HLS := Lib.hid hls
          have HBX := Lib.hid HW.out.box
          have HB8 := Lib.hid hB8
          have HIC2 := Lib.hid (And.intro trivial hic)
          have HRL := Lib.hid (lt_of HW.out.box)
          have hcn : c ≤ 5000 := by have := HN.out; omega
          have HSM := Lib.hid (wide_sm c (by omega))
          have HWC := Lib.hid (Sx.check_wide c (by omega))
          clear hls hlt ht8 hB8 HIC HW hic hcn hTR
          obtain ⟨e1, he1⟩ : ∃ e : Int, (if 64 < d then (7 : Int) else 0) = e := ⟨_, rfl⟩
          obtain ⟨e2, he2⟩ : ∃ e : Int, (if 4096 < c + 1 then (6 : Int) else 0) = e := ⟨_, rfl⟩
          rw [he1] at HCK1
          rw [he2] at HWC
          by_cases hd : 64 < d <;> by_cases hn : 4096 < n
          all_goals first | (have q1 : (64 : Int) < d := by omega) | (have q1 : ¬ (64 : Int) < d := by omega)
          all_goals first | (have q2 : (4096 : Int) < n := by omega) | (have q2 : ¬ (4096 : Int) < n := by omega)
          all_goals first | rw [if_pos hd] at he1 | rw [if_neg hd] at he1
          all_goals first | rw [if_pos (by have := HIC2.out.2; omega)] at he2 | rw [if_neg (by have := HIC2.out.2; omega)] at he2
          all_goals subst he1
          all_goals subst he2
          all_goals (go_wp2_with fail; refine HCK1.out.mono ?_; rintro e w8 ⟨rfl, hb8⟩)
          all_goals have hx8 := (hb8.block (R + 1) HRL.out).trans HBX.out
          all_goals have x0 := cell_at (i := 0) hx8 rfl
          all_goals have x1 := cell_at (i := 1) hx8 rfl
          all_goals have HCK2 := Lib.hid (Check_any _ (Sx.wideL c) 0 w8 (HLS.out.keep hb8 (Nat.le_refl _)) HSM.out)
          all_goals rw [HWC.out] at HCK2
          all_goals have HB9 := Lib.hid (HB8.out.trans (hb8.mono HB8.out.size))
          all_goals clear hb8 hx8 t0 t1
          all_goals (go_wp2_with fail; refine HCK2.out.mono ?_; rintro e w9 ⟨rfl, hb9⟩)
          all_goals have HB10 := Lib.hid (HB9.out.trans (hb9.mono HB9.out.size))
          all_goals clear hb9 x0 x1
          all_goals go_wp2
          all_goals go_ret
          all_goals exact ⟨rfl, HB10.out⟩

end Go.Proofs.YtpeihgbkolihgaaDoor
