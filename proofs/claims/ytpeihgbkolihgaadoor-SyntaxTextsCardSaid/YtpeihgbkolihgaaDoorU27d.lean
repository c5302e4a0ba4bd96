/- The literal of Dump: a leaf without text, without number. -/
import Derived.Test.YtpeihgbkolihgaaDoorU27
set_option linter.unusedVariables false
set_option linter.unusedSimpArgs false
namespace Go.Proofs.YtpeihgbkolihgaaDoor
open Go.RowKit

set_option maxRecDepth 100000 in
set_option maxHeartbeats 12800000 in
theorem dump_d (G T F A n cap : Nat) (ad : Option Addr) (w0 : World) (hG : w0.heap.size = G) (hT : T ≠ G) (hF : F ≠ G) (hA : A < G) (root : Int) (L : List LeafM) (ht : w0.heap[A]? = some (treeO (.slice ad n cap) root)) (hL : LsAt w0 (.slice ad n cap) L) (hS : SmT L) (hn : L.length = n) (hfo : Sx.forms L = true) (htab : Tab w0) (k : Nat) (ih : DpOk G T F A w0 L k)
    (t : Int) (bs : List UInt8) (W : World) (fa : Option Addr) (fc : Nat) (hh : Sx.Hh L (k + 1) t) (hlen : bs.length + (Sx.dumpF L (k + 1) t).length ≤ 140737488355328) (hm : DmM G T F A w0 bs W) (hk : IsAt w0 (.slice fa (Sx.leafOf L t).kids.length fc) (Sx.leafOf L t).kids)
    (htx : (Sx.leafOf L t).text.size = 0) (hnu : (Sx.form (Sx.leafOf L t).kind.toNat).num = 0) :
    Calls Tryd.prog 34 #[leafV (Sx.leafOf L t).kind (Sx.leafOf L t).text (Sx.leafOf L t).num (.slice fa (Sx.leafOf L t).kids.length fc) (Sx.leafOf L t).frm (Sx.leafOf L t).to, .pointer (some ⟨T, 0, none⟩), .pointer (some ⟨G, 0, none⟩), .pointer (some ⟨F, 0, none⟩), .pointer (some ⟨A, 0, none⟩)] W fun e w' => e = .returned (.tuple #[]) ∧ DmM G T F A w0 (bs ++ Sx.dumpF L (k + 1) t) w' := by
  have hmem := Sx.leafOf_mem hh.1
  have hko := Sx.kidsOf_leaf hh.1
  have hkids := hh.2
  rw [hko] at hkids
  have hok := List.all_eq_true.1 hfo _ hmem
  have hsm := hS.2 _ hmem
  rw [Sx.dumpF, hko] at hlen ⊢
  unfold Sx.headT Sx.textT Sx.numT at hlen ⊢
  rw [if_pos htx] at hlen ⊢
  rw [if_pos hnu] at hlen ⊢
  obtain ⟨y, hy⟩ : ∃ y, Sx.leafOf L t = y := ⟨_, rfl⟩
  rw [hy] at hlen hk htx hnu hok hsm hkids hmem ⊢
  clear hy hko hh
  have hkr : 0 ≤ y.kind ∧ y.kind < 23 := by
    unfold Sx.leafOk at hok
    rw [Bool.and_eq_true] at hok
    exact Sx.inSet_all _ hok.1
  obtain ⟨q, hq⟩ := Int.eq_ofNat_of_zero_le hkr.1
  have hq23 : q < 23 := by omega
  rw [show y.kind.toNat = q by rw [hq, Int.toNat_natCast]] at hlen hnu ⊢
  obtain ⟨Fm, hFm⟩ : ∃ f, Sx.form q = f := ⟨_, rfl⟩
  have htb := fun j hj => Sx.formTab_at q hq23 j hj
  have hfs := Sx.form_size q
  have hts := hsm.1
  have his := Lib.itoa_length_le y.num hsm.2.2.2.1.1 (by have := hsm.2.2.2.1.2; omega)
  rw [hFm] at hlen hnu htb hfs ⊢
  clear hFm
  obtain ⟨fk, ftx, fnu, ga, gb, gc⟩ := Fm
  dsimp only at hlen hnu hfs ⊢
  subst hnu
  obtain ⟨ks, hks⟩ : ∃ ks, y.kids = ks := ⟨_, rfl⟩
  have hkl := hsm.2.1
  have hi64 := hsm.2.2.2.1
  rw [hks] at hlen hk hkids hkl ⊢
  obtain ⟨m, hmm⟩ : ∃ m, ks.length = m := ⟨_, rfl⟩
  rw [hmm] at hk hkl ⊢
  obtain ⟨tx, htxe⟩ : ∃ tx, y.text = tx := ⟨_, rfl⟩
  obtain ⟨nm, hnme⟩ : ∃ nm, y.num = nm := ⟨_, rfl⟩
  obtain ⟨fr, hfr⟩ : ∃ x, y.frm = x := ⟨_, rfl⟩
  obtain ⟨tq, hto⟩ : ∃ x, y.to = x := ⟨_, rfl⟩
  rw [hq]
  simp only [htxe] at hlen htx hts ⊢
  simp only [hnme] at hlen hi64 his ⊢
  obtain ⟨S1, hS1⟩ : ∃ s : ByteArray, ⟨#[40]⟩ ++ fk = s := ⟨_, rfl⟩
  obtain ⟨S2, hS2⟩ : ∃ s : ByteArray, ⟨#[32]⟩ ++ tx = s := ⟨_, rfl⟩
  obtain ⟨IT, hIT⟩ : ∃ s : ByteArray, (⟨(Lib.itoa nm).toArray⟩ : ByteArray) = s := ⟨_, rfl⟩
  obtain ⟨S3, hS3⟩ : ∃ s : ByteArray, ⟨#[32]⟩ ++ IT = s := ⟨_, rfl⟩
  have hc1 := cat1 40 fk (by omega)
  have hc2 := cat1 32 tx hts
  have hc3 := cat1 32 IT (by rw [← hIT, Lib.size_eq]; show (Lib.itoa nm).length ≤ _; omega)
  rw [hS1] at hc1
  rw [hS2] at hc2
  rw [hS3] at hc3
  have HC1 := Lib.hid hc1
  have HC2 := Lib.hid hc2
  have HC3 := Lib.hid hc3
  have k1 : S1.data.toList = 40 :: fk.data.toList := by rw [← hS1, wdl]
  have k2 : S2.data.toList = 32 :: tx.data.toList := by rw [← hS2, wdl]
  have k3 : S3.data.toList = 32 :: Lib.itoa nm := by rw [← hS3, wdl, ← hIT]
  have z1 : S1.size = fk.data.toList.length + 1 := by rw [← hS1, wsz]
  have z2 : S2.size = tx.data.toList.length + 1 := by rw [← hS2, wsz]
  have z3 : S3.size = (Lib.itoa nm).length + 1 := by rw [← hS3, wsz, ← hIT]
  have HKK := Lib.hid (And.intro k1 (And.intro k2 k3))
  have HZZ := Lib.hid (And.intro z1 (And.intro z2 z3))
  have HIT := Lib.hid hIT
  clear hc1 hc2 hc3 k1 k2 k3 z1 z2 z3 hS1 hS2 hS3 hIT
  clear hfs hts his
  rw [hfr, hto]
  obtain ⟨KT, hKT⟩ : ∃ K : List Int → List UInt8, K = fun l => l.flatMap (fun q => 32 :: Sx.dumpF L k q) := ⟨_, rfl⟩
  rw [show ks.flatMap (fun q => 32 :: Sx.dumpF L k q) = KT ks by rw [hKT]] at hlen ⊢
  have HKT := Lib.hid (show ∀ l, KT l = l.flatMap (fun q => 32 :: Sx.dumpF L k q) from fun l => by rw [hKT])
  have HLEN := Lib.hid hlen
  have HKS := Lib.hid hk
  have HKI := Lib.hid hkids
  have HMM := Lib.hid hmm
  have HL := Lib.hid hL
  have HTR := Lib.hid ht
  have HN := Lib.hid hn
  have HTAB := Lib.hid htab
  have HI := Lib.hid ih
  have HG := Lib.hid (And.intro trivial hG)
  have HH := Lib.hid (And.intro hT hF)
  have HI64 := Lib.hid hi64
  have HTX := Lib.hid htx
  clear htx hkr hmem hok hsm hfo hS hL ht hn htab ih hks hmm htxe hnme hfr hto hKT hlen hk hkids hq hG hi64
  -- the leaf's box
  have lf := World.alloc_heap_new W (leafO (q : Int) tx nm (.slice fa m fc) fr tq)
  have hm1 := hm.alloc (leafO (q : Int) tx nm (.slice fa m fc) fr tq)
  unfold leafO at lf hm1
  unfold leafV
  go_enter Tryd.func34, Tryd.ntmps34
  go_upto_region 1 with fail
  generalize W.alloc (.cells #[.int .i64 (q : Int), .string tx, .int .i64 nm, .slice fa m fc, .int .i64 fr, .int .i64 tq] 38) = W1 at lf hm1 ⊢
  generalize W.heap.size = lB at lf ⊢
  have m0 : W1.cell? ⟨T, q * 12, none⟩ = some (.string fk) := cell_at hm1.tab (htb 0 (by decide))
  have m1 : W1.cell? ⟨T, q * 12 + 1, none⟩ = some (.int .i64 ftx) := cell_at hm1.tab (htb 1 (by decide))
  have m2 : W1.cell? ⟨T, q * 12 + 2, none⟩ = some (.int .i64 0) := cell_at hm1.tab (htb 2 (by decide))
  have m3 : W1.cell? ⟨T, q * 12 + 3, none⟩ = some (.int .i64 ga.set) := cell_at hm1.tab (htb 3 (by decide))
  have m4 : W1.cell? ⟨T, q * 12 + 4, none⟩ = some (.int .i64 ga.least) := cell_at hm1.tab (htb 4 (by decide))
  have m5 : W1.cell? ⟨T, q * 12 + 5, none⟩ = some (.int .i64 ga.most) := cell_at hm1.tab (htb 5 (by decide))
  have m6 : W1.cell? ⟨T, q * 12 + 6, none⟩ = some (.int .i64 gb.set) := cell_at hm1.tab (htb 6 (by decide))
  have m7 : W1.cell? ⟨T, q * 12 + 7, none⟩ = some (.int .i64 gb.least) := cell_at hm1.tab (htb 7 (by decide))
  have m8 : W1.cell? ⟨T, q * 12 + 8, none⟩ = some (.int .i64 gb.most) := cell_at hm1.tab (htb 8 (by decide))
  have m9 : W1.cell? ⟨T, q * 12 + 9, none⟩ = some (.int .i64 gc.set) := cell_at hm1.tab (htb 9 (by decide))
  have m10 : W1.cell? ⟨T, q * 12 + 10, none⟩ = some (.int .i64 gc.least) := cell_at hm1.tab (htb 10 (by decide))
  have m11 : W1.cell? ⟨T, q * 12 + 11, none⟩ = some (.int .i64 gc.most) := cell_at hm1.tab (htb 11 (by decide))
  have l0 : W1.cell? ⟨lB, 0, none⟩ = some (.int .i64 (q : Int)) := cell_at (i := 0) lf rfl
  have q0 : (0 : Int) ≤ q := by omega
  have q1 : (q : Int) < 23 := by omega
  have HLF := Lib.hid lf
  have HM1 := Lib.hid hm1
  clear htb lf hm1 hm
  go_upto_region 2 with fail
  clear m0 m1 m2 m3 m4 m5 m6 m7 m8 m9 m10 m11 l0 q0 q1
  have hB2 := (Below.refl W1.heap.size W1).alloc (Nat.le_refl _) (.cells #[.string fk, .int .i64 ftx, .int .i64 0, .int .i64 ga.set, .int .i64 ga.least, .int .i64 ga.most, .int .i64 gb.set, .int .i64 gb.least, .int .i64 gb.most, .int .i64 gc.set, .int .i64 gc.least, .int .i64 gc.most] 68)
  have fm := World.alloc_heap_new W1 (.cells #[.string fk, .int .i64 ftx, .int .i64 0, .int .i64 ga.set, .int .i64 ga.least, .int .i64 ga.most, .int .i64 gb.set, .int .i64 gb.least, .int .i64 gb.most, .int .i64 gc.set, .int .i64 gc.least, .int .i64 gc.most] 68)
  have lf := (hB2.block lB (lt_of HLF.out)).trans HLF.out
  have hm2 := HM1.out.keep hB2
  have hlf := lt_of HLF.out
  have hne1 : lB ≠ G := by
    intro e
    have h1 := HLF.out
    rcases HM1.out.bld with ⟨_, v, hk, _⟩ | ⟨_, v, hk, _⟩ <;> (rw [e] at h1; rw [h1] at hk; cases hk)
  have hne2 : W1.heap.size ≠ G := by
    have := bd_lt HM1.out.bld
    omega
  generalize W1.alloc (.cells #[.string fk, .int .i64 ftx, .int .i64 0, .int .i64 ga.set, .int .i64 ga.least, .int .i64 ga.most, .int .i64 gb.set, .int .i64 gb.least, .int .i64 gb.most, .int .i64 gc.set, .int .i64 gc.least, .int .i64 gc.most] 68) = W2 at hB2 fm lf hm2 ⊢
  generalize W1.heap.size = fB at fm hne2 ⊢
  have x0 : W2.cell? ⟨fB, 0, none⟩ = some (.string fk) := cell_at fm rfl
  have HFM := Lib.hid fm
  have HLF2 := Lib.hid lf
  have HM2 := Lib.hid hm2
  have HNE := Lib.hid (And.intro hne1 hne2)
  clear hB2 fm lf hm2 hlf hne1 hne2
  have hc1 := HC1.out
  go_wp2_with fail
  clear hc1
  refine (HM2.out.string HH.out.1 HH.out.2 S1 (by have := HLEN.out; rw [HZZ.out.1]; simp only [List.length_append, List.length_cons, List.length_nil, List.cons_append] at this ⊢; omega)).mono ?_
  rintro e w3 ⟨rfl, hm3, hf3⟩
  clear x0
  have HM3 := Lib.hid hm3
  have HLF3 := Lib.hid ((hf3.high lB (lt_of HLF2.out) HNE.out.1 (type_ne HLF2.out (by decide))).trans HLF2.out)
  have HFM3 := Lib.hid ((hf3.high fB (lt_of HFM.out) HNE.out.2 (type_ne HFM.out (by decide))).trans HFM.out)
  clear hm3 hf3
  have y1 : w3.cell? ⟨lB, 1, none⟩ = some (.string tx) := cell_at HLF3.out rfl
  have ht1 : (tx.toList == []) = true := by
    rw [Lib.toList_data]
    cases hd : tx.data.toList with
    | nil => rfl
    | cons a l =>
      have htx := HTX.out
      rw [Lib.size_eq, hd] at htx; cases htx
  obtain ⟨w4, hw4⟩ : ∃ w4, w3 = w4 := ⟨_, rfl⟩
  have HM4 := HM3
  have HLF4 := HLF3
  have HFM4 := HFM3
  rw [hw4] at HM4 HLF4 HFM4
  subst hw4
  have x2 : w3.cell? ⟨fB, 2, none⟩ = some (.int .i64 0) := cell_at HFM4.out rfl
  have z2 : w3.cell? ⟨lB, 2, none⟩ = some (.int .i64 nm) := cell_at HLF4.out rfl
  have HM6 := HM4
  have HLF6 := HLF4
  obtain ⟨pr, hpr⟩ : ∃ l : List UInt8, bs ++ S1.data.toList = l := ⟨_, rfl⟩
  have HLEN6 : Hid (pr.length + ((KT ks).length + 1) ≤ 140737488355328) := Lib.hid (by have := HLEN.out; rw [← hpr]; simp only [HKK.out.1, HKK.out.2.1, HKK.out.2.2, List.length_append, List.length_cons, List.length_nil, List.cons_append] at this ⊢; omega)
  have HPR : Hid (∀ l : List UInt8, pr ++ l = bs ++ ((40 :: fk.data.toList ++ ([] ++ [])) ++ l)) := Lib.hid (fun l => by rw [← hpr]; simp [HKK.out.1, HKK.out.2.1, HKK.out.2.2])
  have hM6 := HM6.out
  rw [hpr] at hM6
  clear HM6
  have HM6 := Lib.hid hM6
  clear hpr hM6
  have y3 : w3.cell? ⟨lB, 3, none⟩ = some (.slice fa m fc) := cell_at HLF6.out rfl
  go_wp2_with fail
  clear y3 x2 z2 y1 ht1
  go_loopw [35] (fun iv wr => ∃ (c : Nat), c ≤ m ∧ iv = .int .i64 c ∧ Hid (DmM G T F A w0 (pr ++ KT (ks.take c)) wr)) (fun iv _ => m - (intOf iv).toNat)
  case atStart => exact ⟨0, Nat.zero_le _, rfl, Lib.hid (by rw [List.take_zero, HKT.out [], List.flatMap_nil, List.append_nil]; exact HM6.out)⟩
  case round =>
    obtain ⟨c, hc, rfl, HM⟩ := hrel
    by_cases hlt : c < m
    · have hcl : c < ks.length := by rw [HMM.out]; exact hlt
      obtain ⟨bk, ok, rfl, hbk, hck⟩ := HKS.out.at c hcl
      have hkc := (HM.out.below.cell (p := ⟨bk, ok + c, none⟩) (by rw [← HG.out.2]; exact hbk)).trans hck
      have hkd := HKI.out ks[c] (List.getElem_mem _)
      have hkt : KT (ks.take (c + 1)) = KT (ks.take c) ++ 32 :: Sx.dumpF L k ks[c] := by
        rw [HKT.out, HKT.out, ← List.take_append_getElem hcl, List.flatMap_append]
        simp
      have hkl2 : (KT (ks.take (c + 1))).length ≤ (KT ks).length := by
        conv => rhs; rw [← List.take_append_drop (c + 1) ks]
        rw [HKT.out (_ ++ _), List.flatMap_append, List.length_append, ← HKT.out]
        omega
      obtain ⟨x, hx⟩ : ∃ x, ks[c] = x := ⟨_, rfl⟩
      rw [hx] at hkc hkd hkt
      have hxl := Sx.isLeaf_iff L x
      cases k with
      | zero => exact hkd.elim
      | succ k =>
      obtain ⟨hx0, hx1⟩ := (Sx.isLeaf_iff L x).1 hkd.1
      obtain ⟨i, rfl⟩ := Int.eq_ofNat_of_zero_le hx0
      have hi : i < L.length := by omega
      have hleaf : Sx.leafOf L (i : Int) = L[i] := by unfold Sx.leafOf; rw [Int.toNat_natCast, List.getElem?_eq_getElem hi]; rfl
      obtain ⟨b, off, xa, xc, rfl, hbl, ⟨e0, e1, e2, e3, e4, e5⟩, hks⟩ := HL.out.at i hi
      rw [← hleaf] at e0 e1 e2 e3 e4 e5 hks
      have g1 : (0 : Int) ≤ c := by omega
      have g2 : (c : Int) < m := by omega
      have hl1 : (pr ++ KT (ks.take c)).length + 1 ≤ 140737488355328 := by have h1 := HLEN6.out; rw [hkt] at hkl2; rw [List.length_append, List.length_cons] at hkl2; rw [List.length_append]; omega
      have hl2 : ((pr ++ KT (ks.take c)) ++ [32]).length + (Sx.dumpF L (k + 1) i).length ≤ 140737488355328 := by have h1 := HLEN6.out; rw [hkt] at hkl2; rw [List.length_append, List.length_cons] at hkl2; rw [List.length_append, List.length_append, List.length_cons, List.length_nil]; omega
      have HKT2 := Lib.hid hkt
      have HL1 := Lib.hid hl1
      have HL2 := Lib.hid hl2
      have HKD := Lib.hid hkd
      have HXK := Lib.hid hks
      have hin : (i : Int) < n := by rw [← HN.out]; exact hx1
      have HNI := Lib.hid (And.intro hx0 hin)
      have HBL : Hid (b < G) := Lib.hid (by rw [← HG.out.2]; exact hbl)
      have HE := Lib.hid (And.intro e0 (And.intro e1 (And.intro e2 (And.intro e3 (And.intro e4 e5)))))
      clear hck hx hcl hkt hkl2 hl1 hl2 hkd hks hbl hxl hleaf hbk hi hx0 hx1 hin e0 e1 e2 e3 e4 e5
      go_wp2_with fail
      refine (HM.out.byte HH.out.1 HH.out.2 32 32 rfl HL1.out).mono ?_
      rintro e w7 ⟨rfl, hm7, hf7⟩
      have hB7 := hm7.below
      have hcall := HI.out (i : Int) _ w7.drew xa xc HKD.out HL2.out (hm7.keep ((Below.refl _ _).drew)) HXK.out
      unfold leafV at hcall
      have HCALL := Lib.hid hcall
      have g3 := HNI.out.1
      have g4 := HNI.out.2
      generalize (Sx.leafOf L (i : Int)).kind = xk at HE HCALL
      generalize (Sx.leafOf L (i : Int)).text = xt at HE HCALL
      generalize (Sx.leafOf L (i : Int)).num = xn at HE HCALL
      generalize (Sx.leafOf L (i : Int)).kids.length = xm at HE HCALL
      generalize (Sx.leafOf L (i : Int)).frm = xf at HE HCALL
      generalize (Sx.leafOf L (i : Int)).to = xo at HE HCALL
      have HM7 := Lib.hid hm7
      clear hm7 hf7 hB7 hcall HXK HKD
      go_upto_region 11 with fail
      have HSX : Hid (∀ X : World, Below G w0 X → X.heap[F]? = some (dmFn G T F A) → X.cell? ⟨A, 0, none⟩ = some (.slice (some ⟨b, off, none⟩) n cap) ∧ X.cell? ⟨F, 0, none⟩ = some (.func (.func 34) #[] #[.pointer (some ⟨T, 0, none⟩), .pointer (some ⟨G, 0, none⟩), .pointer (some ⟨F, 0, none⟩), .pointer (some ⟨A, 0, none⟩)]) ∧ X.cell? ⟨b, off + i * 6, none⟩ = some (.int .i64 xk) ∧ X.cell? ⟨b, off + i * 6 + 1, none⟩ = some (.string xt) ∧ X.cell? ⟨b, off + i * 6 + 2, none⟩ = some (.int .i64 xn) ∧ X.cell? ⟨b, off + i * 6 + 3, none⟩ = some (.slice xa xm xc) ∧ X.cell? ⟨b, off + i * 6 + 4, none⟩ = some (.int .i64 xf) ∧ X.cell? ⟨b, off + i * 6 + 5, none⟩ = some (.int .i64 xo)) := Lib.hid (fun X hB hf => ⟨(hB.cell (p := ⟨A, 0, none⟩) (by exact hA)).trans (cell_at (i := 0) HTR.out rfl), cell_at (i := 0) hf rfl, (hB.cell (p := ⟨b, off + i * 6, none⟩) (by exact HBL.out)).trans HE.out.1, (hB.cell (p := ⟨b, off + i * 6 + 1, none⟩) (by exact HBL.out)).trans HE.out.2.1, (hB.cell (p := ⟨b, off + i * 6 + 2, none⟩) (by exact HBL.out)).trans HE.out.2.2.1, (hB.cell (p := ⟨b, off + i * 6 + 3, none⟩) (by exact HBL.out)).trans HE.out.2.2.2.1, (hB.cell (p := ⟨b, off + i * 6 + 4, none⟩) (by exact HBL.out)).trans HE.out.2.2.2.2.1, (hB.cell (p := ⟨b, off + i * 6 + 5, none⟩) (by exact HBL.out)).trans HE.out.2.2.2.2.2⟩)
      have HS7 := Lib.hid (HSX.out w7.drew (below_drew HM7.out.below) HM7.out.fn)
      refine region_plainX (S := fun X => X.cell? ⟨A, 0, none⟩ = some (.slice (some ⟨b, off, none⟩) n cap) ∧ X.cell? ⟨F, 0, none⟩ = some (.func (.func 34) #[] #[.pointer (some ⟨T, 0, none⟩), .pointer (some ⟨G, 0, none⟩), .pointer (some ⟨F, 0, none⟩), .pointer (some ⟨A, 0, none⟩)]) ∧ X.cell? ⟨b, off + i * 6, none⟩ = some (.int .i64 xk) ∧ X.cell? ⟨b, off + i * 6 + 1, none⟩ = some (.string xt) ∧ X.cell? ⟨b, off + i * 6 + 2, none⟩ = some (.int .i64 xn) ∧ X.cell? ⟨b, off + i * 6 + 3, none⟩ = some (.slice xa xm xc) ∧ X.cell? ⟨b, off + i * 6 + 4, none⟩ = some (.int .i64 xf) ∧ X.cell? ⟨b, off + i * 6 + 5, none⟩ = some (.int .i64 xo)) (m := 7) (by kernel_rfl) ?_
      refine x_take0 (i := 0) (v := (.func (.func 34) #[] #[.pointer (some ⟨T, 0, none⟩), .pointer (some ⟨G, 0, none⟩), .pointer (some ⟨F, 0, none⟩), .pointer (some ⟨A, 0, none⟩)])) rfl rfl (by kernel_rfl) (by kernel_rfl) (by kernel_rfl) (fun _ _ _ h => h) (.inl ⟨by rfl, ?_⟩) HS7.out ?_
      · intro X hX; (try dsimp only at hX); obtain ⟨u1, u2, u3, u4, u5, u6, u7, u8⟩ := hX; go_simp
      simp only [List.getElem_toArray, List.getElem_cons_succ, List.getElem_cons_zero, Act.put, List.setIfInBounds_toArray, List.set_cons_zero, List.set_cons_succ]
      refine x_take0 (i := 1) (v := .pointer (some ⟨A, 0, none⟩)) rfl rfl (by kernel_rfl) (by kernel_rfl) (by kernel_rfl) (fun _ _ _ h => h) (.inl ⟨by rfl, ?_⟩) HS7.out ?_
      · intro X hX; (try dsimp only at hX); obtain ⟨u1, u2, u3, u4, u5, u6, u7, u8⟩ := hX; go_simp
      simp only [List.getElem_toArray, List.getElem_cons_succ, List.getElem_cons_zero, Act.put, List.setIfInBounds_toArray, List.set_cons_zero, List.set_cons_succ]
      refine x_take0 (i := 2) (v := (.slice (some ⟨b, off, none⟩) n cap)) rfl rfl (by kernel_rfl) (by kernel_rfl) (by kernel_rfl) (fun _ _ _ h => h) (.inl ⟨by rfl, ?_⟩) HS7.out ?_
      · intro X hX; (try dsimp only at hX); obtain ⟨u1, u2, u3, u4, u5, u6, u7, u8⟩ := hX; go_simp
      simp only [List.getElem_toArray, List.getElem_cons_succ, List.getElem_cons_zero, Act.put, List.setIfInBounds_toArray, List.set_cons_zero, List.set_cons_succ]
      refine x_take0 (i := 3) (v := (.int .i64 (i : Int))) rfl rfl (by kernel_rfl) (by kernel_rfl) (by kernel_rfl) (fun _ _ _ h => h) (.inl ⟨by rfl, ?_⟩) HS7.out ?_
      · intro X hX; (try dsimp only at hX); obtain ⟨u1, u2, u3, u4, u5, u6, u7, u8⟩ := hX; go_simp
      simp only [List.getElem_toArray, List.getElem_cons_succ, List.getElem_cons_zero, Act.put, List.setIfInBounds_toArray, List.set_cons_zero, List.set_cons_succ]
      refine x_take0 (i := 4) (v := (.pointer (some ⟨b, off + i * 6, none⟩))) rfl rfl (by kernel_rfl) (by kernel_rfl) (by kernel_rfl) (fun _ _ _ h => h) (.inl ⟨by rfl, ?_⟩) HS7.out ?_
      · intro X hX; (try dsimp only at hX); obtain ⟨u1, u2, u3, u4, u5, u6, u7, u8⟩ := hX; go_simp
      simp only [List.getElem_toArray, List.getElem_cons_succ, List.getElem_cons_zero, Act.put, List.setIfInBounds_toArray, List.set_cons_zero, List.set_cons_succ]
      refine x_take0 (i := 5) (v := (.agg #[.int .i64 xk, .string xt, .int .i64 xn, .slice xa xm xc, .int .i64 xf, .int .i64 xo])) rfl rfl (by kernel_rfl) (by kernel_rfl) (by kernel_rfl) (fun _ _ _ h => h) (.inl ⟨by rfl, ?_⟩) HS7.out ?_
      · intro X hX; (try dsimp only at hX); obtain ⟨u1, u2, u3, u4, u5, u6, u7, u8⟩ := hX; go_simp
      simp only [List.getElem_toArray, List.getElem_cons_succ, List.getElem_cons_zero, Act.put, List.setIfInBounds_toArray, List.set_cons_zero, List.set_cons_succ]
      refine x_one (i := 6) (by kernel_rfl) rfl (fun K' hK' => ?_)
      go_simp
      refine HCALL.out.mono ?_
      rintro e w8 ⟨rfl, hm8⟩
      have HM8 := Lib.hid hm8
      clear hm8
      dsimp only
      refine hK'.out _ _ (fun _ => HSX.out _ HM8.out.below HM8.out.fn) ?_
      clear hK' K'
      refine x_done (by kernel_rfl) ?_ _
      go_wp2
      go_roundw
      case rel => exact ⟨c + 1, by omega, by go_num, Lib.hid (by rw [HKT2.out]; have h := HM8.out; simpa using h)⟩
      case measure => simp [intOf]; omega
    · obtain rfl : m = c := by omega
      have hnn : ¬ (m : Int) < m := by omega
      have hm7 := HM.out
      rw [List.take_of_length_le (by rw [HMM.out]; exact Nat.le_refl _)] at hm7
      have HM7 := Lib.hid hm7
      clear hm7 HM
      go_wp2_with fail
      refine (HM7.out.byte HH.out.1 HH.out.2 41 41 rfl (by rw [List.length_append]; have := HLEN6.out; omega)).mono ?_
      rintro e w8 ⟨rfl, hm8, hf8⟩
      have HM8 := Lib.hid hm8
      clear hm8 hf8
      go_wp2
      go_end0
      refine ⟨rfl, ?_⟩
      have h := HM8.out
      rw [List.append_assoc, HPR.out] at h
      exact h

end Go.Proofs.YtpeihgbkolihgaaDoor
