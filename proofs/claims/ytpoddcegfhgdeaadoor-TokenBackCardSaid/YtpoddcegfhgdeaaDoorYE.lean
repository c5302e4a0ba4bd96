/- The law's awake: the examples of the chapter. -/
import Derived.Test.YtpoddcegfhgdeaaDoorYD
set_option linter.unusedVariables false
set_option linter.unusedSimpArgs false
namespace Go.Proofs.YtpoddcegfhgdeaaDoor
open Go.RowKit

theorem ext_all (s : ByteArray) (ts : List Tk.Tok) (Ls : List ByteArray) (h : (List.zip ts Ls).all (fun p => Tk.ext s.data.toList p.1.2.1 p.1.2.2 == p.2.data.toList) = true) : ∀ (j : Nat) (h : j < ts.length) (h' : j < Ls.length), s.extract ts[j].2.1 ts[j].2.2 = Ls[j] := by
  intro j h1 h2
  rw [List.all_eq_true] at h
  have hm : (ts[j], Ls[j]) ∈ List.zip ts Ls := by
    have hz : j < (List.zip ts Ls).length := by rw [List.length_zip]; omega
    have := List.getElem_mem hz
    rwa [List.getElem_zip] at this
  have h3 := h _ hm
  simp only [beq_iff_eq] at h3
  apply ByteArray.ext
  apply Array.toList_inj.1
  rw [ext_at]
  exact h3

/-- One comment. -/
def Nt (W : World) (g a b : Nat) : Prop := g < W.heap.size ∧ W.cell? ⟨g, 0, none⟩ = some (.int .i64 a) ∧ W.cell? ⟨g, 1, none⟩ = some (.int .i64 b)
theorem Nt.keep {W W' : World} {g a b : Nat} (h : Nt W g a b) (hb : Below W.heap.size W W') : Nt W' g a b :=
  ⟨Nat.lt_of_lt_of_le h.1 hb.size, (hb.cell (p := ⟨g, 0, none⟩) h.1).trans h.2.1, (hb.cell (p := ⟨g, 1, none⟩) h.1).trans h.2.2⟩
theorem NoteRow.one {B a b nc : Nat} {W : World} {na : Option Addr} (h : NoteRow B W (.slice na 1 nc) [(a, b)]) : ∃ g, na = some ⟨g, 0, none⟩ ∧ Nt W g a b := by
  rcases h.2 with ⟨_, h0⟩ | ⟨g, cap, cur, hv, hB, hg, h1, h2, h3, h4⟩
  · cases h0
  · cases hv
    have h5 : cur.toList.take 2 = [.int .i64 a, .int .i64 b] := h4
    have hcell : ∀ (j : Nat), j < 2 → W.cell? ⟨g, j, none⟩ = ([.int .i64 a, .int .i64 b] : List Value)[j]? := fun j hj => by
      simp only [World.cell?, hg]
      rw [← h5, List.getElem?_take, if_pos hj]; simp
    exact ⟨g, rfl, (Array.getElem?_eq_some_iff.1 hg).1, (hcell 0 (by omega)).trans rfl, (hcell 1 (by omega)).trans rfl⟩

theorem tx1 (g : Nat) (w : World) (her : Erg w) (hL : StrRow w g [⟨#[102]⟩, ⟨#[45]⟩, ⟨#[49]⟩, ⟨#[120]⟩, ⟨#[45]⟩, ⟨#[50]⟩]) :
    Calls Tryd.prog 19 #[.string ⟨#[102, 32, 45, 49, 32, 120, 45, 32, 50]⟩, .slice (some ⟨g, 0, none⟩) 6 6] w fun e w' => e = .returned (.bool true) ∧ Below w.heap.size w w' :=
  texts_true ⟨#[102, 32, 45, 49, 32, 120, 45, 32, 50]⟩ g 6 [⟨#[102]⟩, ⟨#[45]⟩, ⟨#[49]⟩, ⟨#[120]⟩, ⟨#[45]⟩, ⟨#[50]⟩] [(1, 0, 1), (4, 2, 3), (3, 3, 4), (1, 5, 6), (4, 6, 7), (3, 8, 9), (6, 9, 9)] [] w her (by decide) (Lib.hid (by decide +kernel)) hL (Lib.hid rfl) (by decide) (Lib.hid rfl) (Lib.hid (ext_all _ _ _ (by decide +kernel)))

theorem tx2 (g : Nat) (w : World) (her : Erg w) (hL : StrRow w g [⟨#[40]⟩, ⟨#[45, 49]⟩, ⟨#[41]⟩, ⟨#[43]⟩, ⟨#[45, 50]⟩]) :
    Calls Tryd.prog 19 #[.string ⟨#[40, 45, 49, 41, 43, 45, 50]⟩, .slice (some ⟨g, 0, none⟩) 5 5] w fun e w' => e = .returned (.bool true) ∧ Below w.heap.size w w' :=
  texts_true ⟨#[40, 45, 49, 41, 43, 45, 50]⟩ g 5 [⟨#[40]⟩, ⟨#[45, 49]⟩, ⟨#[41]⟩, ⟨#[43]⟩, ⟨#[45, 50]⟩] [(4, 0, 1), (3, 1, 3), (4, 3, 4), (4, 4, 5), (3, 5, 7), (6, 7, 7)] [] w her (by decide) (Lib.hid (by decide +kernel)) hL (Lib.hid rfl) (by decide) (Lib.hid rfl) (Lib.hid (ext_all _ _ _ (by decide +kernel)))

theorem tx3 (g : Nat) (w : World) (her : Erg w) (hL : StrRow w g [⟨#[45, 57, 50, 50, 51, 51, 55, 50, 48, 51, 54, 56, 53, 52, 55, 55, 53, 56, 48, 56]⟩]) :
    Calls Tryd.prog 19 #[.string ⟨#[45, 57, 50, 50, 51, 51, 55, 50, 48, 51, 54, 56, 53, 52, 55, 55, 53, 56, 48, 56]⟩, .slice (some ⟨g, 0, none⟩) 1 1] w fun e w' => e = .returned (.bool true) ∧ Below w.heap.size w w' :=
  texts_true ⟨#[45, 57, 50, 50, 51, 51, 55, 50, 48, 51, 54, 56, 53, 52, 55, 55, 53, 56, 48, 56]⟩ g 1 [⟨#[45, 57, 50, 50, 51, 51, 55, 50, 48, 51, 54, 56, 53, 52, 55, 55, 53, 56, 48, 56]⟩] [(3, 0, 20), (6, 20, 20)] [] w her (by decide) (Lib.hid (by decide +kernel)) hL (Lib.hid rfl) (by decide) (Lib.hid rfl) (Lib.hid (ext_all _ _ _ (by decide +kernel)))

set_option maxRecDepth 100000 in
set_option maxHeartbeats 25600000 in
theorem awake_any (w : World) (her : Erg w) (hge : 2 < w.heap.size) : Calls Tryd.prog 10 #[] w fun e w' => e = .returned (.bool true) ∧ Below w.heap.size w w' := by
  have HER := Lib.hid her
  clear her
  go_enter Tryd.func10, Tryd.ntmps10
  go_wp2_with fail
  refine (Scan_good ⟨#[97, 45, 45, 98]⟩ [(1, 0, 1), (6, 4, 4)] [(1, 4)] _ HER.out (by decide) (Lib.hid (by decide +kernel))).mono ?_
  rintro e w1 ⟨ta, tc, na, nc, rfl, hsc, hb⟩
  have HW1 := Lib.hid hb
  obtain ⟨g, rfl, hnt⟩ := NoteRow.one hsc.2
  have HN1 := Lib.hid hnt
  have HE1 := Lib.hid (HER.out.keep hge hb)
  clear hsc hb hnt
  go_wp2_with fail
  refine (Scan_bad ⟨#[49, 120]⟩ 1 4 1 4 _ HE1.out (by decide) (Lib.hid (by decide +kernel)) rfl rfl).mono ?_
  rintro e w2 ⟨rfl, hb⟩
  have HW2 := Lib.hid (HW1.out.trans (hb.mono HW1.out.size))
  have HN2 := Lib.hid (HN1.out.keep hb)
  clear hb
  go_wp2_with fail
  refine (Scan_bad ⟨#[95, 97]⟩ 0 4 0 4 _ (HER.out.keep hge HW2.out) (by decide) (Lib.hid (by decide +kernel)) rfl rfl).mono ?_
  rintro e w3 ⟨rfl, hb⟩
  have HW3 := Lib.hid (HW2.out.trans (hb.mono HW2.out.size))
  have HN3 := Lib.hid (HN2.out.keep hb)
  clear hb
  go_wp2_with fail
  refine (Scan_bad ⟨#[57, 50, 50, 51, 51, 55, 50, 48, 51, 54, 56, 53, 52, 55, 55, 53, 56, 48, 56]⟩ 0 2 0 2 _ (HER.out.keep hge HW3.out) (by decide) (Lib.hid (by decide +kernel)) rfl rfl).mono ?_
  rintro e w4 ⟨rfl, hb⟩
  have HW4 := Lib.hid (HW3.out.trans (hb.mono HW3.out.size))
  have HN4 := Lib.hid (HN3.out.keep hb)
  clear hb
  have hA0 := (Below.refl w4.heap.size w4).alloc (Nat.le_refl _) (.cells ([⟨#[102]⟩, ⟨#[45]⟩, ⟨#[49]⟩, ⟨#[120]⟩, ⟨#[45]⟩, ⟨#[50]⟩].map Value.string).toArray 9)
  have HA0 := Lib.hid hA0
  have HX0 := Lib.hid (HW4.out.trans (hA0.mono HW4.out.size))
  have HL0 := Lib.hid (StrRow.new w4 [⟨#[102]⟩, ⟨#[45]⟩, ⟨#[49]⟩, ⟨#[120]⟩, ⟨#[45]⟩, ⟨#[50]⟩] 9)
  have HM0 := Lib.hid (HN4.out.keep hA0)
  clear hA0
  go_wp2_with fail
  refine (tx1 _ _ (HER.out.keep hge HX0.out) HL0.out).mono ?_
  rintro e w5 ⟨rfl, hb⟩
  have HW5 := Lib.hid (HX0.out.trans (hb.mono HX0.out.size))
  have HN5 := Lib.hid (HM0.out.keep hb)
  clear hb
  have hA1 := (Below.refl w5.heap.size w5).alloc (Nat.le_refl _) (.cells ([⟨#[40]⟩, ⟨#[45, 49]⟩, ⟨#[41]⟩, ⟨#[43]⟩, ⟨#[45, 50]⟩].map Value.string).toArray 9)
  have HA1 := Lib.hid hA1
  have HX1 := Lib.hid (HW5.out.trans (hA1.mono HW5.out.size))
  have HL1 := Lib.hid (StrRow.new w5 [⟨#[40]⟩, ⟨#[45, 49]⟩, ⟨#[41]⟩, ⟨#[43]⟩, ⟨#[45, 50]⟩] 9)
  have HM1 := Lib.hid (HN5.out.keep hA1)
  clear hA1
  go_wp2_with fail
  refine (tx2 _ _ (HER.out.keep hge HX1.out) HL1.out).mono ?_
  rintro e w6 ⟨rfl, hb⟩
  have HW6 := Lib.hid (HX1.out.trans (hb.mono HX1.out.size))
  have HN6 := Lib.hid (HM1.out.keep hb)
  clear hb
  obtain ⟨hg, n0, n1⟩ := HN6.out
  have hA2 := (Below.refl w6.heap.size w6).alloc (Nat.le_refl _) (.cells ([⟨#[45, 57, 50, 50, 51, 51, 55, 50, 48, 51, 54, 56, 53, 52, 55, 55, 53, 56, 48, 56]⟩].map Value.string).toArray 9)
  have HX2 := Lib.hid (HW6.out.trans (hA2.mono HW6.out.size))
  have HL2 := Lib.hid (StrRow.new w6 [⟨#[45, 57, 50, 50, 51, 51, 55, 50, 48, 51, 54, 56, 53, 52, 55, 55, 53, 56, 48, 56]⟩] 9)
  clear hA2
  go_wp2_with fail
  refine (tx3 _ _ (HER.out.keep hge HX2.out) HL2.out).mono ?_
  rintro e w7 ⟨rfl, hb⟩
  have HW7 := Lib.hid (HX2.out.trans (hb.mono HX2.out.size))
  clear hb hg n0 n1
  go_wp2
  go_ret
  exact ⟨rfl, HW7.out⟩

end Go.Proofs.YtpoddcegfhgdeaaDoor
