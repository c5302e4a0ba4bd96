/- The reference's IsType, Flat, Cells, Type, Con and Name. -/
import Derived.Test.YtphlokjhfbfogaaZ4
set_option linter.unusedVariables false
set_option linter.unusedSimpArgs false
namespace Go.Proofs.Ytphlokjhfbfogaa
open Go.RowKit Go.Shelf


theorem wrap_k (k : Nat) (h : k ≤ 100000) : wrap64 (k : Int) = k := IntWalk.wrap64_in _ (by omega)
theorem wrap_k' (k : Nat) (h : k ≤ 100000) : IntKind.i64.wrap (k : Int) = k := IntWalk.i64_in _ (by omega)

/-- What lies at a type that exists. -/
theorem typ_at {w : World} {ad : Option Addr} {n cap : Nat} {d : List DataM} {t : Int} (hv : DsAt w (.slice ad n cap) d) (hok : Dt.ok d t = true) (h0 : t ≠ 0) :
    ∃ (k : Nat) (x : DataM) (b off : Nat) (fa : Option Addr) (fc : Nat), t = k + 1 ∧ k < d.length ∧ d[k]? = some x ∧ Dt.consOf d t = x.cons ∧ Dt.nameOf d t = x.name ∧ ad = some ⟨b, off, none⟩ ∧ b < w.heap.size ∧ w.cell? ⟨b, off + k * 2, none⟩ = some (.string x.name) ∧ w.cell? ⟨b, off + k * 2 + 1, none⟩ = some (.slice fa x.cons.length fc) ∧ CsAt w (.slice fa x.cons.length fc) x.cons := by
  obtain ⟨h1, h2⟩ := (ok_iff d t).1 hok
  obtain ⟨k, hk⟩ : ∃ k : Nat, t = k + 1 := ⟨(t - 1).toNat, by omega⟩
  have hkd : k < d.length := by omega
  have e1 : (t - 1).toNat = k := by omega
  obtain ⟨b, off, fa, fc, e, hb, c0, c1, hcs⟩ := hv.at k hkd
  refine ⟨k, d[k], b, off, fa, fc, hk, hkd, List.getElem?_eq_getElem hkd, ?_, ?_, e, hb, c0, c1, hcs⟩
  · simp [Dt.consOf, h0, hok, e1, List.getElem?_eq_getElem hkd]
  · simp [Dt.nameOf, h0, hok, e1, List.getElem?_eq_getElem hkd]


end Go.Proofs.Ytphlokjhfbfogaa
