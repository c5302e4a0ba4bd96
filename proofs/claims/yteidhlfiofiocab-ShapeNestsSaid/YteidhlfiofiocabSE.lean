/- Contents and places of a type: the mathematics. The state of the function literal of contents, and what the literal does at a type that adds nothing. The function literal of contents at a type that is new; what contents and places do. What contents does. What places, check and Of do. -/
import Derived.Test.YteidhlfiofiocabZE
import Derived.Test.YteidhlfiofiocabZA
import Derived.Test.YteidhlfiofiocabZI
import Derived.Maps.AppendAt
import Derived.Test.YteidhlfiofiocabZR
import Derived.Test.YteidhlfiofiocabZD
set_option linter.unusedVariables false
set_option linter.unusedSimpArgs false
namespace Go.Proofs.Yteidhlfiofiocab
open Go.RowKit

namespace Dt
/-- A type of the table that is not flat. -/
def nf (d : List DataM) (t : Int) : Bool := ok d t && (consOf d t).any hasF
theorem nf_ok {d : List DataM} {t : Int} (h : nf d t = true) : ok d t = true := by
  unfold nf at h
  exact (Bool.and_eq_true_iff.1 h).1
theorem nf_flat {d : List DataM} {t : Int} (h : ok d t = true) : nf d t = !(flat d t) := by
  unfold nf flat
  rw [h]
  simp
/-- What a type adds to the contents met so far, at most so many calls deep. -/
def conF (d : List DataM) : Nat → Int → List Int → List Int
  | 0, _, l => l
  | k + 1, t, l => if nf d t = true ∧ ¬ t ∈ l then (fieldsOf d t).foldl (fun l f => conF d k f l) (l ++ [t]) else l
theorem con_sub (d : List DataM) : ∀ (k : Nat) (t : Int) (l : List Int) y, y ∈ l → y ∈ conF d k t l
  | 0, t, l, y, h => h
  | k + 1, t, l, y, h => by
    rw [conF]
    split
    · exact foldl_sub (fun l x y h => con_sub d k x l y h) _ _ _ (List.mem_append_left _ h)
    · exact h
theorem con_unmet (d : List DataM) (k : Nat) (t : Int) (l : List Int) : unmet d (conF d k t l) ≤ unmet d l := unmet_mono d (fun x hx => con_sub d k t l x hx)
theorem cfold_unmet (d : List DataM) (k : Nat) (fs : List Int) (l : List Int) : unmet d (fs.foldl (fun l f => conF d k f l) l) ≤ unmet d l :=
  unmet_mono d (fun x hx => foldl_sub (fun l x y h => con_sub d k x l y h) fs l x hx)
theorem cfold_bound {d : List DataM} {k : Nat} (h : ∀ t l, (conF d k t l).length + unmet d (conF d k t l) ≤ l.length + unmet d l) : ∀ (fs : List Int) (l : List Int), (fs.foldl (fun l f => conF d k f l) l).length + unmet d (fs.foldl (fun l f => conF d k f l) l) ≤ l.length + unmet d l
  | [], l => Nat.le_refl _
  | f :: fs, l => Nat.le_trans (cfold_bound h fs (conF d k f l)) (h f l)
theorem con_bound (d : List DataM) : ∀ (k : Nat) (t : Int) (l : List Int), (conF d k t l).length + unmet d (conF d k t l) ≤ l.length + unmet d l
  | 0, t, l => Nat.le_refl _
  | k + 1, t, l => by
    rw [conF]
    split
    next h =>
      have h1 := cfold_bound (con_bound d k) (fieldsOf d t) (l ++ [t])
      have h2 := unmet_snoc d (nf_ok h.1) h.2
      rw [List.length_append, List.length_singleton] at h1
      omega
    next h => exact Nat.le_refl _
theorem con_good (d : List DataM) : ∀ (k : Nat) (t : Int) (l : List Int), (∀ x ∈ l, nf d x = true) → l.Nodup → (∀ x ∈ conF d k t l, nf d x = true) ∧ (conF d k t l).Nodup
  | 0, t, l, h1, h2 => ⟨h1, h2⟩
  | k + 1, t, l, h1, h2 => by
    rw [conF]
    split
    next h =>
      have key : ∀ (fs : List Int) (l : List Int), (∀ x ∈ l, nf d x = true) → l.Nodup → (∀ x ∈ fs.foldl (fun l f => conF d k f l) l, nf d x = true) ∧ (fs.foldl (fun l f => conF d k f l) l).Nodup := by
        intro fs
        induction fs with
        | nil => intro l a b; exact ⟨a, b⟩
        | cons f fs ih => intro l a b; exact ih _ (con_good d k f l a b).1 (con_good d k f l a b).2
      refine key _ _ ?_ ?_
      · intro x hx
        rcases List.mem_append.1 hx with hx | hx
        · exact h1 x hx
        · rw [List.mem_singleton.1 hx]; exact h.1
      · rw [List.nodup_append]
        exact ⟨h2, by simp, fun a ha b hb => by rw [List.mem_singleton.1 hb]; rintro rfl; exact h.2 ha⟩
    next h => exact ⟨h1, h2⟩
theorem con_prefix (d : List DataM) : ∀ (k : Nat) (t : Int) (l : List Int), l <+: conF d k t l
  | 0, t, l => List.prefix_refl l
  | k + 1, t, l => by
    rw [conF]
    split
    · exact (List.prefix_append l [t]).trans (foldl_prefix (fun l x => con_prefix d k x l) _ _)
    · exact List.prefix_refl l
/-- With calls enough the type is met, and with each type that is new all its fields that are not flat. -/
theorem con_closed (d : List DataM) : ∀ (k : Nat) (t : Int) (l : List Int), unmet d l < k → (nf d t = true → t ∈ conF d k t l) ∧ ∀ x ∈ conF d k t l, x ∈ l ∨ ∀ f ∈ fieldsOf d x, nf d f = true → f ∈ conF d k t l
  | 0, t, l, h => absurd h (Nat.not_lt_zero _)
  | k + 1, t, l, h => by
    rw [conF]
    split
    next hc =>
      have hs := unmet_snoc d (nf_ok hc.1) hc.2
      have key : ∀ (fs : List Int) (l0 : List Int), unmet d l0 < k → (∀ f ∈ fs, nf d f = true → f ∈ fs.foldl (fun l f => conF d k f l) l0) ∧ ∀ x ∈ fs.foldl (fun l f => conF d k f l) l0, x ∈ l0 ∨ ∀ f ∈ fieldsOf d x, nf d f = true → f ∈ fs.foldl (fun l f => conF d k f l) l0 := by
        intro fs
        induction fs with
        | nil => intro l0 _; exact ⟨fun f hf => by simp at hf, fun x hx => .inl hx⟩
        | cons f fs ih =>
          intro l0 hl
          have h1 := con_closed d k f l0 hl
          have h2 := ih (conF d k f l0) (Nat.lt_of_le_of_lt (con_unmet d k f l0) hl)
          have sub : ∀ y, y ∈ conF d k f l0 → y ∈ fs.foldl (fun l f => conF d k f l) (conF d k f l0) := fun y hy => foldl_sub (fun l x y h => con_sub d k x l y h) fs _ y hy
          refine ⟨fun g hg hok => ?_, fun x hx => ?_⟩
          · rcases List.mem_cons.1 hg with rfl | hg
            · exact sub _ (h1.1 hok)
            · exact h2.1 g hg hok
          · rcases h2.2 x hx with hx2 | hx2
            · rcases h1.2 x hx2 with hx3 | hx3
              · exact .inl hx3
              · exact .inr fun g hg hok => sub _ (hx3 g hg hok)
            · exact .inr hx2
      have hk := key (fieldsOf d t) (l ++ [t]) (by omega)
      refine ⟨fun _ => foldl_sub (fun l x y h => con_sub d k x l y h) _ _ _ (by simp), fun x hx => ?_⟩
      rcases hk.2 x hx with hx2 | hx2
      · rcases List.mem_append.1 hx2 with hx3 | hx3
        · exact .inl hx3
        · rw [List.mem_singleton.1 hx3]
          exact .inr hk.1
      · exact .inr hx2
    next hc =>
      refine ⟨fun hok => ?_, fun x hx => .inl hx⟩
      exact Classical.byContradiction fun hn => hc ⟨hok, hn⟩

/-- A way from one type to another by fields, over types that are not flat. -/
inductive CWay (d : List DataM) : Int → Int → Prop
  | here (t : Int) (h : nf d t = true) : CWay d t t
  | on (t f x : Int) (h : nf d t = true) (hf : f ∈ fieldsOf d t) (hw : CWay d f x) : CWay d t x
theorem CWay.first {d : List DataM} {t x : Int} (h : CWay d t x) : nf d t = true := by
  cases h with
  | here _ h => exact h
  | on _ _ _ h _ _ => exact h
theorem CWay.trans {d : List DataM} {t x y : Int} (h : CWay d t x) (k : CWay d x y) : CWay d t y := by
  induction h with
  | here t h => exact k
  | on t f x h hf hw ih => exact .on t f y h hf (ih k)
theorem con_way (d : List DataM) : ∀ (k : Nat) (t : Int) (l : List Int), ∀ x ∈ conF d k t l, x ∈ l ∨ CWay d t x
  | 0, t, l, x, hx => .inl hx
  | k + 1, t, l, x, hx => by
    rw [conF] at hx
    split at hx
    next hc =>
      have key : ∀ (fs : List Int) (l0 : List Int), (∀ f ∈ fs, f ∈ fieldsOf d t) → ∀ x ∈ fs.foldl (fun l f => conF d k f l) l0, x ∈ l0 ∨ CWay d t x := by
        intro fs
        induction fs with
        | nil => intro l0 _ x hx; exact .inl hx
        | cons f fs ih =>
          intro l0 hs x hx
          rcases ih _ (fun g hg => hs g (by simp [hg])) x hx with h | h
          · rcases con_way d k f l0 x h with h | h
            · exact .inl h
            · exact .inr (.on t f x hc.1 (hs f (by simp)) h)
          · exact .inr h
      rcases key _ _ (fun f hf => hf) x hx with h | h
      · rcases List.mem_append.1 h with h | h
        · exact .inl h
        · rw [List.mem_singleton.1 h]; exact .inr (.here t hc.1)
      · exact .inr h
    next hc => exact .inl hx
theorem cway_con {d : List DataM} {k : Nat} {t x : Int} (hk : unmet d [] < k) (h : CWay d t x) : x ∈ conF d k t [] := by
  have hc := con_closed d k t [] hk
  have key : ∀ {a b : Int}, CWay d a b → a ∈ conF d k t [] → b ∈ conF d k t [] := by
    intro a b hw
    induction hw with
    | here _ _ => exact fun h => h
    | on a f b ha hf hw ih =>
      intro hm
      refine ih ?_
      rcases hc.2 a hm with h0 | h0
      · cases h0
      · exact h0 f hf hw.first
  exact key h (hc.1 h.first)

/-- The contents of a type. -/
def contents (d : List DataM) (t : Int) : List Int := conF d 150 t []
theorem unmet_few {d : List DataM} (hd : Sm d) : unmet d [] < 150 := by have h1 := unmet_le d []; have h2 := hd.1; omega
theorem mem_contents {d : List DataM} (hd : Sm d) {t x : Int} : x ∈ contents d t ↔ CWay d t x :=
  ⟨fun h => by rcases con_way d 150 t [] x h with h | h; (· cases h); exact h, cway_con (unmet_few hd)⟩
theorem contents_nodup (d : List DataM) (t : Int) : (contents d t).Nodup := (con_good d 150 t [] (by simp) (by simp)).2
theorem contents_nf {d : List DataM} {t x : Int} (h : x ∈ contents d t) : nf d x = true := (con_good d 150 t [] (by simp) (by simp)).1 x h
theorem contents_flat {d : List DataM} {t : Int} (h : nf d t = false) : contents d t = [] := by
  unfold contents
  rw [conF, if_neg (by simp [h])]
theorem contents_head {d : List DataM} {t : Int} (h : nf d t = true) : ∃ l, contents d t = t :: l := by
  unfold contents
  rw [conF, if_pos ⟨h, by simp⟩]
  obtain ⟨s, hs⟩ : ([] ++ [t]) <+: (fieldsOf d t).foldl (fun l f => conF d 149 f l) ([] ++ [t]) := foldl_prefix (fun l x => con_prefix d 149 x l) _ _
  exact ⟨s, by rw [← hs]; rfl⟩
theorem contents_length {d : List DataM} (hd : Sm d) (t : Int) : (contents d t).length ≤ 101 := by
  have h1 := con_bound d 150 t []
  have h2 := unmet_le d []
  have h3 := hd.1
  unfold contents
  simp at h1
  omega

/-- The places of one type. -/
def placesC (d : List DataM) (c : Int) : List (Int × Int) := (List.range (consOf d c).length).map (fun k : Nat => (c, (k : Int)))
/-- The places of types in a list. -/
def placesL (d : List DataM) (l : List Int) : List (Int × Int) := l.flatMap (placesC d)
/-- The shape of a type of a valid table. -/
def places (d : List DataM) (t : Int) : List (Int × Int) := placesL d (contents d t)
theorem mem_placesC {d : List DataM} {c : Int} {p : Int × Int} : p ∈ placesC d c ↔ p.1 = c ∧ 0 ≤ p.2 ∧ p.2 < (consOf d c).length := by
  obtain ⟨a, b⟩ := p
  unfold placesC
  simp only [List.mem_map, List.mem_range, Prod.mk.injEq]
  constructor
  · rintro ⟨k, hk, rfl, rfl⟩
    exact ⟨rfl, by omega, by omega⟩
  · rintro ⟨rfl, h1, h2⟩
    exact ⟨b.toNat, by omega, rfl, by omega⟩
theorem mem_placesL {d : List DataM} {l : List Int} {p : Int × Int} : p ∈ placesL d l ↔ p.1 ∈ l ∧ 0 ≤ p.2 ∧ p.2 < (consOf d p.1).length := by
  unfold placesL
  rw [List.mem_flatMap]
  constructor
  · rintro ⟨c, hc, hp⟩
    obtain ⟨e, h⟩ := mem_placesC.1 hp
    rw [e]
    exact ⟨hc, h⟩
  · rintro ⟨h1, h2⟩
    exact ⟨p.1, h1, mem_placesC.2 ⟨rfl, h2⟩⟩
theorem placesC_nodup (d : List DataM) (c : Int) : (placesC d c).Nodup := by
  unfold placesC
  unfold List.Nodup
  rw [List.pairwise_map]
  refine List.Pairwise.imp ?_ (List.nodup_range (n := (consOf d c).length))
  intro a b hab h
  simp at h
  exact hab (by omega)
theorem placesL_nodup (d : List DataM) {l : List Int} (h : l.Nodup) : (placesL d l).Nodup := by
  induction l with
  | nil => simp [placesL]
  | cons c l ih =>
    rw [List.nodup_cons] at h
    show (placesC d c ++ placesL d l).Nodup
    rw [List.nodup_append]
    refine ⟨placesC_nodup d c, ih h.2, fun a ha b hb e => ?_⟩
    subst e
    have h1 := (mem_placesC.1 ha).1
    have h2 := (mem_placesL.1 hb).1
    rw [h1] at h2
    exact h.1 h2
theorem places_nodup (d : List DataM) (t : Int) : (places d t).Nodup := placesL_nodup d (contents_nodup d t)
theorem mem_places {d : List DataM} {t : Int} {p : Int × Int} : p ∈ places d t ↔ p.1 ∈ contents d t ∧ 0 ≤ p.2 ∧ p.2 < (consOf d p.1).length := mem_placesL
theorem placesL_snoc (d : List DataM) (l : List Int) (c : Int) : placesL d (l ++ [c]) = placesL d l ++ placesC d c := by simp [placesL]
theorem placesC_length (d : List DataM) (c : Int) : (placesC d c).length = (consOf d c).length := by simp [placesC]
theorem placesL_length {d : List DataM} (hd : ∀ t, (consOf d t).length ≤ 100) : ∀ l : List Int, (placesL d l).length ≤ 100 * l.length
  | [] => by simp [placesL]
  | c :: l => by
    have h1 := placesL_length hd l
    have h2 := hd c
    have h3 := placesC_length d c
    show (placesC d c ++ placesL d l).length ≤ _
    rw [List.length_append, List.length_cons]
    omega

/-- The place of a place in a list, or -1. -/
def pidx (p : Int × Int) (l : List (Int × Int)) : Int := fidx (fun x => x == p) l
theorem pidx_at {l : List (Int × Int)} (h : l.Nodup) (i : Nat) (hi : i < l.length) : pidx l[i] l = i := by
  unfold pidx
  refine fidx_hit _ l i hi (by simp) (fun j hj => ?_)
  rw [beq_eq_false_iff_ne]
  intro e
  have := (List.getElem_inj h).1 e
  omega
theorem pidx_none {l : List (Int × Int)} {p : Int × Int} (h : ¬ p ∈ l) : pidx p l = -1 := by
  unfold pidx
  refine fidx_miss _ l (fun j hj => ?_)
  rw [beq_eq_false_iff_ne]
  intro e
  exact h (e ▸ List.getElem_mem hj)
theorem pidx_mem {l : List (Int × Int)} {p : Int × Int} (h : p ∈ l) : ∃ i : Nat, ∃ hi : i < l.length, pidx p l = i ∧ l[i] = p := by
  cases hf : l.findIdx? (fun x => x == p) with
  | none =>
    have := List.findIdx?_eq_none_iff.1 hf p h
    simp at this
  | some i =>
    obtain ⟨hl, hp, _⟩ := List.findIdx?_eq_some_iff_getElem.1 hf
    exact ⟨i, hl, by unfold pidx fidx; rw [hf], by simpa using hp⟩
theorem pidx_neg {l : List (Int × Int)} {p : Int × Int} : pidx p l < 0 ↔ ¬ p ∈ l := by
  constructor
  · intro h hm
    obtain ⟨i, hi, e, _⟩ := pidx_mem hm
    omega
  · intro h
    rw [pidx_none h]
    omega

/-- The shape of a type, or nothing. -/
noncomputable def shapeOf (chk : Int) (d : List DataM) (t : Int) : List (Int × Int) := if chk = 0 ∧ ok d t = true then places d t else []
/-- Are all places of a field places of a type? -/
def inAll (d : List DataM) (t f : Int) : Bool := (places d f).all (fun p => decide (p ∈ places d t))
def inList (d : List DataM) (t f : Int) : List Int := (places d f).map (fun p => pidx p (places d t))
theorem inAll_iff {d : List DataM} {t f : Int} : inAll d t f = true ↔ ∀ p ∈ places d f, p ∈ places d t := by simp [inAll, List.all_eq_true]
/-- A field of what a type contains lies in it as a whole. -/
theorem inAll_field {d : List DataM} (hd : Sm d) {t x f : Int} (hx : x ∈ contents d t) (hf : f ∈ fieldsOf d x) : inAll d t f = true := by
  rw [inAll_iff]
  intro p hp
  rw [mem_places] at hp ⊢
  refine ⟨?_, hp.2⟩
  have h1 := (mem_contents hd).1 hx
  have h2 := (mem_contents hd).1 hp.1
  exact (mem_contents hd).2 (h1.trans (.on x f p.1 (contents_nf hx) hf h2))
theorem inAll_self (d : List DataM) (t : Int) : inAll d t t = true := inAll_iff.2 fun p hp => hp
theorem inAll_trans {d : List DataM} {t u v : Int} (h : inAll d t u = true) (k : inAll d u v = true) : inAll d t v = true := inAll_iff.2 fun p hp => inAll_iff.1 h p (inAll_iff.1 k p hp)
/-- Going inside twice. -/
theorem inList_twice {d : List DataM} {t u v : Int} (h : inAll d t u = true) (k : inAll d u v = true) (i : Nat) (hi : i < (places d v).length) :
    ∃ j : Nat, ∃ hj : j < (places d u).length, (inList d u v)[i]'(by simpa [inList] using hi) = j ∧ (inList d t v)[i]'(by simpa [inList] using hi) = (inList d t u)[j]'(by simpa [inList] using hj) := by
  obtain ⟨j, hj, e1, e2⟩ := pidx_mem (inAll_iff.1 k _ (List.getElem_mem hi))
  refine ⟨j, hj, by simp [inList, e1], by simp [inList, e2]⟩
theorem inList_self (d : List DataM) (t : Int) (i : Nat) (hi : i < (places d t).length) : (inList d t t)[i]'(by simpa [inList] using hi) = i := by
  simp only [inList, List.getElem_map]
  exact pidx_at (places_nodup d t) i hi
end Dt

end Go.Proofs.Yteidhlfiofiocab
set_option linter.unusedVariables false
set_option linter.unusedSimpArgs false
namespace Go.Proofs.Yteidhlfiofiocab
open Go.RowKit Go.Shelf Go.Maps

/-- The blocks of the variables of contents. -/
structure Ac where
  base : Nat
  bd : Nat
  bo : Nat
  mb : Nat
  bm : Nat
  bc : Nat
structure Ac.Good (A : Ac) : Prop where
  h1 : A.base ≤ A.bd
  h2 : A.bd < A.bo
  h3 : A.bo < A.mb
  h4 : A.mb < A.bm
  h5 : A.bm < A.bc
def Ac.caps (A : Ac) : Array Value := #[.pointer (some ⟨A.bm, 0, none⟩), .pointer (some ⟨A.bd, 0, none⟩), .pointer (some ⟨A.bo, 0, none⟩), .pointer (some ⟨A.bc, 0, none⟩)]

/-- What lies in the variables of contents: the contents met. -/
structure Cv (A : Ac) (w : World) (dv : Value) (W : World) (o : List Int) (vo : Value) : Prop where
  below : Below A.base w W
  bd : Boxed W A.bd 22 dv
  bm : Boxed W A.bm 65 (.map (some A.mb))
  bc : Boxed W A.bc 66 (.func (.func 25) #[] A.caps)
  map : MapSet W 23 A.mb o.length (Dt.keyI o)
  box : Boxed W A.bo 33 vo
  row : W.ownsRow (A.bc + 1) 23 1 vo o.length (ints o)
def Ct (A : Ac) (w : World) (dv : Value) (W : World) (o : List Int) : Prop := ∃ vo, Cv A w dv W o vo

theorem own_keep {B : Nat} {W W' : World} {e : TypeId} {k n : Nat} {v : Value} {xs : List Value} (h : W.ownsRow B e k v n xs) (hb : Below W.heap.size W W') : W'.ownsRow B e k v n xs := by
  refine ⟨h.1, ?_⟩
  rcases h.2 with h1 | ⟨g, cap, cur, h3, h4, h5, rest⟩
  · exact .inl h1
  · exact .inr ⟨g, cap, cur, h3, h4, (hb.block g (Array.getElem?_eq_some_iff.1 h5).1).trans h5, rest⟩
theorem Cv.keep {A : Ac} {w : World} {dv : Value} {W W' : World} {o : List Int} {vo : Value} (h : Cv A w dv W o vo) (hA : A.base ≤ W.heap.size) (hb : Below W.heap.size W W') : Cv A w dv W' o vo :=
  ⟨h.below.trans (hb.mono hA), (hb.block _ h.bd.lt).trans h.bd, (hb.block _ h.bm.lt).trans h.bm, (hb.block _ h.bc.lt).trans h.bc, h.map.keep (hb.block _ h.map.lt), (hb.block _ h.box.lt).trans h.box, own_keep h.row hb⟩
theorem Ct.keep {A : Ac} {w : World} {dv : Value} {W W' : World} {o : List Int} (h : Ct A w dv W o) (hA : A.base ≤ W.heap.size) (hb : Below W.heap.size W W') : Ct A w dv W' o := by
  obtain ⟨vo, h⟩ := h
  exact ⟨vo, h.keep hA hb⟩
theorem Cv.slice {A : Ac} {w : World} {dv : Value} {W : World} {o : List Int} {vo : Value} (h : Cv A w dv W o vo) : ∃ ad cap, vo = .slice ad o.length cap := by
  rcases h.row.2 with ⟨hv, h0⟩ | ⟨g, cap, cur, hv, _⟩
  · exact ⟨none, 0, by rw [hv, h0]⟩
  · exact ⟨_, cap, hv⟩

def conArgs (A : Ac) (t : Int) : Array Value := #[.int .i64 t, .pointer (some ⟨A.bm, 0, none⟩), .pointer (some ⟨A.bd, 0, none⟩), .pointer (some ⟨A.bo, 0, none⟩), .pointer (some ⟨A.bc, 0, none⟩)]

set_option maxRecDepth 100000 in
set_option maxHeartbeats 6400000 in
theorem con_met (A : Ac) (w : World) (dv : Value) (t : Int) (W : World) (o : List Int) (vo : Value) (ht : In64 t) (hs : Cv A w dv W o vo) (hto : t ∈ o) :
    Calls Try.prog 25 (conArgs A t) W fun e W' => (∃ v, e = .returned v) ∧ W' = W := by
  have hcm := hs.bm.cell
  have HK := Lib.hid (keyOf_int_mk Try.underlying23 (wf64 ht))
  have HM := Lib.hid hs.map
  have HR : Hid (Dt.keyI o (.int .i64 t) = true) := Lib.hid (by rw [Dt.keyI_in]; exact decide_eq_true hto)
  clear hs ht hto
  unfold conArgs
  go_enter Try.func25, Try.ntmps25
  go_wp2_with (first | (at_lookup; refine wpList_set_look _ rfl _ _ 65 rfl 23 lawTyp Try.underlying65 A.mb _ _ rfl HM.out _ _ rfl HK.out true HR.out ?_))
  refine bodyPost_ret (results_none rfl _ _ _) rfl ?_
  exact ⟨⟨_, rfl⟩, rfl⟩

set_option maxRecDepth 100000 in
set_option maxHeartbeats 6400000 in
theorem con_flat (A : Ac) (w : World) (d : List DataM) (hd : Sm d) (dv : Value) (t : Int) (W : World) (o : List Int) (vo : Value) (ht : In64 t) (hs : Cv A w dv W o vo) (hto : ¬ t ∈ o) (hdv : DsAt W dv d) (hf : Dt.flat d t = true) :
    Calls Try.prog 25 (conArgs A t) W fun e W' => (∃ v, e = .returned v) ∧ Below W.heap.size W W' := by
  have hcm := hs.bm.cell
  have hcd := hs.bd.cell
  have HK := Lib.hid (keyOf_int_mk Try.underlying23 (wf64 ht))
  have HM := Lib.hid hs.map
  have HR : Hid (Dt.keyI o (.int .i64 t) = false) := Lib.hid (by rw [Dt.keyI_in]; exact decide_eq_false hto)
  have HF := Lib.hid (Flat_any dv d t true W hdv hd (Lib.hid hf))
  obtain ⟨ad, cap, rfl⟩ := hdv.slice
  generalize d.length = n at hcd HF
  clear hs ht hto hdv hf
  unfold conArgs
  go_enter Try.func25, Try.ntmps25
  go_wp2_with (first | (at_lookup; refine wpList_set_look _ rfl _ _ 65 rfl 23 lawTyp Try.underlying65 A.mb _ _ rfl HM.out _ _ rfl HK.out false HR.out ?_) | (go_at_call 26; refine HF.out.mono ?_; rintro e w' ⟨rfl, hb⟩; have HB := Lib.hid hb; clear hb))
  refine bodyPost_ret (results_none rfl _ _ _) rfl ?_
  exact ⟨⟨_, rfl⟩, HB.out⟩

/-- The type is noted in the set, and appended to the contents. -/
theorem Cv.met {A : Ac} (hA : A.Good) {w : World} {dv : Value} {W w1 w2 : World} {o : List Int} {vo vo' : Value} {t : Int} {tmp : Obj} (hbase : A.base ≤ W.heap.size) (h : Cv A w dv W o vo)
    (hm : MapSet w1 23 A.mb (o.length + 1) (Dt.keyI (o ++ [t]))) (hg : W.grownBy w1 (some A.mb)) :
    (Boxed w1 A.bo 33 vo ∧ w1.ownsRow (A.bc + 1) 23 1 vo o.length (ints o) ∧ A.bc + 1 ≤ w1.heap.size) ∧
    (w2.ownsRow (A.bc + 1) 23 1 vo' (o.length + 1) (ints o ++ [.int .i64 t]) → (w1.alloc tmp).grownBy w2 vo.ownBlock →
      Boxed w2 A.bo 33 vo ∧ Cv A w dv (w2.setCell ⟨A.bo, 0, none⟩ vo') (o ++ [t]) vo') := by
  have g3 := hA.h3; have g4 := hA.h4; have g5 := hA.h5; have g1 := hA.h1; have g2 := hA.h2
  have b1 := h.bd.lt
  have b2 := h.bm.lt
  have b3 := h.bc.lt
  have b4 := h.box.lt
  have b5 := h.map.lt
  have hlt : ∀ g, vo.ownBlock = some g → A.bc + 1 ≤ g ∧ g < W.heap.size := fun g e => h.row.lt g e
  have k1 : ∀ k, k < W.heap.size → k ≠ A.mb → w1.heap[k]? = W.heap[k]? := fun k a b => hg.block k a (fun e => b (by cases e; rfl))
  have hbx : Boxed w1 A.bo 33 vo := (k1 _ b4 (by omega)).trans h.box
  have hrw : w1.ownsRow (A.bc + 1) 23 1 vo o.length (ints o) := by
    refine ⟨h.row.1, ?_⟩
    rcases h.row.2 with h1 | ⟨g, cap, cur, h3, h4, h5, rest⟩
    · exact .inl h1
    · exact .inr ⟨g, cap, cur, h3, h4, (k1 g (Array.getElem?_eq_some_iff.1 h5).1 (by omega)).trans h5, rest⟩
  have hsz := hg.size
  refine ⟨⟨hbx, hrw, by omega⟩, fun hown hgrow => ?_⟩
  have k2 : ∀ k, k < w1.heap.size → k ≠ A.bo → some k ≠ vo.ownBlock → (w2.setCell ⟨A.bo, 0, none⟩ vo').heap[k]? = w1.heap[k]? := fun k a b c => by
    rw [Below.heap_setCell _ _ _ k b, hgrow.block k (by simp; omega) c, Below.heap_alloc _ _ _ a]
  have hob : some A.bo ≠ vo.ownBlock := fun e => by have := (hlt _ e.symm).1; omega
  have hb2 : Boxed w2 A.bo 33 vo := (hbx.alloc tmp).kept hgrow hob
  have far : ∀ k, k ≤ A.bc → k ≠ A.bo → k < w1.heap.size → (w2.setCell ⟨A.bo, 0, none⟩ vo').heap[k]? = w1.heap[k]? := fun k a b c => k2 k c b (fun e => by have := (hlt _ e.symm).1; omega)
  have hvs : ∀ g, vo'.ownBlock = some g → g ≠ A.bo := fun g e => by have := (hown.lt g e).1; omega
  have hrow : (w2.setCell ⟨A.bo, 0, none⟩ vo').ownsRow (A.bc + 1) 23 1 vo' (o.length + 1) (ints o ++ [.int .i64 t]) := hown.kept (grownBy_setCell' w2 A.bo vo') (.inr (fun e => hvs A.bo e rfl))
  refine ⟨hb2, ?_, ?_, ?_, ?_, ?_, hb2.set vo', ?_⟩
  · refine (h.below.grown hg hbase (fun k e => by cases e; omega)).trans ((((Below.refl A.base w1).alloc (by omega) tmp).grown hgrow (by simp; omega) fun k e => ?_).setCell (p := ⟨A.bo, 0, none⟩) (by show A.base ≤ A.bo; omega) vo')
    have := (hlt _ e).1
    omega
  · exact (far _ (by omega) (by omega) (by omega)).trans ((k1 _ b1 (by omega)).trans h.bd)
  · exact (far _ (by omega) (by omega) (by omega)).trans ((k1 _ b2 (by omega)).trans h.bm)
  · exact (far _ (by omega) (by omega) (by omega)).trans ((k1 _ b3 (by omega)).trans h.bc)
  · rw [List.length_append]
    exact hm.keep (far _ (by omega) (by omega) (by omega))
  · rw [ints_snoc, List.length_append]; exact hrow

end Go.Proofs.Yteidhlfiofiocab
set_option linter.unusedVariables false
set_option linter.unusedSimpArgs false
namespace Go.Proofs.Yteidhlfiofiocab
open Go.RowKit Go.Shelf Go.Maps

theorem row_of_types {B : Nat} {W : World} {v : Value} {l : List Int} (h : W.ownsRow B 23 1 v l.length (ints l)) : FsAt W v l := by
  rcases h.2 with ⟨hv, h0⟩ | ⟨g, cap, cur, hv, hg, hgb, hnc, hcm, hcs, htk⟩
  · obtain rfl := List.length_eq_zero_iff.1 h0
    rw [hv]; exact FsAt.nil W
  · refine ⟨_, _, _, hv, rfl, .inr ⟨g, 0, rfl, (Array.getElem?_eq_some_iff.1 hgb).1, fun i hi => ?_⟩⟩
    have h1 := congrArg (fun l => l[i]?) htk
    rw [List.getElem?_take_of_lt (by omega)] at h1
    simp only [World.cell?, hgb, Nat.zero_add]
    simpa [ints, hi] using h1

/-- What is asked of the function literal at so many calls. -/
def ConOk (A : Ac) (w : World) (d : List DataM) (dv : Value) (k : Nat) : Prop :=
  ∀ (t : Int) (W : World) (o : List Int), In64 t → Dt.ok d t = true → Ct A w dv W o → Dt.unmet d o < k → o.length + Dt.unmet d o ≤ 200 →
    Calls Try.prog 25 (conArgs A t) W fun e W' => (∃ v, e = .returned v) ∧ Ct A w dv W' (Dt.conF d k t o)

theorem Dt.typed_fields {d : List DataM} (h : Dt.typed d = true) {t f : Int} (hf : f ∈ Dt.fieldsOf d t) : Dt.ok d f = true := by
  unfold Dt.fieldsOf at hf
  obtain ⟨c, hc, hfc⟩ := List.mem_flatMap.1 hf
  obtain ⟨x, hxm, hcx⟩ := consOf_mem hc
  have h1 : d.any (Dt.offD d) = false := by simpa [Dt.typed] using h
  rw [List.any_eq_false] at h1
  have h2 := h1 x hxm
  simp only [Dt.offD, Bool.not_eq_true] at h2
  rw [List.any_eq_false] at h2
  have h3 := h2 c hcx
  simp only [Dt.offC, Bool.not_eq_true] at h3
  rw [List.any_eq_false] at h3
  have h4 := h3 f hfc
  simpa [Dt.offT] using h4

set_option maxRecDepth 100000 in
set_option maxHeartbeats 12800000 in
theorem con_new (A : Ac) (hA : A.Good) (w : World) (hbase : A.base = w.heap.size) (d : List DataM) (hd : Sm d) (hty : Dt.typed d = true) (dv : Value) (hdv : DsAt w dv d) (k : Nat) (ih : ConOk A w d dv k) (t : Int) (W : World) (o : List Int)
    (ht : In64 t) (hok : Dt.ok d t = true) (hS : Ct A w dv W o) (hun : Dt.unmet d o < k + 1) (hol : o.length + Dt.unmet d o ≤ 200) (hto : ¬ t ∈ o) (hnf : Dt.nf d t = true) :
    Calls Try.prog 25 (conArgs A t) W fun e W' => (∃ v, e = .returned v) ∧ Ct A w dv W' ((Dt.fieldsOf d t).foldl (fun l f => Dt.conF d k f l) (o ++ [t])) := by
  obtain ⟨vo, hs⟩ := hS
  obtain ⟨ao, co, rfl⟩ := hs.slice
  obtain ⟨ad, cap, hdvE⟩ := hdv.slice
  have hcm := hs.bm.cell
  have hcd := hs.bd.cell
  have hWs := hs.below.size
  have hbW : A.base ≤ W.heap.size := by rw [hbase]; exact hWs
  have HF : Hid (∀ W1 : World, DsAt W1 dv d → Calls Try.prog 26 #[dv, .int .i64 t] W1 fun e w' => e = .returned (.bool false) ∧ Below W1.heap.size W1 w') :=
    Lib.hid (fun W1 h => Flat_any dv d t false W1 h hd (Lib.hid (by have h1 := Dt.nf_flat hok; rw [hnf] at h1; cases hq : Dt.flat d t with | true => (rw [hq] at h1; cases h1) | false => rfl)))
  have HFW := Lib.hid (HF.out W (hdv.keep hs.below (by rw [hbase]; exact Nat.le_refl _)))
  have h0 : t ≠ 0 := by
    intro h
    subst h
    simp [Dt.nf, Dt.consOf] at hnf
  obtain ⟨no, hno⟩ : ∃ no, o.length = no := ⟨_, rfl⟩
  obtain ⟨nd, hnd⟩ : ∃ nd, d.length = nd := ⟨_, rfl⟩
  have HK := Lib.hid (keyOf_int_mk Try.underlying23 (wf64 ht))
  have HR : Hid (Dt.keyI o (.int .i64 t) = false) := Lib.hid (by rw [Dt.keyI_in]; exact decide_eq_false hto)
  have HS := Lib.hid hs
  have HM := Lib.hid hs.map
  have HA := Lib.hid hA
  have HBA := Lib.hid hbase
  have HDV := Lib.hid hdv
  have HDW := Lib.hid (hs.below)
  rw [hno] at HS hol HM
  rw [hnd] at hdvE
  have HUS := Lib.hid (Dt.unmet_snoc d hok hto)
  obtain ⟨X, hX⟩ : ∃ X, (Dt.fieldsOf d t).foldl (fun l f => Dt.conF d k f l) (o ++ [t]) = X := ⟨_, rfl⟩
  rw [hX]
  have HX := Lib.hid hX
  subst hdvE
  have HIH := Lib.hid ih
  have HNO := Lib.hid hno
  have HND := Lib.hid hnd
  have HUN := Lib.hid hun
  have HOL := Lib.hid hol
  have HD := Lib.hid hd
  have HOK := Lib.hid hok
  have HTY := Lib.hid hty
  have hno2 : no ≤ 200 := by omega
  obtain ⟨i0, hi, hz0, hz1, hz2⟩ := info_parts infoType
  have HI := Lib.hid hi
  have HZ0 := Lib.hid hz0
  have HZ1 := Lib.hid hz1
  have HZ2 := Lib.hid hz2
  have HBW := Lib.hid hbW
  clear hs hno hnd hun hol hd hok hto hdv hi hz0 hz1 hz2 hA ht hbase hX ih hnf HF hty hbW hWs
  unfold conArgs
  go_enter Try.func25, Try.ntmps25
  go_wp2_with (first | (at_lookup; refine wpList_set_look _ rfl _ _ 65 rfl 23 lawTyp Try.underlying65 A.mb _ _ rfl HM.out _ _ rfl HK.out false HR.out ?_) | (go_at_call 26; refine HFW.out.mono ?_; rintro e W1 ⟨rfl, hb⟩; refine hold ?_))
  have hs1 := HS.out.keep HBW.out hb
  have hb1 : A.base ≤ W1.heap.size := Nat.le_trans HBW.out hb.size
  have HS1 := Lib.hid hs1
  have HM1 : Hid (MapSet W1 23 A.mb no (Dt.keyI o)) := Lib.hid (by have h := hs1.map; rw [HNO.out] at h; exact h)
  have HB1 := Lib.hid hb1
  clear hcm hcd hb HM HFW HS HR
  have hcm := hs1.bm.cell
  have hcd := hs1.bd.cell
  clear hs1 hb1
  refine go_on ?_
  go_wp2_with (first | (at_mapUpdate; refine wpList_set_store _ rfl _ _ _ 65 rfl 23 lawTyp Try.underlying65 A.mb _ _ rfl HM1.out (by unfold maxLen; omega) _ _ rfl rfl HK.out trivial ?_; intro w1 hs1 hg1; refine hold ?_))
  have hs1' : MapSet w1 23 A.mb (o.length + 1) (Dt.keyI (o ++ [t])) := by rw [HNO.out]; exact hs1.to (Dt.keyI_snoc o t)
  obtain ⟨hbo1, hro1, hsz1⟩ := (HS1.out.met HA.out (w2 := w1) (vo' := .bool false) (tmp := .cells #[] 0) HB1.out hs1' hg1).1
  rw [HNO.out] at hro1
  have HS1' := Lib.hid hs1'
  have HG1 := Lib.hid hg1
  have HRO := Lib.hid hro1
  have hco := hbo1.cell
  clear hs1 hs1' hg1 hro1 hcm hcd HM1
  refine go_on ?_
  go_wp2_with (first | (at_builtin; refine wpList_append_own _ rfl _ _ 33 rfl (A.bc + 1) 23 i0 (.int .i64 0) 1 8 Try.underlying33 HI.out HZ0.out HZ1.out HZ2.out rfl (by decide) _ _ _ rfl (HRO.out.alloc _) ⟨w1.heap.size, 0, none⟩ 1 1 [.int .i64 t] rfl rfl (cell_one_new _ _ _) (by intro u hu; simp at hu; subst hu; rfl) (by unfold maxLen; omega) (by omega) (by simp; omega) ?_; intro vo' w2 hown2 hgrow2 hnil2; refine hold ?_))
  have hg2 : (w1.alloc (.cells #[.int .i64 t] 23)).grownBy w2 (Value.slice ao no co).ownBlock := hgrow2
  obtain ⟨hbx2, hsv2⟩ := (HS1.out.met HA.out (w2 := w2) (vo' := vo') (tmp := .cells #[.int .i64 t] 23) HB1.out HS1'.out HG1.out).2 (by rw [HNO.out]; exact hown2) hg2
  obtain ⟨go, co', rfl⟩ := ownsRow_succ hown2
  have hc2 := hbx2.cell
  have hf2 := hbx2.frozen
  have hcd2 := hsv2.bd.cell
  have HSV : Hid (Ct A w (.slice ad nd cap) (w2.setCell ⟨A.bo, 0, none⟩ (.slice (some ⟨go, 0, none⟩) (no + 1) co')) (o ++ [t])) := Lib.hid ⟨_, hsv2⟩
  have HBL2 := Lib.hid hsv2.below
  have HDW2 : Hid (DsAt (w2.setCell ⟨A.bo, 0, none⟩ (.slice (some ⟨go, 0, none⟩) (no + 1) co')) (.slice ad nd cap) d) := Lib.hid (HDV.out.keep hsv2.below (by rw [HBA.out]; exact Nat.le_refl _))
  clear hg2 hbx2 hsv2 hown2 hgrow2 hnil2 hco hbo1 HRO HG1 HS1 HS1' HI HZ0 HZ1 HZ2 HK
  obtain ⟨p, y, b, off, fa, fc, hxp, hpd, hy, hcons, _, hade, hb, c0, c1, hcs⟩ := typ_at HDW2.out HOK.out h0
  subst hade
  have hys : SmD y := HD.out.2 y (List.mem_of_getElem? hy)
  rw [HND.out] at hpd
  have hn100 : nd ≤ 100 := by rw [← HND.out]; exact HD.out.1
  have hpn : (p : Int) < nd := by omega
  obtain ⟨cs, hcse⟩ : ∃ cs, y.cons = cs := ⟨_, rfl⟩
  have HFE : Hid (Dt.fieldsOf d t = cs.flatMap (·.fields)) := Lib.hid (by unfold Dt.fieldsOf; rw [hcons, hcse])
  have hcl := hys.2.1
  have hcsm := hys.2.2
  rw [hcse] at c1 hcs hcl hcsm
  obtain ⟨q, hq⟩ : ∃ q, cs.length = q := ⟨_, rfl⟩
  rw [hq] at c1 hcs hcl
  have HQ := Lib.hid hq
  have HCSM := Lib.hid hcsm
  have HPT : Hid (t = (p : Int) + 1) := Lib.hid hxp
  have hw1 : wrap64 (t - 1) = p := by rw [HPT.out, show (p : Int) + 1 - 1 = p by omega]; exact wrap_k p (by omega)
  have hw2 : IntKind.i64.wrap (t - 1) = p := by rw [HPT.out, show (p : Int) + 1 - 1 = p by omega]; exact wrap_k' p (by omega)
  -- the rows of the table lie below the call's own blocks
  obtain ⟨p', y', b', off', fa', fc', hxp', hpd', hy', hcons', _, hade', hb', c0', c1', hcs'⟩ := typ_at HDV.out HOK.out h0
  cases hade'
  obtain rfl : p' = p := by omega
  obtain rfl : y' = y := by rw [hy] at hy'; cases hy'; rfl
  rw [hcse] at hcs'
  rw [hq] at hcs'
  have hfa : fa' = fa ∧ fc' = fc := by
    have h1 := (HBL2.out.cell (p := ⟨b, off + p' * 2 + 1, none⟩) (by rw [HBA.out]; exact hb')).trans c1'
    rw [hcse, hq, c1] at h1
    cases h1
    exact ⟨rfl, rfl⟩
  obtain ⟨rfl, rfl⟩ := hfa
  have HCS0 := Lib.hid hcs'
  obtain ⟨F, hF⟩ : ∃ F : List Int → List Int, F = (fun fs => fs.foldl (fun l f => Dt.conF d k f l) (o ++ [t])) := ⟨_, rfl⟩
  have HFF : Hid (∀ fs, (F fs).length + Dt.unmet d (F fs) ≤ 200 ∧ Dt.unmet d (F fs) < k) := Lib.hid (fun fs => by
    have h1 := Dt.cfold_bound (Dt.con_bound d k) fs (o ++ [t])
    have h2 := Dt.cfold_unmet d k fs (o ++ [t])
    have h3 := HUS.out
    have h4 := HUN.out
    have h5 := HOL.out
    have h6 := HNO.out
    rw [List.length_append, List.length_singleton] at h1
    rw [hF]
    dsimp only
    omega)
  have HFS : Hid (∀ fs f, F (fs ++ [f]) = Dt.conF d k f (F fs)) := Lib.hid (fun fs f => by rw [hF]; simp)
  have HF0 : Hid (F [] = o ++ [t]) := Lib.hid (by rw [hF]; rfl)
  have HXF : Hid (F (cs.flatMap (·.fields)) = X) := Lib.hid (by rw [← HX.out, hF, HFE.out])
  have HTF : Hid (∀ c ∈ cs, ∀ f ∈ c.fields, In64 f ∧ Dt.ok d f = true) := Lib.hid (fun c hc f hf => ⟨(HCSM.out c hc).2.2 f hf, Dt.typed_fields HTY.out (t := t) (by rw [HFE.out]; exact List.mem_flatMap.2 ⟨c, hc, hf⟩)⟩)
  rw [← HF0.out] at HSV
  clear hys hcse hq hcs hcsm hy hcons hxp hF HFE hcs' hy' hcons' hpd' c0' c1' hxp' hb' c0 HDW2
  generalize hWW : w2.setCell ⟨A.bo, 0, none⟩ (.slice (some ⟨go, 0, none⟩) (no + 1) co') = W3 at HSV HBL2 c1 hcd2 hb
  refine go_on ?_
  go_wp2
  clear hcd2 c1 hb hw1 hw2
  go_loopw [31] (fun i wr => ∃ c : Nat, c ≤ q ∧ i = .int .i64 c ∧ Hid (Ct A w (.slice (some ⟨b, off, none⟩) nd cap) wr (F ((cs.take c).flatMap (·.fields))))) (fun i _ => q - (intOf i).toNat)
  case atStart => exact ⟨0, Nat.zero_le _, rfl, HSV⟩
  case round =>
    obtain ⟨c, hc, rfl, HCR⟩ := hrel
    have HBR : Hid (Below w.heap.size w wr) := Lib.hid (by obtain ⟨_, h⟩ := HCR.out; rw [← HBA.out]; exact h.below)
    by_cases hlt : c < q
    · have hltz : (c : Int) < (q : Int) := by omega
      have hjl : c < cs.length := by rw [HQ.out]; exact hlt
      obtain ⟨b2, off2, ga, gc, rfl, hb2, e0, e1, hfs⟩ := HCS0.out.at c hjl
      replace e0 := (HBR.out.cell (p := ⟨b2, off2 + c * 2, none⟩) hb2).trans e0
      replace e1 := (HBR.out.cell (p := ⟨b2, off2 + c * 2 + 1, none⟩) hb2).trans e1
      have HTK : Hid ((cs.take (c + 1)).flatMap (·.fields) = (cs.take c).flatMap (·.fields) ++ cs[c].fields) := Lib.hid (by
        rw [← List.take_append_getElem hjl, List.flatMap_append]; simp)
      have HTG : Hid (∀ f ∈ cs[c].fields, In64 f ∧ Dt.ok d f = true) := Lib.hid (HTF.out _ (List.getElem_mem hjl))
      have hzs : SmC cs[c] := HCSM.out _ (List.getElem_mem hjl)
      obtain ⟨fl, hfl⟩ : ∃ fl, cs[c].fields = fl := ⟨_, rfl⟩
      obtain ⟨nm, hnm⟩ : ∃ nm, cs[c].name = nm := ⟨_, rfl⟩
      have hfl1 := hzs.2.1
      rw [hfl] at e1 hfs HTK hfl1 HTG
      rw [hnm] at e0
      obtain ⟨g, hg⟩ : ∃ g, fl.length = g := ⟨_, rfl⟩
      rw [hg] at e1 hfs hfl1
      have HG := Lib.hid hg
      have HFL := Lib.hid hfs
      obtain ⟨pre, hpre⟩ : ∃ pre, (cs.take c).flatMap (·.fields) = pre := ⟨_, rfl⟩
      rw [hpre] at HTK HCR
      have HCR2 : Hid (Ct A w (.slice (some ⟨b, off, none⟩) nd cap) (wr.alloc (.cells #[.string nm, .slice ga g gc] 35)) (F (pre ++ fl.take 0))) := Lib.hid (by
        rw [List.take_zero, List.append_nil]
        exact HCR.out.keep (by rw [HBA.out]; exact HBR.out.size) ((Below.refl _ wr).alloc (Nat.le_refl _) _))
      clear hzs hfl hg hfs hjl hpre hnm
      go_wp2
      clear e0 e1
      go_loopw [38] (fun i wr => ∃ r : Nat, r ≤ g ∧ i = .int .i64 r ∧ Hid (Ct A w (.slice (some ⟨b, off, none⟩) nd cap) wr (F (pre ++ fl.take r)))) (fun i _ => g - (intOf i).toNat)
      case atStart => exact ⟨0, Nat.zero_le _, rfl, HCR2⟩
      case round =>
        obtain ⟨r, hr, rfl, HCI⟩ := hrel
        by_cases hrlt : r < g
        · have hrz : (r : Int) < (g : Int) := by omega
          have hrl : r < fl.length := by rw [HG.out]; exact hrlt
          obtain ⟨b3, off3, rfl, hb3, s0⟩ := HFL.out.at r hrl
          obtain ⟨f, hfe⟩ : ∃ f, fl[r] = f := ⟨_, rfl⟩
          rw [hfe] at s0
          have HTK2 : Hid (pre ++ fl.take (r + 1) = (pre ++ fl.take r) ++ [f]) := Lib.hid (by rw [← hfe, List.append_assoc, List.take_append_getElem hrl])
          have hff := HTG.out f (by rw [← hfe]; exact List.getElem_mem hrl)
          have HCALL := Lib.hid (HIH.out f wr _ hff.1 hff.2 HCI.out (HFF.out _).2 (HFF.out _).1)
          rw [← HFS.out, ← HTK2.out] at HCALL
          obtain ⟨vo3, hs3⟩ := HCI.out
          replace s0 := (hs3.below.cell (p := ⟨b3, off3 + r, none⟩) (by rw [HBA.out]; exact hb3)).trans s0
          have hcc := hs3.bc.cell
          unfold Ac.caps at hcc
          unfold conArgs at HCALL
          clear hfe hrl hs3 hff
          go_wp2_with fail
          refine HCALL.out.mono ?_
          rintro e w' ⟨⟨vv, rfl⟩, hct⟩
          have HCT := Lib.hid hct
          clear hct HCALL s0 hcc
          go_wp2
          go_roundw
          case rel => exact ⟨r + 1, by omega, by go_num, HCT⟩
          case measure => simp [intOf]; omega
        · obtain rfl : g = r := by omega
          have hnn : ¬ (g : Int) < g := by omega
          have HRF : Hid (Ct A w (.slice (some ⟨b, off, none⟩) nd cap) wr (F ((cs.take (c + 1)).flatMap (·.fields)))) := Lib.hid (by
            rw [HTK.out]
            have h := HCI.out
            rw [List.take_of_length_le (by rw [HG.out]; exact Nat.le_refl _)] at h
            exact h)
          go_wp2
          go_roundw
          case rel => exact ⟨c + 1, by omega, by go_num, HRF⟩
          case measure => simp [intOf]; omega
    · obtain rfl : q = c := by omega
      have hnn : ¬ (q : Int) < q := by omega
      have HRF : Hid (Ct A w (.slice (some ⟨b, off, none⟩) nd cap) wr X) := Lib.hid (by
        rw [← HXF.out]
        have h := HCR.out
        rw [List.take_of_length_le (by rw [HQ.out]; exact Nat.le_refl _)] at h
        exact h)
      go_wp2
      go_end0
      exact ⟨⟨_, rfl⟩, HRF.out⟩

theorem con_ok (A : Ac) (hA : A.Good) (w : World) (hbase : A.base = w.heap.size) (d : List DataM) (hd : Sm d) (hty : Dt.typed d = true) (dv : Value) (hdv : DsAt w dv d) : ∀ k, ConOk A w d dv k
  | 0 => fun t W o _ _ _ h => absurd h (Nat.not_lt_zero _)
  | k + 1 => fun t W o ht hok hS hun hol => by
    have ih := con_ok A hA w hbase d hd hty dv hdv k
    obtain ⟨vo, hs⟩ := hS
    by_cases hto : t ∈ o
    · have e : Dt.conF d (k + 1) t o = o := by rw [Dt.conF, if_neg (fun h => h.2 hto)]
      rw [e]
      refine (con_met A w dv t W o vo ht hs hto).mono ?_
      rintro e W' ⟨h, rfl⟩
      exact ⟨h, ⟨vo, hs⟩⟩
    · cases hnf : Dt.nf d t with
      | false =>
        have e : Dt.conF d (k + 1) t o = o := by rw [Dt.conF, if_neg (fun h => by rw [hnf] at h; cases h.1)]
        rw [e]
        have hfl : Dt.flat d t = true := by
          have h1 := Dt.nf_flat hok
          rw [hnf] at h1
          cases hq : Dt.flat d t with
          | true => rfl
          | false => rw [hq] at h1; cases h1
        have hbW : A.base ≤ W.heap.size := by rw [hbase]; exact hs.below.size
        refine (con_flat A w d hd dv t W o vo ht hs hto (hdv.keep hs.below (by rw [hbase]; exact Nat.le_refl _)) hfl).mono ?_
        rintro e W' ⟨h, hb⟩
        exact ⟨h, ⟨vo, hs.keep hbW hb⟩⟩
      | true =>
        have e : Dt.conF d (k + 1) t o = (Dt.fieldsOf d t).foldl (fun l f => Dt.conF d k f l) (o ++ [t]) := by rw [Dt.conF, if_pos ⟨hnf, hto⟩]
        rw [e]
        exact con_new A hA w hbase d hd hty dv hdv k ih t W o ht hok ⟨vo, hs⟩ hun hol hto hnf

end Go.Proofs.Yteidhlfiofiocab
set_option linter.unusedVariables false
set_option linter.unusedSimpArgs false
namespace Go.Proofs.Yteidhlfiofiocab
open Go.RowKit Go.Shelf Go.Maps

set_option maxRecDepth 100000 in
set_option maxHeartbeats 6400000 in
theorem contents_any (v : Value) (d : List DataM) (t : Int) (w : World) (hv : DsAt w v d) (hd : Sm d) (hty : Dt.typed d = true) (ht : In64 t) (hok : Dt.ok d t = true) :
    Calls Try.prog 15 #[v, .int .i64 t] w fun e w' => (∃ u, e = .returned u ∧ FsAt w' u (Dt.contents d t)) ∧ Below w.heap.size w w' := by
  obtain ⟨ad, cap, hvE⟩ := hv.slice
  have hmm := @run_makeMap Try.prog
  have HV := Lib.hid hv
  have HD := Lib.hid hd
  have HT := Lib.hid ht
  have HTY := Lib.hid hty
  have HOK := Lib.hid hok
  generalize d.length = n at hvE
  subst hvE
  clear hv hd ht hty hok
  obtain ⟨W1, hW1⟩ : ∃ W1, W1 = w.alloc (.cells #[.slice ad n cap] 22) := ⟨_, rfl⟩
  obtain ⟨W2, hW2⟩ : ∃ W2, W2 = W1.alloc (.cells #[.slice none 0 0] 33) := ⟨_, rfl⟩
  obtain ⟨W3, hW3⟩ : ∃ W3, W3 = W2.alloc (.map #[] 0) := ⟨_, rfl⟩
  obtain ⟨W4, hW4⟩ : ∃ W4, W4 = W3.alloc (.cells #[.map (some (w.heap.size + 1 + 1))] 65) := ⟨_, rfl⟩
  obtain ⟨W5, hW5⟩ : ∃ W5, W5 = W4.alloc (.cells #[.nilFunc] 66) := ⟨_, rfl⟩
  have s1 : W1.heap.size = w.heap.size + 1 := by rw [hW1]; simp
  have s2 : W2.heap.size = w.heap.size + 1 + 1 := by rw [hW2]; simp [s1]
  have s3 : W3.heap.size = w.heap.size + 1 + 1 + 1 := by rw [hW3]; simp [s2]
  have s4 : W4.heap.size = w.heap.size + 1 + 1 + 1 + 1 := by rw [hW4]; simp [s3]
  have b1 : Boxed W1 w.heap.size 22 (.slice ad n cap) := by rw [hW1]; exact Boxed.new w _ _
  have b2 : Boxed W2 (w.heap.size + 1) 33 (.slice none 0 0) := by rw [hW2, ← s1]; exact Boxed.new W1 _ _
  have b3 : MapSet W3 23 (w.heap.size + 1 + 1) 0 (Dt.keyI []) := by rw [hW3, ← s2]; exact (MapSet.new W2 _).to Dt.keyI_nil
  have b4 : Boxed W4 (w.heap.size + 1 + 1 + 1) 65 (.map (some (w.heap.size + 1 + 1))) := by rw [hW4, ← s3]; exact Boxed.new W3 _ _
  have b5 : Boxed W5 (w.heap.size + 1 + 1 + 1 + 1) 66 .nilFunc := by rw [hW5, ← s4]; exact Boxed.new W4 _ _
  have k5 : ∀ {b t v}, Boxed W4 b t v → Boxed W5 b t v := fun h => by rw [hW5]; exact h.alloc _
  have k4 : ∀ {b t v}, Boxed W3 b t v → Boxed W5 b t v := fun h => k5 (by rw [hW4]; exact h.alloc _)
  have k3 : ∀ {b t v}, Boxed W2 b t v → Boxed W5 b t v := fun h => k4 (by rw [hW3]; exact h.alloc _)
  have k2 : ∀ {b t v}, Boxed W1 b t v → Boxed W5 b t v := fun h => k3 (by rw [hW2]; exact h.alloc _)
  have m5 : MapSet W5 23 (w.heap.size + 1 + 1) 0 (Dt.keyI []) := b3.keep (by rw [hW5, Below.heap_alloc _ _ _ (by omega), hW4, Below.heap_alloc _ _ _ (by omega)])
  have hb5 : Below w.heap.size w W5 := by
    rw [hW5, hW4, hW3, hW2, hW1]
    exact (((((Below.refl w.heap.size w).alloc (Nat.le_refl _) _).alloc (by simp) _).alloc (by simp; omega) _).alloc (by simp; omega) _).alloc (by simp; omega) _
  have c8 := b5.cell
  have f8 := b5.frozen
  obtain ⟨A, hA⟩ : ∃ A : Ac, A = ⟨w.heap.size, w.heap.size, w.heap.size + 1, w.heap.size + 1 + 1, w.heap.size + 1 + 1 + 1, w.heap.size + 1 + 1 + 1 + 1⟩ := ⟨_, rfl⟩
  have hG : A.Good := by rw [hA]; exact ⟨Nat.le_refl _, by show _ < _; simp, by show _ < _; simp, by show _ < _; simp, by show _ < _; simp⟩
  have hst : Ct A w (.slice ad n cap) (W5.setCell ⟨w.heap.size + 1 + 1 + 1 + 1, 0, none⟩ (.func (.func 25) #[] A.caps)) [] := by
    have far : ∀ k, k ≠ w.heap.size + 1 + 1 + 1 + 1 → (W5.setCell ⟨w.heap.size + 1 + 1 + 1 + 1, 0, none⟩ (.func (.func 25) #[] A.caps)).heap[k]? = W5.heap[k]? := fun k hk => Below.heap_setCell _ _ _ k hk
    refine ⟨.slice none 0 0, ?_⟩
    rw [hA] at far ⊢
    exact ⟨hb5.setCell (p := ⟨w.heap.size + 1 + 1 + 1 + 1, 0, none⟩) (by dsimp only; omega) _, (far _ (by dsimp only; omega)).trans (k2 b1), (far _ (by dsimp only; omega)).trans (k5 b4), b5.set _, m5.keep (far _ (by first | omega | (dsimp only; omega))), (far _ (by dsimp only; omega)).trans (k3 b2), World.ownsRow_nil _ _ _ _⟩
  have hum := Dt.unmet_le d []
  have hd1 := HD.out.1
  have HCALL := Lib.hid (con_ok A hG w (by rw [hA]) d HD.out HTY.out (.slice ad n cap) HV.out 150 t _ [] HT.out HOK.out hst (by omega) (by simp; omega))
  rw [hA] at HCALL
  unfold conArgs Ac.caps at HCALL
  dsimp only at HCALL
  have hrun : Sem.run Try.prog (store ⟨w.heap.size + 1 + 1 + 1 + 1, 0, none⟩ (.func (.func 25) #[] #[.pointer (some ⟨w.heap.size + 1 + 1 + 1, 0, none⟩), .pointer (some ⟨w.heap.size, 0, none⟩), .pointer (some ⟨w.heap.size + 1, 0, none⟩), .pointer (some ⟨w.heap.size + 1 + 1 + 1 + 1, 0, none⟩)])) W5 = .ok () (W5.setCell ⟨w.heap.size + 1 + 1 + 1 + 1, 0, none⟩ (.func (.func 25) #[] #[.pointer (some ⟨w.heap.size + 1 + 1 + 1, 0, none⟩), .pointer (some ⟨w.heap.size, 0, none⟩), .pointer (some ⟨w.heap.size + 1, 0, none⟩), .pointer (some ⟨w.heap.size + 1 + 1 + 1 + 1, 0, none⟩)])) := by
    rw [run_store _ _ _ _ _ rfl, c8, f8]
    rfl
  have c10 := (b5.set (.func (.func 25) #[] #[.pointer (some ⟨w.heap.size + 1 + 1 + 1, 0, none⟩), .pointer (some ⟨w.heap.size, 0, none⟩), .pointer (some ⟨w.heap.size + 1, 0, none⟩), .pointer (some ⟨w.heap.size + 1 + 1 + 1 + 1, 0, none⟩)])).cell
  have hch := hW5
  rw [hW4, hW3, hW2, hW1] at hch
  replace hch := hch.symm
  clear hW1 hW2 hW3 hW4 hW5 s1 s2 s3 s4 b1 b2 b3 b4 b5 k2 k3 k4 k5 m5 hb5 hst hum hd1
  go_enter Try.func15, Try.ntmps15
  go_wp2_with fail
  refine HCALL.out.mono ?_
  rintro e W7 ⟨⟨vv, rfl⟩, vo, hs7⟩
  have HFS : Hid (FsAt W7 vo (Dt.contents d t)) := Lib.hid (row_of_types hs7.row)
  have HB7 := Lib.hid hs7.below
  obtain ⟨ao, co, rfl⟩ := hs7.slice
  have c9 := hs7.box.cell
  dsimp only at c9
  clear hs7 c8 f8 c10 hrun
  go_wp2
  go_ret
  exact ⟨⟨_, rfl, HFS.out⟩, HB7.out⟩

/-- A row of places. -/
def PsAt (w : World) (v : Value) (l : List (Int × Int)) : Prop :=
  ∃ ad n cap, v = .slice ad n cap ∧ n = l.length ∧ (n = 0 ∨ ∃ b off, ad = some ⟨b, off, none⟩ ∧ b < w.heap.size ∧ ∀ (i : Nat) (h : i < l.length), w.cell? ⟨b, off + i * 2, none⟩ = some (.int .i64 l[i].1) ∧ w.cell? ⟨b, off + i * 2 + 1, none⟩ = some (.int .i64 l[i].2))
theorem PsAt.keep {w w' : World} {v : Value} {l : List (Int × Int)} {B : Nat} (h : PsAt w v l) (hb : Below B w w') (hB : w.heap.size ≤ B) : PsAt w' v l := by
  obtain ⟨ad, n, cap, rfl, hn, h⟩ := h
  refine ⟨ad, n, cap, rfl, hn, ?_⟩
  rcases h with h | ⟨b, off, rfl, h1, h2⟩
  · exact .inl h
  · refine .inr ⟨b, off, rfl, Nat.lt_of_lt_of_le h1 hb.size, fun i hi => ?_⟩
    obtain ⟨e1, e2⟩ := h2 i hi
    exact ⟨(hb.cell (p := ⟨b, off + i * 2, none⟩) (Nat.lt_of_lt_of_le h1 hB)).trans e1, (hb.cell (p := ⟨b, off + i * 2 + 1, none⟩) (Nat.lt_of_lt_of_le h1 hB)).trans e2⟩
theorem PsAt.slice {w : World} {v : Value} {l : List (Int × Int)} (h : PsAt w v l) : ∃ ad cap, v = .slice ad l.length cap := by
  obtain ⟨ad, n, cap, rfl, rfl, _⟩ := h; exact ⟨ad, cap, rfl⟩
theorem PsAt.nil (w : World) : PsAt w (.slice none 0 0) [] := ⟨_, _, _, rfl, rfl, .inl rfl⟩
theorem PsAt.at {w : World} {ad : Option Addr} {n cap : Nat} {l : List (Int × Int)} (h : PsAt w (.slice ad n cap) l) (i : Nat) (hi : i < l.length) : ∃ b off, ad = some ⟨b, off, none⟩ ∧ b < w.heap.size ∧ w.cell? ⟨b, off + i * 2, none⟩ = some (.int .i64 l[i].1) ∧ w.cell? ⟨b, off + i * 2 + 1, none⟩ = some (.int .i64 l[i].2) := by
  obtain ⟨ad', n', cap', e, hn, h⟩ := h
  cases e
  rcases h with h | ⟨b, off, rfl, h1, h2⟩
  · omega
  · obtain ⟨e1, e2⟩ := h2 i hi
    exact ⟨b, off, rfl, h1, e1, e2⟩

/-- A row of places of the call's own. -/
def pcells (l : List (Int × Int)) : List Value := l.flatMap (fun p => [.int .i64 p.1, .int .i64 p.2])
theorem pcells_snoc (l : List (Int × Int)) (p : Int × Int) : pcells (l ++ [p]) = pcells l ++ [.int .i64 p.1, .int .i64 p.2] := by simp [pcells]
theorem pcells_at : ∀ (l : List (Int × Int)) (i : Nat) (h : i < l.length), (pcells l)[i * 2]? = some (.int .i64 l[i].1) ∧ (pcells l)[i * 2 + 1]? = some (.int .i64 l[i].2)
  | [], i, h => absurd h (Nat.not_lt_zero _)
  | p :: l, 0, h => by simp [pcells]
  | p :: l, i + 1, h => by
    have ih := pcells_at l i (by simpa using h)
    have e : pcells (p :: l) = .int .i64 p.1 :: .int .i64 p.2 :: pcells l := by simp [pcells]
    rw [e, show (i + 1) * 2 = i * 2 + 1 + 1 by omega, show i * 2 + 1 + 1 + 1 = (i * 2 + 1) + 1 + 1 by omega]
    simpa using ih
def Pw (B : Nat) (W : World) (v : Value) (l : List (Int × Int)) : Prop := W.ownsRow B 46 2 v l.length (pcells l)
theorem infoPlace : (Try.prog.info? 46).map (fun i => (i.zero, i.size, i.bytes)) = some (some (.agg #[.int .i64 0, .int .i64 0]), 2, 16) := by kernel_rfl
theorem Pw.places {B : Nat} {W : World} {v : Value} {l : List (Int × Int)} (h : Pw B W v l) : PsAt W v l := by
  rcases h.2 with ⟨hv, h0⟩ | ⟨g, cap, cur, hv, hg, hgb, hnc, hcm, hcs, htk⟩
  · obtain rfl := List.length_eq_zero_iff.1 h0
    rw [hv]; exact PsAt.nil W
  · refine ⟨_, _, _, hv, rfl, .inr ⟨g, 0, rfl, (Array.getElem?_eq_some_iff.1 hgb).1, fun i hi => ?_⟩⟩
    obtain ⟨e1, e2⟩ := pcells_at l i hi
    rw [← htk, List.getElem?_take_of_lt (by omega)] at e1 e2
    simp only [World.cell?, hgb, Nat.zero_add]
    exact ⟨by simpa using e1, by simpa using e2⟩
theorem Pw.slice {B : Nat} {W : World} {v : Value} {l : List (Int × Int)} (h : Pw B W v l) : ∃ a c, v = .slice a l.length c := h.places.slice

end Go.Proofs.Yteidhlfiofiocab
set_option linter.unusedVariables false
set_option linter.unusedSimpArgs false
namespace Go.Proofs.Yteidhlfiofiocab
open Go.RowKit Go.Shelf Go.Maps

theorem cell_two_new (w : World) (x y : Value) (T : TypeId) : ∀ (j : Nat) (u : Value), [x, y][j]? = some u → (w.alloc (.cells #[x, y] T)).cell? ((⟨w.heap.size, 0, none⟩ : Addr).add j) = some u := by
  intro j u hj
  match j, hj with
  | 0, hj => simp at hj; subst hj; simp [Addr.add]
  | 1, hj => simp at hj; subst hj; simp [Addr.add]

theorem Dt.places_few {d : List DataM} (hd : Sm d) (t : Int) : (Dt.places d t).length ≤ 10100 := by
  have h1 := Dt.placesL_length (d := d) (fun t => consOf_length hd t) (Dt.contents d t)
  have h2 := Dt.contents_length hd t
  unfold Dt.places
  omega
theorem Dt.placesC_at (d : List DataM) (c : Int) (k : Nat) (h : k < (Dt.placesC d c).length) : (Dt.placesC d c)[k] = (c, (k : Int)) := by simp [Dt.placesC]

set_option maxRecDepth 100000 in
set_option maxHeartbeats 12800000 in
theorem places_any (v : Value) (d : List DataM) (t : Int) (w : World) (hv : DsAt w v d) (hd : Sm d) (hty : Dt.typed d = true) (ht : In64 t) (hok : Dt.ok d t = true) :
    Calls Try.prog 10 #[v, .int .i64 t] w fun e w' => (∃ u, e = .returned u ∧ PsAt w' u (Dt.places d t)) ∧ Below w.heap.size w w' := by
  have HC := Lib.hid (contents_any v d t w hv hd hty ht hok)
  obtain ⟨ad, cap, hvE⟩ := hv.slice
  obtain ⟨n, hn⟩ : ∃ n, d.length = n := ⟨_, rfl⟩
  rw [hn] at hvE
  subst hvE
  have HV := Lib.hid hv
  have HN := Lib.hid hn
  have HD := Lib.hid hd
  have hn100 : n ≤ 100 := by rw [← hn]; exact hd.1
  have hLl := Dt.contents_length hd t
  have HNF : Hid (∀ x ∈ Dt.contents d t, Dt.nf d x = true) := Lib.hid fun x hx => Dt.contents_nf hx
  obtain ⟨X, hX⟩ : ∃ X, Dt.places d t = X := ⟨_, rfl⟩
  rw [hX]
  have HX : Hid (Dt.placesL d (Dt.contents d t) = X) := Lib.hid hX
  generalize Dt.contents d t = L at HC hLl HNF HX
  obtain ⟨m, hm⟩ : ∃ m, L.length = m := ⟨_, rfl⟩
  rw [hm] at hLl
  have HM := Lib.hid hm
  have HPL : Hid (∀ c : Nat, (Dt.placesL d (L.take c)).length ≤ 10100) := Lib.hid (fun c => by
    have h1 := Dt.placesL_length (d := d) (fun t => consOf_length hd t) (L.take c)
    rw [List.length_take] at h1
    omega)
  obtain ⟨i0, hi, hz0, hz1, hz2⟩ := info_parts infoPlace
  have HI := Lib.hid hi
  have HZ0 := Lib.hid hz0
  have HZ1 := Lib.hid hz1
  have HZ2 := Lib.hid hz2
  clear hv hd hty ht hok hn hX hm hi hz0 hz1 hz2
  go_enter Try.func10, Try.ntmps10
  go_wp2_with fail
  refine HC.out.mono ?_
  rintro e w1 ⟨⟨u, rfl, hu⟩, hb⟩
  obtain ⟨ua, uc, rfl⟩ := hu.slice
  rw [HM.out] at hu ⊢
  have HU := Lib.hid hu
  have HB1 := Lib.hid hb
  have HV1 := Lib.hid (HV.out.keep hb (Nat.le_refl _))
  have HR0 : Hid (Pw w1.heap.size w1 (.slice none 0 0) (Dt.placesL d (L.take 0))) := Lib.hid (World.ownsRow_nil _ _ _ _)
  clear hu hb HC
  go_wp2
  go_loopw [5, 13] (fun v i wr => ∃ c : Nat, c ≤ m ∧ i = .int .i64 c ∧ Hid (Pw w1.heap.size wr v (Dt.placesL d (L.take c))) ∧ Hid (Below w1.heap.size w1 wr)) (fun _ i _ => m - (intOf i).toNat)
  case atStart => exact ⟨0, Nat.zero_le _, rfl, HR0, Lib.hid (Below.refl _ _)⟩
  case round =>
    obtain ⟨c, hc, rfl, HR, HBR⟩ := hrel
    by_cases hlt : c < m
    · have hltz : (c : Int) < (m : Int) := by omega
      have hcl : c < L.length := by rw [HM.out]; exact hlt
      obtain ⟨lb, lo, rfl, hlb, l0⟩ := HU.out.at c hcl
      replace l0 := (HBR.out.cell (p := ⟨lb, lo + c, none⟩) hlb).trans l0
      obtain ⟨x, hx⟩ : ∃ x, L[c] = x := ⟨_, rfl⟩
      rw [hx] at l0
      have hxnf := HNF.out x (by rw [← hx]; exact List.getElem_mem hcl)
      have hxok := Dt.nf_ok hxnf
      have hx0 : x ≠ 0 := by intro h; subst h; simp [Dt.nf, Dt.consOf] at hxnf
      have HTK : Hid (Dt.placesL d (L.take (c + 1)) = Dt.placesL d (L.take c) ++ Dt.placesC d x) := Lib.hid (by rw [← List.take_append_getElem hcl, Dt.placesL_snoc, hx])
      obtain ⟨p, y, b, off, fa, fc, hxp, hpd, hy, hcons, _, hade, hb, c0, c1, hcs⟩ := typ_at (HV1.out.keep HBR.out (Nat.le_refl _)) hxok hx0
      subst hade
      rw [HN.out] at hpd
      have hpn : (p : Int) < n := by omega
      obtain ⟨q, hq⟩ : ∃ q, y.cons.length = q := ⟨_, rfl⟩
      rw [hq] at c1
      have hpl : (Dt.placesC d x).length = q := by rw [Dt.placesC_length, hcons, hq]
      have hql : q ≤ 100 := by rw [← hq]; exact (HD.out.2 y (List.mem_of_getElem? hy)).2.1
      have HPL2 := Lib.hid hpl
      have hw1 : wrap64 (x - 1) = p := by rw [hxp, show (p : Int) + 1 - 1 = p by omega]; exact wrap_k p (by omega)
      have hw2 : IntKind.i64.wrap (x - 1) = p := by rw [hxp, show (p : Int) + 1 - 1 = p by omega]; exact wrap_k' p (by omega)
      have hpre := HPL.out c
      obtain ⟨pre, hpe⟩ : ∃ pre, Dt.placesL d (L.take c) = pre := ⟨_, rfl⟩
      rw [hpe] at HTK HR hpre
      have HRI : Hid (Pw w1.heap.size wr u5 (pre ++ (Dt.placesC d x).take 0)) := Lib.hid (by rw [List.take_zero, List.append_nil]; exact HR.out)
      clear hx hxnf hxok hx0 hxp hy hcons hcs hq hpl hpe hcl c0 hb
      go_wp2
      clear l0 c1 hw1 hw2
      go_loopw [5, 24] (fun v i wr => ∃ k : Nat, k ≤ q ∧ i = .int .i64 k ∧ Hid (Pw w1.heap.size wr v (pre ++ (Dt.placesC d x).take k)) ∧ Hid (Below w1.heap.size w1 wr)) (fun _ i _ => q - (intOf i).toNat)
      case atStart => exact ⟨0, Nat.zero_le _, rfl, HRI, HBR⟩
      case round =>
        obtain ⟨k, hk, rfl, HRK, HBK⟩ := hrel
        by_cases hkl : k < q
        · have hkz : (k : Int) < (q : Int) := by omega
          have hkp : k < (Dt.placesC d x).length := by rw [HPL2.out]; exact hkl
          have HTK2 : Hid (pre ++ (Dt.placesC d x).take (k + 1) = (pre ++ (Dt.placesC d x).take k) ++ [(x, (k : Int))]) := Lib.hid (by
            rw [List.append_assoc, ← List.take_append_getElem hkp, Dt.placesC_at])
          have hnow : (pre ++ (Dt.placesC d x).take k).length ≤ 20000 := by
            rw [List.length_append, List.length_take, HPL2.out]; omega
          generalize pre ++ (Dt.placesC d x).take k = now at HRK HTK2 hnow
          obtain ⟨va, vc, rfl⟩ := HRK.out.slice
          obtain ⟨z, hz⟩ : ∃ z, now.length = z := ⟨_, rfl⟩
          have HRW : Hid (wr.ownsRow w1.heap.size 46 2 (.slice va z vc) z (pcells now)) := Lib.hid (by have h := HRK.out; unfold Pw at h; rw [hz] at h; exact h)
          have hszW := HBK.out.size
          rw [hz] at hnow ⊢
          have HZN := Lib.hid hz
          clear hz hkp
          go_wp2_with (first | (at_builtin; refine wpList_append_own _ rfl _ _ 41 rfl w1.heap.size 46 i0 (.agg #[.int .i64 0, .int .i64 0]) 2 16 Try.underlying41 HI.out HZ0.out HZ1.out HZ2.out rfl (by decide) _ _ _ rfl (HRW.out.alloc _) ⟨wr.heap.size, 0, none⟩ 1 1 [.int .i64 x, .int .i64 k] rfl rfl (cell_two_new _ _ _ _) (by intro u hu; simp at hu; rcases hu with rfl | rfl <;> rfl) (by unfold maxLen; omega) (by omega) (by simp; omega) ?_; intro v2 w2 hown2 hgrow2 hnil2; refine hold ?_))
          have hB2 : Below w1.heap.size w1 w2 := (HBK.out.alloc hszW _).grown hgrow2 (by simp; omega) (fun g hg => (HRW.out.lt g hg).1)
          have hR2 : Pw w1.heap.size w2 v2 (now ++ [(x, (k : Int))]) := by
            unfold Pw
            rw [pcells_snoc, List.length_append, HZN.out]
            exact hown2
          have HB2 := Lib.hid hB2
          have HR2 := Lib.hid hR2
          clear hown2 hgrow2 hnil2 hB2 hR2
          refine go_on ?_
          go_wp2
          go_roundw
          case rel => exact ⟨k + 1, by omega, by go_num, Lib.hid (by rw [HTK2.out]; exact HR2.out), HB2⟩
          case measure => simp [intOf]; omega
        · obtain rfl : q = k := by omega
          have hnn : ¬ (q : Int) < q := by omega
          have HRF : Hid (Pw w1.heap.size wr u5 (Dt.placesL d (L.take (c + 1)))) := Lib.hid (by
            rw [HTK.out]
            have h := HRK.out
            rw [List.take_of_length_le (by rw [HPL2.out]; exact Nat.le_refl _)] at h
            exact h)
          go_wp2
          go_roundw
          case rel => exact ⟨c + 1, by omega, by go_num, HRF, HBK⟩
          case measure => simp [intOf]; omega
    · obtain rfl : m = c := by omega
      have hnn : ¬ (m : Int) < m := by omega
      have HRF : Hid (PsAt wr u5 X) := Lib.hid (by
        rw [← HX.out]
        have h := HR.out
        rw [List.take_of_length_le (by rw [HM.out]; exact Nat.le_refl _)] at h
        exact h.places)
      have HBF := Lib.hid (HB1.out.trans (HBR.out.mono HB1.out.size))
      go_wp2
      go_ret
      exact ⟨⟨_, rfl, HRF.out⟩, HBF.out⟩

theorem eCheck1 : ∀ args w, (callFunc 14 args).run Try.prog w = .ok (.enter 14 args) w := enters_of Try.func14 (by kernel_rfl) rfl

set_option maxRecDepth 100000 in
set_option maxHeartbeats 1600000 in
theorem check1_any (x : Int) (d : List DataM) (ad : Option Addr) (n cap b : Nat) (W : World) (hn : Hid (d.length = n)) (hc : W.cell? ⟨b, 0, none⟩ = some (.slice ad n cap)) :
    Calls Try.prog 14 #[.int .i64 x, .pointer (some ⟨b, 0, none⟩)] W fun e w' => e = .returned (.bool (!(Dt.ok d x))) ∧ w' = W := by
  obtain ⟨r, hr⟩ : ∃ r, (!(Dt.ok d x)) = r := ⟨_, rfl⟩
  rw [hr]
  unfold Dt.ok at hr
  rw [hn.out] at hr
  clear hn
  by_cases h1 : x < 0
  · obtain rfl : r = true := by rw [← hr]; simp; omega
    clear hr
    go_enter Try.func14, Try.ntmps14
    go_wp2
    all_goals first | (exfalso; omega) | (go_ret; exact ⟨rfl, rfl⟩)
  · by_cases h2 : (n : Int) < x
    · obtain rfl : r = true := by rw [← hr]; simp; omega
      clear hr
      go_enter Try.func14, Try.ntmps14
      go_wp2
      all_goals first | (exfalso; omega) | (go_ret; exact ⟨rfl, rfl⟩)
    · obtain rfl : r = false := by rw [← hr]; simp; omega
      clear hr
      go_enter Try.func14, Try.ntmps14
      go_wp2
      all_goals first | (exfalso; omega) | (go_ret; exact ⟨rfl, rfl⟩)

/-- The error that shape finds at a table and types of it. -/
noncomputable def Dt.shErr (d : List DataM) (ts : List Int) : Int := if Dt.check d = 0 then (if ts.any (fun t => !(Dt.ok d t)) then 2 else 0) else 3
theorem Dt.shErr_zero {d : List DataM} {ts : List Int} (h : Dt.shErr d ts = 0) : Dt.check d = 0 ∧ ∀ t ∈ ts, Dt.ok d t = true := by
  unfold Dt.shErr at h
  split at h
  next h1 =>
    refine ⟨h1, fun t ht => ?_⟩
    split at h
    · omega
    next h2 =>
      cases hq : Dt.ok d t with
      | true => rfl
      | false => exact absurd (List.any_eq_true.2 ⟨t, ht, by rw [hq]; rfl⟩) h2
  next => omega
theorem Dt.shErr_range (d : List DataM) (ts : List Int) : 0 ≤ Dt.shErr d ts ∧ Dt.shErr d ts ≤ 3 := by
  unfold Dt.shErr
  repeat' split
  all_goals omega

set_option maxRecDepth 100000 in
set_option maxHeartbeats 3200000 in
theorem shCheck_any (v tv : Value) (d : List DataM) (ts : List Int) (E : Int) (w : World) (hv : DsAt w v d) (hts : FsAt w tv ts) (hd : Sm d) (hl : ts.length ≤ 1000) (hE : Hid (Dt.shErr d ts = E)) :
    Calls Try.prog 9 #[v, tv] w fun e w' => e = .returned (.int .i64 E) ∧ Below w.heap.size w w' := by
  obtain ⟨ad, cap, hvE⟩ := hv.slice
  obtain ⟨ta, tc, htE⟩ := hts.slice
  have HV := Lib.hid hv
  have HTS := Lib.hid hts
  have HD := Lib.hid hd
  obtain ⟨n, hn⟩ : ∃ n, d.length = n := ⟨_, rfl⟩
  obtain ⟨m, hm⟩ : ∃ m, ts.length = m := ⟨_, rfl⟩
  rw [hn] at hvE
  rw [hm] at htE
  have HN := Lib.hid hn
  subst hvE htE
  have hA := (Below.refl w.heap.size w).alloc (Nat.le_refl _) (.cells #[.slice ad n cap] 22)
  have HA := Lib.hid hA
  have HCK := Lib.hid (Check_any _ d (w.alloc (.cells #[.slice ad n cap] 22)) (hv.keep hA (Nat.le_refl _)) hd)
  have HBX : Hid (Boxed (w.alloc (.cells #[.slice ad n cap] 22)) w.heap.size 22 (.slice ad n cap)) := Lib.hid (Boxed.new w _ _)
  obtain ⟨c, hc⟩ : ∃ c, Dt.check d = c := ⟨_, rfl⟩
  rw [hc] at HCK
  have h := hE.out
  unfold Dt.shErr at h
  rw [hc] at h
  have hml : ts.length ≤ 1000 := hl
  clear hv hts hd hn hm hA hc hE hl
  by_cases hc0 : c = 0
  · subst hc0
    obtain ⟨r, hr⟩ : ∃ r, ts.any (fun t => !(Dt.ok d t)) = r := ⟨_, rfl⟩
    rw [hr, if_pos rfl] at h
    have HR := Lib.hid hr
    clear hr
    go_enter Try.func9, Try.ntmps9
    go_wp2_with fail
    refine HCK.out.mono ?_
    rintro e w1 ⟨rfl, hb⟩
    have HB1 := Lib.hid (HA.out.trans (hb.mono HA.out.size))
    have hlt : w.heap.size < (w.alloc (.cells #[.slice ad n cap] 22)).heap.size := by simp
    have hcb := (hb.cell (p := ⟨w.heap.size, 0, none⟩) hlt).trans HBX.out.cell
    have hlt1 : w.heap.size < w1.heap.size := Nat.lt_of_lt_of_le hlt hb.size
    have HCF := Lib.hid (containsF 14 #[.pointer (some ⟨w.heap.size, 0, none⟩)] (fun t => !(Dt.ok d t)) (.slice ta m tc) ts r w1 eCheck1 (fun W x hx hW => (check1_any x d ad n cap w.heap.size W HN.out (by exact (hW.cell (p := ⟨w.heap.size, 0, none⟩) hlt1).trans hcb)).mono fun e w' h => ⟨h.1, by rw [h.2]; exact hW⟩) (HTS.out.keep HB1.out (Nat.le_refl _)) (by omega) HR)
    clear hb hlt hcb hlt1
    go_wp2_with fail
    refine HCF.out.mono ?_
    rintro e w2 ⟨rfl, hb⟩
    have HB2 := Lib.hid (HB1.out.trans (hb.mono HB1.out.size))
    clear hb HCF HCK
    cases r with
    | true =>
      simp only [if_true] at h
      subst h
      go_wp2
      go_ret
      exact ⟨rfl, HB2.out⟩
    | false =>
      simp only [Bool.false_eq_true, if_false] at h
      subst h
      go_wp2
      go_ret
      exact ⟨rfl, HB2.out⟩
  · rw [if_neg hc0] at h
    subst h
    have hne : (c == 0) = false := by simpa using hc0
    have hne2 : (c != 0) = true := by simpa using hc0
    clear hc0
    go_enter Try.func9, Try.ntmps9
    go_wp2_with fail
    refine HCK.out.mono ?_
    rintro e w1 ⟨rfl, hb⟩
    have HB1 := Lib.hid (HA.out.trans (hb.mono HA.out.size))
    clear hb HCK
    go_wp2
    go_ret
    exact ⟨rfl, HB1.out⟩

end Go.Proofs.Yteidhlfiofiocab
