/- A region that draws its order, of two chains of operations: every order of them, by the states between. And the states of the two tables of DatasEndless. -/
import Derived.Test.YtphlokjhfbfogaaYX
import Derived.Test.YtphlokjhfbfogaaZEO
set_option linter.unusedVariables false
set_option linter.unusedSimpArgs false
namespace Go.Proofs.Ytphlokjhfbfogaa
open Go.RowKit Go.Shelf

theorem lattice {P : Program} {md : Region.Mode} {ops : Array Oper} {Q : Exit → Act → World → Prop} {S : World → Prop} {m : Nat} (F : Nat → Nat → Act → World → Prop) (L : Nat → Nat → Array Bool) (α β : Nat → Nat) (M N k : Nat)
    (hrd : ∀ p q, p ≤ M → q ≤ N → ¬ (p = M ∧ q = N) → Region.ready md ops (L p q) ≠ [] ∧ ∀ i ∈ Region.ready md ops (L p q), (p < M ∧ i = α p ∧ (L p q).setIfInBounds i true = L (p + 1) q) ∨ (q < N ∧ i = β q ∧ (L p q).setIfInBounds i true = L p (q + 1)))
    (hA : ∀ p q a w, p < M → q ≤ N → F p q a w → wpOp P ops Q (α p) (fun a' w' => S w' ∧ F (p + 1) q a' w') a w)
    (hB : ∀ p q a w, p ≤ M → q < N → F p q a w → wpOp P ops Q (β q) (fun a' w' => S w' ∧ F p (q + 1) a' w') a w)
    (hend : ∀ a w, F M N a w → wpAnyX P md ops Q S m k (L M N) a w) :
    ∀ r p q, p ≤ M → q ≤ N → r = (M - p) + (N - q) → ∀ a w, F p q a w → wpAnyX P md ops Q S m (k + r) (L p q) a w := by
  intro r
  induction r with
  | zero =>
    intro p q hp hq hr a w hF
    obtain rfl : p = M := by omega
    obtain rfl : q = N := by omega
    exact hend a w hF
  | succ r ih =>
    intro p q hp hq hr a w hF
    have h := hrd p q hp hq (by omega)
    refine ⟨fun h0 => absurd h0 h.1, fun i hi => ?_⟩
    rcases h.2 i hi with ⟨h1, rfl, h3⟩ | ⟨h1, rfl, h3⟩
    · refine wpOp_mono (fun a' w' hh => ⟨fun _ => hh.1, ?_⟩) (hA p q a w h1 hq hF)
      rw [h3]
      exact ih (p + 1) q (by omega) hq (by omega) a' w' hh.2
    · refine wpOp_mono (fun a' w' hh => ⟨fun _ => hh.1, ?_⟩) (hB p q a w hp h1 hF)
      rw [h3]
      exact ih p (q + 1) hp (by omega) (by omega) a' w' hh.2

def rgA (n : Nat) (L : List Value) : Nat → Value → Value → Option (Nat × List Value × Value)
  | 0, _, _ => none
  | 1, x1, _ => some (0, [], x1)
  | _, _, x2 => some (n, L, x2)
def rgCon (cc : Array Value) : Obj := .cells cc 34
def rgDat (g2 k : Nat) : Obj := .cells #[.string ⟨#[69, 110, 100, 108, 101, 115, 115]⟩, .slice (some ⟨g2, 0, none⟩) k k] 37
def rgC (k : Nat) (cc : Array Value) : Nat → Nat → Nat → List (Nat × Obj)
  | 0, _, _ => []
  | 1, g2, _ => [(g2, rgCon cc)]
  | 2, g2, _ => [(g2, rgCon cc)]
  | _, g2, g3 => [(g3, rgDat g2 k), (g2, rgCon cc)]
def rgT (t : Array Value) (s1 s2 s3 s4 s5 k : Nat) : Nat → Nat → Value → Value → Nat → Nat → Array Value
  | p, q, x1, x2, g2, g3 =>
    let u1 := match p with
      | 0 => t
      | 1 => t.setIfInBounds s1 x1
      | _ => (t.setIfInBounds s1 x1).setIfInBounds s2 x2
    match q with
      | 0 => u1
      | 1 => u1.setIfInBounds s3 (.slice (some ⟨g2, 0, none⟩) k k)
      | 2 => (u1.setIfInBounds s3 (.slice (some ⟨g2, 0, none⟩) k k)).setIfInBounds s4 (.agg #[.string ⟨#[69, 110, 100, 108, 101, 115, 115]⟩, .slice (some ⟨g2, 0, none⟩) k k])
      | _ => ((u1.setIfInBounds s3 (.slice (some ⟨g2, 0, none⟩) k k)).setIfInBounds s4 (.agg #[.string ⟨#[69, 110, 100, 108, 101, 115, 115]⟩, .slice (some ⟨g2, 0, none⟩) k k])).setIfInBounds s5 (.slice (some ⟨g3, 0, none⟩) 1 1)
def rgF (B : Nat) (w0 : World) (n : Nat) (L : List Value) (cc : Array Value) (k : Nat) (t : Array Value) (s1 s2 s3 s4 s5 : Nat) (p q : Nat) (a : Act) (w : World) : Prop :=
  ∃ x1 x2 g2 g3, a = ⟨rgT t s1 s2 s3 s4 s5 k p q x1 x2 g2 g3, []⟩ ∧ Rg B w0 w (rgA n L p x1 x2) (rgC k cc q g2 g3)

theorem cell_at {W : World} {g i : Nat} {cur : Array Value} {t : TypeId} {u : Value} (h : W.heap[g]? = some (.cells cur t)) (hu : cur[i]? = some u) : W.cell? ⟨g, i, none⟩ = some u := by
  simp only [World.cell?, h]
  simpa using hu
theorem lt_of {W : World} {g : Nat} {o : Obj} (h : W.heap[g]? = some o) : g < W.heap.size := (Array.getElem?_eq_some_iff.1 h).1
theorem more_fields {W : World} {fb n : Nat} (h : W.heap[fb]? = some (.cells #[.int .i64 0, .int .i64 ((n : Int) + 1)] 27)) : FsAt W (.slice (some ⟨fb, 0, none⟩) 2 2) (Dt.moreC n).fields := by
  refine ⟨_, _, _, rfl, rfl, .inr ⟨fb, 0, rfl, lt_of h, fun i hi => ?_⟩⟩
  obtain rfl | rfl : i = 0 ∨ i = 1 := by
    have : i < 2 := hi
    omega
  · exact cell_at h rfl
  · exact cell_at h rfl
theorem cons_x {W : World} {fb g n : Nat} (hf : W.heap[fb]? = some (.cells #[.int .i64 0, .int .i64 ((n : Int) + 1)] 27)) (hg : W.heap[g]? = some (rgCon #[.string ⟨#[77, 111, 114, 101]⟩, .slice (some ⟨fb, 0, none⟩) 2 2])) :
    CsAt W (.slice (some ⟨g, 0, none⟩) 1 1) [Dt.moreC n] := by
  refine ⟨_, _, _, rfl, rfl, .inr ⟨g, 0, rfl, lt_of hg, fun i hi => ?_⟩⟩
  obtain rfl : i = 0 := by
    have : i < 1 := hi
    omega
  exact ⟨cell_at hg rfl, _, cell_at hg rfl, more_fields hf⟩
theorem cons_y {W : World} {fb g n : Nat} (hf : W.heap[fb]? = some (.cells #[.int .i64 0, .int .i64 ((n : Int) + 1)] 27)) (hg : W.heap[g]? = some (rgCon #[.string ⟨#[77, 111, 114, 101]⟩, .slice (some ⟨fb, 0, none⟩) 2 2, .string ⟨#[83, 116, 111, 112]⟩, .slice none 0 0])) :
    CsAt W (.slice (some ⟨g, 0, none⟩) 2 2) [Dt.moreC n, Dt.stopC] := by
  refine ⟨_, _, _, rfl, rfl, .inr ⟨g, 0, rfl, lt_of hg, fun i hi => ?_⟩⟩
  obtain rfl | rfl : i = 0 ∨ i = 1 := by
    have : i < 2 := hi
    omega
  · exact ⟨cell_at hg rfl, _, cell_at hg rfl, more_fields hf⟩
  · exact ⟨cell_at hg rfl, _, cell_at hg rfl, FsAt.nil W⟩
theorem sm_more {n : Nat} (hn : n < 64) : SmC (Dt.moreC n) := by
  refine ⟨(by show (4:Nat) ≤ 200; decide), (by show (2:Nat) ≤ 100; decide), fun t ht => ?_⟩
  unfold In64
  simp [Dt.moreC] at ht
  omega
theorem sm_app {d : List DataM} {e : DataM} (h : Sm d) (hn : d.length < 64) (he : SmD e) : Sm (d ++ [e]) := by
  refine ⟨by simp; omega, fun x hx => ?_⟩
  rcases List.mem_append.1 hx with hx | hx
  · exact h.2 x hx
  · obtain rfl : x = e := by simpa using hx
    exact he
theorem sm_x {n : Nat} (hn : n < 64) : SmD (Dt.endX n) := by
  refine ⟨(by show (7:Nat) ≤ 200; decide), (by show (_:Nat) ≤ 100; simp [Dt.endX, Dt.endY]), fun c hc => ?_⟩
  obtain rfl : c = Dt.moreC n := by simpa [Dt.endX] using hc
  exact sm_more hn
theorem sm_y {n : Nat} (hn : n < 64) : SmD (Dt.endY n) := by
  refine ⟨(by show (7:Nat) ≤ 200; decide), (by show (_:Nat) ≤ 100; simp [Dt.endX, Dt.endY]), fun c hc => ?_⟩
  have hc2 : c = Dt.moreC n ∨ c = Dt.stopC := by simpa [Dt.endY] using hc
  rcases hc2 with rfl | rfl
  · exact sm_more hn
  · exact ⟨by decide, by decide, fun t ht => by simp [Dt.stopC] at ht⟩

theorem tab_below {w W : World} {b off n cap : Nat} {d : List DataM} (hv : DsAt w (.slice (some ⟨b, off, none⟩) n cap) d) (hn : d.length = n) (hW : Below w.heap.size w W) : ∀ j u, (tabN w b off n)[j]? = some u → W.cell? ((⟨b, off, none⟩ : Addr).add j) = some u := by
  intro j u h
  have hj : j < n * 2 := by
    have := (List.getElem?_eq_some_iff.1 h).1
    rwa [tabN_length] at this
  obtain ⟨b', off', fa, fc, e, hb, _⟩ := hv.at 0 (by omega)
  cases e
  exact (hW.cell (p := (⟨b, off, none⟩ : Addr).add j) (by unfold Addr.add; split <;> exact hb)).trans (tabN_news hv hn j u h)
theorem dat_news {W : World} {g3 g2 k : Nat} (h : W.heap[g3]? = some (rgDat g2 k)) : ∀ j u, ([.string ⟨#[69, 110, 100, 108, 101, 115, 115]⟩, .slice (some ⟨g2, 0, none⟩) k k] : List Value)[j]? = some u → W.cell? ((⟨g3, 0, none⟩ : Addr).add j) = some u := by
  intro j u hu
  unfold Addr.add
  match j, hu with
  | 0, hu => cases hu; exact cell_at h rfl
  | 1, hu => cases hu; exact cell_at h rfl
  | j + 2, hu => simp at hu

/-- An append in a region that draws its order, with the temporaries written out. -/
theorem step_append_t {P : Program} (w : World) {ops : Array Oper} {o : Oper} {t0 : Array Value} {df : List Deferred} {K : Act → World → Prop} {Q : Exit → Act → World → Prop} {E : Prop} {inst : Decidable (Region.wanted o (yielded ops t0) = true)} (hgd : o.guard = none) (s x : Operand) (t : TypeId)
    (ho : o.op = .call { callee := .builtin .append, args := #[s, x], argTypes := #[t, t] })
    (base : Nat) (e : TypeId) (i : TypeInfo) (z : Value) (size bytes : Nat) (ht : P.underlying t = some (.slice e)) (hi : P.info? e = some i) (hz : i.zero = some z)
    (hsize : i.size = size) (hby : i.bytes = bytes) (hzs : z.cells.size = size) (hsz : 0 < size)
    (v : Value) (n : Nat) (xs : List Value) (hs : (⟨t0, df⟩ : Act).eval s = v) (hown : w.ownsRow base e size v n xs)
    (ad : Addr) (m c : Nat) (news : List Value) (hx : (⟨t0, df⟩ : Act).eval x = .slice (some ad) m c) (hl : news.length = m * size) (hnews : ∀ j u, news[j]? = some u → w.cell? (ad.add j) = some u) (h1 : ∀ u ∈ news, u.oneCell' = true)
    (h63 : n + m ≤ maxLen) (hbytes : (n + m) * bytes ≤ 140737488355328) (hbase : base ≤ w.heap.size)
    (h : ∀ v' w', w'.ownsRow base e size v' (n + m) (xs ++ news) → w.grownBy w' v.ownBlock → (v'.ownBlock = v.ownBlock ∨ v'.ownBlock = some w.heap.size) → K ((⟨t0, df⟩ : Act).put o.dst v') w') :
    @ite Prop (Region.wanted o (yielded ops t0) = true) inst (Oper.wp P o ⟨t0, df⟩ w K Q) E := by
  have key := step_append (ops := ops) (E := E) (Q := Q) w hgd s x t ho base e i z size bytes ht hi hz hsize hby hzs hsz v n xs hs hown ad m c news hx hl hnews h1 h63 hbytes hbase h
  have hw : Region.wanted o (yielded ops t0) = true := by simp [Region.wanted, hgd]
  rw [if_pos hw] at key ⊢
  exact key

end Go.Proofs.Ytphlokjhfbfogaa
