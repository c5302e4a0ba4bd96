/- Plain mathematics of decimal texts of integers. Nothing of the program. -/
import Derived.Test.YtmdppblhbmbakaaGreatDoorNum
namespace Go.Proofs.YtmdppblhbmbakaaGreatDoor.Nm
open Go (Lib.decDigits Lib.itoa Lib.nDigits)

def chr (d : Nat) : UInt8 := UInt8.ofNat (48 + d)
def dig (c : UInt8) : Nat := c.toNat - 48

theorem chr_toNat (d : Nat) (h : d < 10) : (chr d).toNat = 48 + d := by
  unfold chr; rw [UInt8.toNat_ofNat']; omega

theorem dig_chr (d : Nat) (h : d < 10) : dig (chr d) = d := by unfold dig; rw [chr_toNat d h]; omega

def isDig (c : UInt8) : Bool := decide (48 ≤ c.toNat) && decide (c.toNat ≤ 57)

theorem chr_dig (c : UInt8) (h : isDig c = true) : chr (dig c) = c := by
  simp [isDig] at h
  apply UInt8.toNat_inj.1
  rw [chr_toNat _ (by unfold dig; omega)]
  unfold dig; omega

theorem isDig_chr (d : Nat) (h : d < 10) : isDig (chr d) = true := by
  simp [isDig, chr_toNat d h]; omega

theorem dig_lt (c : UInt8) (h : isDig c = true) : dig c < 10 := by
  simp [isDig] at h; unfold dig; omega

/-- The decimal text of a positive number by its digits. -/
theorem dec_ds (n : Nat) (hn : 0 < n) : Lib.decDigits n = (ds 10 n).reverse.map chr := by
  induction n using Nat.strongRecOn with
  | _ n ih =>
    rw [Lib.decDigits, ds_pos 10 n (by omega) hn, List.reverse_cons, List.map_append]
    by_cases h : n < 10
    · rw [dif_pos h, Nat.div_eq_of_lt h, ds_zero, Nat.mod_eq_of_lt h]; rfl
    · rw [dif_neg h, ih (n / 10) (Nat.div_lt_self hn (by omega)) (Nat.div_pos (by omega) (by omega))]; rfl

/-- The number that a text of digits stands for. -/
def tv (l : List UInt8) : Nat := vl 10 (l.reverse.map dig)

theorem tv_nil : tv [] = 0 := rfl

theorem tv_snoc (l : List UInt8) (c : UInt8) : tv (l ++ [c]) = dig c + 10 * tv l := by
  simp [tv, vl]

theorem tv_append (l r : List UInt8) : tv (l ++ r) = tv r + 10 ^ r.length * tv l := by
  unfold tv
  rw [List.reverse_append, List.map_append, vl_append]; simp

/-- A text of digits without superfluous zeros. -/
def canonN (l : List UInt8) : Bool := l.all isDig && !l.isEmpty && (l.head? != some 48 || l.length == 1)

theorem tv_lt (l : List UInt8) (h : l.all isDig = true) : tv l < 10 ^ l.length := by
  have := vl_lt 10 (l.reverse.map dig) (fun x hx => by
    obtain ⟨c, hc, rfl⟩ := List.mem_map.1 hx
    exact dig_lt c (List.all_eq_true.1 h c (List.mem_reverse.1 hc)))
  simpa [tv] using this

theorem dec_tv (l : List UInt8) (h : canonN l = true) : Lib.decDigits (tv l) = l := by
  simp only [canonN, Bool.and_eq_true, Bool.or_eq_true, Bool.not_eq_true', bne_iff_ne, ne_eq, beq_iff_eq] at h
  obtain ⟨⟨h1, h2⟩, h3⟩ := h
  cases l with
  | nil => simp at h2
  | cons c r =>
    have hc : isDig c = true := List.all_eq_true.1 h1 c (by simp)
    by_cases h48 : c = 48
    · subst h48
      have hr : r = [] := by
        rcases h3 with h3 | h3
        · simp at h3
        · simpa using h3
      subst hr
      decide +kernel
    · have hlast : ((c :: r).reverse.map dig).getLast? ≠ some 0 := by
        rw [List.reverse_cons, List.map_append]
        simp
        intro h0
        apply h48
        rw [← chr_dig c hc, h0]; rfl
      have hlt : ∀ x ∈ (c :: r).reverse.map dig, x < 10 := by
        intro x hx
        obtain ⟨d, hd, rfl⟩ := List.mem_map.1 hx
        exact dig_lt d (List.all_eq_true.1 h1 d (List.mem_reverse.1 hd))
      have hd := ds_vl 10 (by omega) _ hlt hlast
      have hpos : 0 < tv (c :: r) := by
        rcases Nat.eq_zero_or_pos (tv (c :: r)) with h | h
        · unfold tv at h
          rw [h, ds_zero] at hd
          simp at hd
        · exact h
      rw [dec_ds _ hpos]
      unfold tv
      rw [hd, ← List.map_reverse, List.reverse_reverse, List.map_map]
      conv => rhs; rw [← List.map_id (c :: r)]
      apply List.map_congr_left
      intro d hd
      exact chr_dig d (List.all_eq_true.1 h1 d hd)

theorem dec_all (n : Nat) : (Lib.decDigits n).all isDig = true := by
  by_cases h : n = 0
  · subst h; decide +kernel
  · rw [dec_ds n (by omega), List.all_eq_true]
    intro c hc
    obtain ⟨d, hd, rfl⟩ := List.mem_map.1 hc
    exact isDig_chr d (ds_lt 10 (by omega) n d (List.mem_reverse.1 hd))

theorem dec_ne (n : Nat) : Lib.decDigits n ≠ [] := by
  by_cases h : n = 0
  · subst h; decide +kernel
  · rw [dec_ds n (by omega)]
    intro h2
    simp at h2
    exact h ((ds_eq_nil 10 (by omega) n).1 h2)

theorem canonN_dec (n : Nat) : canonN (Lib.decDigits n) = true := by
  by_cases h : n = 0
  · subst h; decide +kernel
  · simp only [canonN, Bool.and_eq_true, Bool.or_eq_true, Bool.not_eq_true', bne_iff_ne, ne_eq, beq_iff_eq]
    refine ⟨⟨dec_all n, by simpa using dec_ne n⟩, .inl ?_⟩
    rw [dec_ds n (by omega), List.head?_map, List.head?_reverse]
    have h2 := getLast_ne 10 (by omega) n
    intro h3
    rw [Option.map_eq_some_iff] at h3
    obtain ⟨d, hd, hd2⟩ := h3
    have hdl := ds_lt 10 (by omega) n d (List.mem_of_getLast? hd)
    have : d = 0 := by
      have := congrArg dig hd2
      rw [dig_chr d hdl] at this
      exact this
    subst this
    exact h2 hd

theorem tv_dec (n : Nat) : tv (Lib.decDigits n) = n := by
  by_cases h : n = 0
  · subst h; decide +kernel
  · rw [dec_ds n (by omega)]
    unfold tv
    rw [← List.map_reverse, List.reverse_reverse, List.map_map]
    have : (ds 10 n).map (dig ∘ chr) = ds 10 n := by
      conv => rhs; rw [← List.map_id (ds 10 n)]
      apply List.map_congr_left
      intro d hd
      exact dig_chr d (ds_lt 10 (by omega) n d hd)
    rw [this, vl_ds 10 (by omega)]

/-- A canonical text, of at most 400 digits. -/
def canon (l : List UInt8) : Bool := match l with
  | 45 :: r => canonN r && r.head? != some 48 && decide (r.length ≤ 400)
  | _ => canonN l && decide (l.length ≤ 400)

/-- The integer that a canonical text stands for. -/
def zv (l : List UInt8) : Int := match l with
  | 45 :: r => -(tv r : Int)
  | _ => tv l

theorem canonN_head (l : List UInt8) (h : canonN l = true) : l.head? ≠ some 45 := by
  cases l with
  | nil => simp
  | cons c r =>
    simp only [canonN, Bool.and_eq_true] at h
    have hc := List.all_eq_true.1 h.1.1 c (by simp)
    simp
    rintro rfl
    simp [isDig] at hc

theorem canon_neg (r : List UInt8) : canon (45 :: r) = (canonN r && r.head? != some 48 && decide (r.length ≤ 400)) := rfl
theorem canon_pos (l : List UInt8) (h : l.head? ≠ some 45) : canon l = (canonN l && decide (l.length ≤ 400)) := by
  unfold canon
  split
  · simp at h
  · rfl
theorem zv_neg (r : List UInt8) : zv (45 :: r) = -(tv r : Int) := rfl
theorem zv_pos (l : List UInt8) (h : l.head? ≠ some 45) : zv l = tv l := by
  unfold zv
  split
  · simp at h
  · rfl

theorem itoa_zv (l : List UInt8) (h : canon l = true) : Lib.itoa (zv l) = l := by
  by_cases h45 : l.head? = some 45
  · cases l with
    | nil => simp at h45
    | cons c r =>
      simp at h45
      subst h45
      rw [canon_neg] at h
      simp only [Bool.and_eq_true, bne_iff_ne, ne_eq] at h
      obtain ⟨⟨h1, h2⟩, _⟩ := h
      have hd := dec_tv r h1
      have hpos : 0 < tv r := by
        rcases Nat.eq_zero_or_pos (tv r) with h | h
        · rw [h] at hd
          exact absurd (by rw [← hd]; decide +kernel) h2
        · exact h
      rw [zv_neg, Lib.itoa, if_pos (by omega), show (-(tv r : Int)).natAbs = tv r from by omega, hd]
  · rw [canon_pos l h45] at h
    simp only [Bool.and_eq_true] at h
    rw [zv_pos l h45, Lib.itoa, if_neg (by omega), Int.toNat_natCast, dec_tv l h.1]

theorem canon_itoa (z : Int) : canon (Lib.itoa z) = decide (Lib.nDigits z.natAbs ≤ 400) := by
  unfold Lib.itoa
  by_cases h : z < 0
  · rw [if_pos h, canon_neg, canonN_dec, Lib.decDigits_length]
    have : (Lib.decDigits z.natAbs).head? ≠ some 48 := by
      rw [dec_ds _ (by omega), List.head?_map, List.head?_reverse]
      have h2 := getLast_ne 10 (by omega) z.natAbs
      intro h3
      rw [Option.map_eq_some_iff] at h3
      obtain ⟨d, hd, hd2⟩ := h3
      have hdl := ds_lt 10 (by omega) z.natAbs d (List.mem_of_getLast? hd)
      have : d = 0 := by
        have := congrArg dig hd2
        rw [dig_chr d hdl] at this
        exact this
      subst this
      exact h2 hd
    simp [this]
  · rw [if_neg h, canon_pos _ (canonN_head _ (canonN_dec _)), canonN_dec, Lib.decDigits_length, show z.toNat = z.natAbs from by omega]
    simp

theorem zv_itoa (z : Int) : zv (Lib.itoa z) = z := by
  unfold Lib.itoa
  by_cases h : z < 0
  · rw [if_pos h, zv_neg, tv_dec]; omega
  · rw [if_neg h, zv_pos _ (canonN_head _ (canonN_dec _)), tv_dec]; omega

/-- The last k digits of a number, with zeros in front. -/
def pad : Nat → Nat → List UInt8
  | 0, _ => []
  | k + 1, x => pad k (x / 10) ++ [chr (x % 10)]

theorem pad_length (k x : Nat) : (pad k x).length = k := by
  induction k generalizing x with
  | zero => rfl
  | succ k ih => simp [pad, ih]

theorem dec_pad (k m x : Nat) (hm : 0 < m) (hx : x < 10 ^ k) : Lib.decDigits (10 ^ k * m + x) = Lib.decDigits m ++ pad k x := by
  induction k generalizing x with
  | zero => simp at hx; subst hx; simp [pad]
  | succ k ih =>
    have h10 : 10 ≤ 10 ^ (k + 1) * m + x := by
      have h1 : 10 ^ (k + 1) * 1 ≤ 10 ^ (k + 1) * m := Nat.mul_le_mul_left _ hm
      have h2 : 10 ^ k * 10 = 10 ^ (k + 1) := (Nat.pow_succ ..).symm
      have h3 : 0 < 10 ^ k := Nat.pow_pos (by omega)
      omega
    rw [Lib.decDigits, dif_neg (by omega)]
    have e1 : (10 ^ (k + 1) * m + x) / 10 = 10 ^ k * m + x / 10 := by
      rw [Nat.pow_succ, Nat.mul_comm (10 ^ k) 10, Nat.mul_assoc, Nat.mul_add_div (by omega)]
    have e2 : (10 ^ (k + 1) * m + x) % 10 = x % 10 := by
      rw [Nat.pow_succ, Nat.mul_comm (10 ^ k) 10, Nat.mul_assoc, Nat.mul_add_mod]
    have hx2 : x / 10 < 10 ^ k := by
      rw [Nat.div_lt_iff_lt_mul (by omega)]
      rwa [Nat.pow_succ] at hx
    rw [e1, e2, ih _ hx2, pad, List.append_assoc]
    rfl

theorem pad_nine (x : Nat) (hx : x < 1000000000) : (Lib.decDigits (1000000000 + x)).drop 1 = pad 9 x := by
  have h := dec_pad 9 1 x (by omega) (by omega)
  rw [show 10 ^ 9 * 1 + x = 1000000000 + x from by omega] at h
  rw [h, show Lib.decDigits 1 = [49] from by decide +kernel]
  rfl

theorem dec_limb (m x : Nat) (hm : 0 < m) (hx : x < 1000000000) : Lib.decDigits (x + 1000000000 * m) = Lib.decDigits m ++ pad 9 x := by
  have h := dec_pad 9 m x hm (by omega)
  rw [show 10 ^ 9 * m + x = x + 1000000000 * m from by omega] at h
  exact h

end Go.Proofs.YtmdppblhbmbakaaGreatDoor.Nm
