/- Halves and quarters of whole numbers as double words: what a word stands for, and that sums, differences, products and halving are exact. Own work. -/
import Derived.Test.YtlicmfhgjonmnaaFl
namespace Go.Proofs.Ytlicmfhgjonmnaa
open Ieee
set_option linter.unusedVariables false

/-- The word x stands for a, parted by the k-th power of two. -/
def GoodK (k : Nat) (d : Datum) (a : Int) : Prop :=
  ∃ (s : Bool) (n : Nat), d = .number s (a.natAbs * 2 ^ n) (-((n + k : Nat) : Int)) ∧ (a ≠ 0 → s = decide (a < 0))
def RepK (k : Nat) (x : Nat) (a : Int) : Prop := GoodK k (double.read x) a

theorem Rep.k0 {x : Nat} {a : Int} (h : Rep x a) : RepK 0 x a := h

theorem GoodK.sum {k : Nat} {d e : Datum} {a b : Int} (h : GoodK k d a) (g : GoodK k e b) : ∃ f, d.sum e = some f ∧ GoodK k f (a + b) := by
  obtain ⟨s, n, rfl, hs⟩ := h
  obtain ⟨t, j, rfl, ht⟩ := g
  refine ⟨_, rfl, ?_⟩
  have hmin : min (-((n + k : Nat) : Int)) (-((j + k : Nat) : Int)) = -((max n j + k : Nat) : Int) := by omega
  simp only [hmin]
  have e1 : (-((n + k : Nat) : Int) - -((max n j + k : Nat) : Int)).toNat = max n j - n := by omega
  have e2 : (-((j + k : Nat) : Int) - -((max n j + k : Nat) : Int)).toNat = max n j - j := by omega
  rw [e1, e2, signed_good n _ hs, signed_good j _ ht]
  have e3 : n + (max n j - n) = max n j := by omega
  have e4 : j + (max n j - j) = max n j := by omega
  rw [e3, e4, ← Int.add_mul]
  generalize max n j = m
  have hp := two_pow_pos_int m
  refine ⟨if (a + b) * 2 ^ m = 0 then s && t else decide ((a + b) * 2 ^ m < 0), m, ?_, ?_⟩
  · rw [Int.natAbs_mul]
    have : ((2 : Int) ^ m).natAbs = 2 ^ m := by rw [Int.natAbs_pow]; rfl
    rw [this]
  · intro h0
    have h1 : (a + b) * 2 ^ m ≠ 0 := by
      intro h; rcases Int.mul_eq_zero.1 h with h | h
      · exact h0 h
      · omega
    rw [if_neg h1]
    rw [Bool.eq_iff_iff]
    simp only [decide_eq_true_eq]
    constructor
    · intro h
      by_cases hc : a + b < 0
      · exact hc
      · have := Int.mul_nonneg (show 0 ≤ a + b by omega) (show (0 : Int) ≤ 2 ^ m by omega); omega
    · intro h; exact Int.mul_neg_of_neg_of_pos h hp

theorem GoodK.opposite {k : Nat} {d : Datum} {a : Int} (h : GoodK k d a) : GoodK k d.opposite (-a) := by
  obtain ⟨s, n, rfl, hs⟩ := h
  refine ⟨!s, n, by simp [Datum.opposite], fun h0 => ?_⟩
  rw [hs (by omega)]
  rw [Bool.eq_iff_iff]; simp; omega

theorem GoodK.product {k i : Nat} {d e : Datum} {a b : Int} (h : GoodK k d a) (g : GoodK i e b) : ∃ f, d.product e = some f ∧ GoodK (k + i) f (a * b) := by
  obtain ⟨s, n, rfl, hs⟩ := h
  obtain ⟨t, j, rfl, ht⟩ := g
  refine ⟨_, rfl, s ^^ t, n + j, ?_, ?_⟩
  · rw [Int.natAbs_mul, Nat.pow_add]
    congr 1
    · simp only [Nat.mul_assoc]; congr 1; simp only [← Nat.mul_assoc]; congr 1; exact Nat.mul_comm _ _
    · omega
  · intro h0
    obtain ⟨ha, hb⟩ := natAbs_mul_ne h0
    rw [hs ha, ht hb]
    rcases Int.lt_or_gt_of_ne ha with h1 | h1 <;> rcases Int.lt_or_gt_of_ne hb with h2 | h2
    · have := Int.mul_pos_of_neg_of_neg h1 h2
      simp [h1, h2]; omega
    · have := Int.mul_neg_of_neg_of_pos h1 h2
      simp [h1, this]; omega
    · have := Int.mul_neg_of_pos_of_neg h1 h2
      simp [h2, this]; omega
    · have := Int.mul_pos h1 h2
      have h3 : ¬ a < 0 := by omega
      have h4 : ¬ b < 0 := by omega
      have h5 : ¬ a * b < 0 := by omega
      simp [h3, h4, h5]

theorem place_eqK (L k : Nat) (h : L ≤ 52) (hk : k ≤ 100) : (-1074 : Int) + ((1022 + L - k : Nat) : Int) = -((52 - L + k : Nat) : Int) := by omega

theorem GoodK.write {k : Nat} {d : Datum} {a : Int} (h : GoodK k d a) (hb : a.natAbs < 2 ^ 53) (hk : k ≤ 100) : RepK k (double.write d) a := by
  obtain ⟨s, n, rfl, hs⟩ := h
  by_cases h0 : a = 0
  · subst h0
    refine ⟨s, 1074 - k, ?_, fun h => absurd rfl h⟩
    simp only [Int.natAbs_zero, Nat.zero_mul, Format.write, Format.nearest, if_true]
    rw [read_word_zero]
    have : (1074 - k + k : Nat) = 1074 := by omega
    rw [this]; rfl
  · have hq : 0 < a.natAbs := by omega
    generalize hA : a.natAbs = q at *
    have hm : 0 < q * 2 ^ n := Nat.mul_pos hq (Nat.two_pow_pos n)
    have hlog : (q * 2 ^ n).log2 = q.log2 + n := by
      rw [Nat.log2_eq_iff (by omega)]
      have h1 : 2 ^ q.log2 ≤ q := Nat.log2_self_le (by omega)
      have h2 : q < 2 ^ (q.log2 + 1) := Nat.lt_log2_self
      refine ⟨by rw [Nat.pow_add]; exact Nat.mul_le_mul_right _ h1, ?_⟩
      rw [show q.log2 + n + 1 = (q.log2 + 1) + n by omega, Nat.pow_add]
      exact Nat.mul_lt_mul_of_pos_right h2 (Nat.two_pow_pos _)
    have hl52 : q.log2 ≤ 52 := by
      have := (Nat.log2_lt (n := q) (k := 53) (by omega)).2 hb
      omega
    have hlo : 2 ^ q.log2 ≤ q := Nat.log2_self_le (by omega)
    have hhi : q < 2 ^ (q.log2 + 1) := Nat.lt_log2_self
    simp only [Format.write, Format.nearest]
    rw [if_neg (by omega), hlog]
    generalize hL : q.log2 = L at *
    have hfb : (double.fractionBits : Int) = 52 := rfl
    have hlp : double.leastPlace = -1074 := by decide
    have hlast : max (-((n + k : Nat) : Int) + ((L + n : Nat) : Int) - (double.fractionBits : Int)) double.leastPlace = -((52 - L + k : Nat) : Int) := by
      rw [hfb, hlp]; omega
    simp only [hlast]
    have hkept : Toward.even.cut s ((q * 2 ^ n) <<< (-((n + k : Nat) : Int) - -((52 - L + k : Nat) : Int)).toNat) (-((52 - L + k : Nat) : Int) - -((n + k : Nat) : Int)).toNat = q * 2 ^ (52 - L) := by
      rw [Nat.shiftLeft_eq, Nat.mul_assoc, ← Nat.pow_add]
      by_cases hc : n ≤ 52 - L
      · have e1 : n + (-((n + k : Nat) : Int) - -((52 - L + k : Nat) : Int)).toNat = 52 - L := by omega
        have e2 : (-((52 - L + k : Nat) : Int) - -((n + k : Nat) : Int)).toNat = 0 := by omega
        rw [e1, e2]
        have := cut_exact s (q * 2 ^ (52 - L)) 0 (Nat.mul_pos hq (Nat.two_pow_pos _)) .even
        simpa using this
      · have e1 : n + (-((n + k : Nat) : Int) - -((52 - L + k : Nat) : Int)).toNat = (52 - L) + (n - (52 - L)) := by omega
        have e2 : (-((52 - L + k : Nat) : Int) - -((n + k : Nat) : Int)).toNat = n - (52 - L) := by omega
        rw [e1, e2, Nat.pow_add, ← Nat.mul_assoc]
        exact cut_exact s _ _ (Nat.mul_pos hq (Nat.two_pow_pos _)) .even
    rw [hkept]
    have hk1 : 2 ^ 52 ≤ q * 2 ^ (52 - L) := by
      have e : (2 : Nat) ^ 52 = 2 ^ L * 2 ^ (52 - L) := by rw [← Nat.pow_add]; congr 1; omega
      rw [e]; exact Nat.mul_le_mul_right _ hlo
    have hk2 : q * 2 ^ (52 - L) < 2 ^ 53 := by
      have e : (2 : Nat) ^ 53 = 2 ^ (L + 1) * 2 ^ (52 - L) := by rw [← Nat.pow_add]; congr 1; omega
      rw [e]; exact Nat.mul_lt_mul_of_pos_right hhi (Nat.two_pow_pos _)
    generalize hK : q * 2 ^ (52 - L) = K at *
    have hinf : double.infRung = 2047 * double.binade := congrArg (· * double.binade) (by decide : 2 ^ 11 - 1 = 2047)
    have hb1 : double.binade ≤ K := hk1
    have hb2 : K < double.binade + double.binade := by
      have : (2 : Nat) ^ 53 = 2 ^ 52 + 2 ^ 52 := by decide
      rw [this] at hk2; exact hk2
    have e3 : (-((52 - L + k : Nat) : Int) - double.leastPlace).toNat = 1022 + L - k := by rw [hlp]; omega
    obtain ⟨g1, g2, g3, g4⟩ := rung_facts double.binade (1022 + L - k) K hb1 hb2 (by omega)
    have hmin : min ((1022 + L - k) * double.binade + K) double.infRung = (1022 + L - k) * double.binade + K := by
      rw [hinf]; exact Nat.min_eq_left (Nat.le_of_lt g1)
    rw [e3, hmin]
    have hr := read_word s ((1022 + L - k) * double.binade + K) (by rw [hinf]; exact g1) g2
    rw [g3, g4, hlp] at hr
    refine ⟨s, 52 - L, ?_, fun _ => hs h0⟩
    rw [hr, hA, hK]
    rw [place_eqK L k hl52 hk]

theorem RepK.add {k : Nat} {x y : Nat} {a b : Int} (h : RepK k x a) (g : RepK k y b) (hb : (a + b).natAbs < 2 ^ 53) (hk : k ≤ 100) : ∃ r, floatBits .add .f64 x y = some r ∧ RepK k r (a + b) := by
  obtain ⟨f, hf, hg⟩ := GoodK.sum h g
  exact ⟨_, by simp only [floatBits, FloatKind.format, Format.add, hf, Option.map_some], hg.write hb hk⟩

theorem RepK.sub {k : Nat} {x y : Nat} {a b : Int} (h : RepK k x a) (g : RepK k y b) (hb : (a - b).natAbs < 2 ^ 53) (hk : k ≤ 100) : ∃ r, floatBits .sub .f64 x y = some r ∧ RepK k r (a - b) := by
  obtain ⟨f, hf, hg⟩ := GoodK.sum h (GoodK.opposite g)
  rw [← Int.sub_eq_add_neg] at hg
  exact ⟨_, by simp only [floatBits, FloatKind.format, Format.sub, hf, Option.map_some], hg.write hb hk⟩

theorem RepK.mul {k i : Nat} {x y : Nat} {a b : Int} (h : RepK k x a) (g : RepK i y b) (hb : (a * b).natAbs < 2 ^ 53) (hk : k + i ≤ 100) : ∃ r, floatBits .mul .f64 x y = some r ∧ RepK (k + i) r (a * b) := by
  obtain ⟨f, hf, hg⟩ := GoodK.product h g
  exact ⟨_, by simp only [floatBits, FloatKind.format, Format.mul, hf, Option.map_some], hg.write hb hk⟩

theorem RepK.neg {k : Nat} {x : Nat} {a : Int} (h : RepK k x a) : RepK k (Op.negFloat .f64 x) (-a) := by
  have e : double.read (Op.negFloat .f64 x) = (double.read x).opposite := read_flip double x
  have := GoodK.opposite h
  rw [← e] at this
  exact this

theorem RepK.zero (k : Nat) (hk : k ≤ 100) : RepK k 0 0 := by
  refine ⟨false, 1074 - k, ?_, fun h => absurd rfl h⟩
  have e : double.read 0 = .number false 0 double.leastPlace := read_word_zero false
  have : (1074 - k + k : Nat) = 1074 := by omega
  rw [e, this, Int.natAbs_zero, Nat.zero_mul]; rfl

theorem RepK.order {k : Nat} {x y : Nat} {a b : Int} (h : RepK k x a) (g : RepK k y b) : FloatKind.f64.format.order x y = some (compare a b) := by
  obtain ⟨s, n, hx, hs⟩ := h
  obtain ⟨t, j, hy, ht⟩ := g
  show (double.read x).order (double.read y) = _
  rw [hx, hy]
  simp only [Datum.order]
  have hmin : min (-((n + k : Nat) : Int)) (-((j + k : Nat) : Int)) = -((max n j + k : Nat) : Int) := by omega
  simp only [hmin]
  have e1 : (-((n + k : Nat) : Int) - -((max n j + k : Nat) : Int)).toNat = max n j - n := by omega
  have e2 : (-((j + k : Nat) : Int) - -((max n j + k : Nat) : Int)).toNat = max n j - j := by omega
  rw [e1, e2, signed_good n _ hs, signed_good j _ ht]
  have e3 : n + (max n j - n) = max n j := by omega
  have e4 : j + (max n j - j) = max n j := by omega
  rw [e3, e4]
  generalize max n j = m
  have hp := two_pow_pos_int m
  congr 1
  rcases Int.lt_trichotomy a b with hc | hc | hc
  · have := Int.mul_lt_mul_of_pos_right hc hp
    rw [Int.compare_eq_lt.2 hc, Int.compare_eq_lt.2 this]
  · subst hc; simp
  · have := Int.mul_lt_mul_of_pos_right hc hp
    rw [Int.compare_eq_gt.2 hc, Int.compare_eq_gt.2 this]

/-- What a word can be read as. -/
theorem read_lt {x : Nat} {s : Bool} {m : Nat} {p : Int} (h : double.read x = .number s m p) : m < 2 ^ 53 ∧ (m < 2 ^ 52 → p = -1074) := by
  have hb : double.binade = 2 ^ 52 := rfl
  have hlp : double.leastPlace = -1074 := by decide
  unfold Format.read at h
  simp only at h
  split at h
  · rename_i g
    injection h with h1 h2 h3
    rw [hb] at g
    have : (2 : Nat) ^ 53 = 2 ^ 52 + 2 ^ 52 := by decide
    exact ⟨by omega, fun _ => by rw [← h3, hlp]⟩
  · split at h
    · injection h with h1 h2 h3
      have g := Nat.mod_lt (x % double.signWeight) (show 0 < double.binade by rw [hb]; exact Nat.two_pow_pos 52)
      rw [hb] at g h2
      have : (2 : Nat) ^ 53 = 2 ^ 52 + 2 ^ 52 := by decide
      exact ⟨by omega, fun q => by omega⟩
    · split at h <;> cases h

theorem Rep.twice {x : Nat} {a : Int} (h : Rep x a) (ha : a.natAbs < 2 ^ 52) : RepK 1 x (2 * a) := by
  obtain ⟨s, n, hx, hs⟩ := h
  have hn : n ≠ 0 := by
    intro q
    subst q
    have := (read_lt hx).2 (by simpa using ha)
    simp at this
  obtain ⟨j, rfl⟩ : ∃ j, n = j + 1 := ⟨n - 1, by omega⟩
  refine ⟨s, j, ?_, fun h0 => ?_⟩
  · rw [hx, Int.natAbs_mul, Nat.pow_succ]
    congr 1
    have : Int.natAbs 2 = 2 := rfl
    rw [this, Nat.mul_comm (2 ^ j) 2, Nat.mul_comm 2 a.natAbs, Nat.mul_assoc]
  · rw [hs (by omega), Bool.eq_iff_iff]
    simp only [decide_eq_true_eq]
    omega

/-- The word of the number two. -/
def twoW : Nat := 4611686018427387904
theorem read_two : double.read twoW = .number false (2 ^ 52) (-51) := by decide +kernel

theorem Rep.halve {x : Nat} {a : Int} (h : Rep x a) (ha : a.natAbs < 2 ^ 53) : ∃ r, floatBits .quo .f64 x twoW = some r ∧ RepK 1 r a := by
  obtain ⟨s, n, hx, hs⟩ := h
  have hm := (read_lt hx).1
  generalize hM : a.natAbs * 2 ^ n = m at *
  have hl : m.log2 ≤ 52 := by
    by_cases h0 : m = 0
    · subst h0; decide
    · have := (Nat.log2_lt (n := m) (k := 53) h0).2 hm
      omega
  have l52 : Nat.log2 (2 ^ 52) = 52 := by rw [Nat.log2_two_pow]
  have hq : (double.read x).quotient (double.fractionBits + 2) (double.read twoW) = some (.number s (m * 2 ^ (55 - m.log2)) (-((n + (55 - m.log2) + 1 : Nat) : Int))) := by
    rw [hx, read_two]
    simp only [Datum.quotient]
    rw [if_neg (by decide)]
    have hf : double.fractionBits = 52 := rfl
    rw [hf, l52]
    have e1 : 52 + 2 + 52 - m.log2 = (54 - m.log2) + 52 := by omega
    rw [e1, Nat.shiftLeft_eq, Nat.pow_add, ← Nat.mul_assoc, Nat.mul_div_cancel _ (Nat.two_pow_pos 52), Nat.mul_mod_left]
    simp only [bne_self_eq_false, Bool.toNat_false, Nat.add_zero, Bool.xor_false]
    congr 2
    · have : 55 - m.log2 = (54 - m.log2) + 1 := by omega
      rw [this, Nat.pow_succ, Nat.mul_comm 2, Nat.mul_assoc]
    · omega
  have hg : GoodK 1 (.number s (m * 2 ^ (55 - m.log2)) (-((n + (55 - m.log2) + 1 : Nat) : Int))) a :=
    ⟨s, n + (55 - m.log2), by rw [← hM, Nat.pow_add, ← Nat.mul_assoc], hs⟩
  exact ⟨_, by simp only [floatBits, FloatKind.format, Format.div, hq, Option.map_some], hg.write ha (by omega)⟩

theorem RepK.number {k : Nat} {x : Nat} {a : Int} (h : RepK k x a) : (FloatKind.f64.decode x).isNaN = false := by
  obtain ⟨s, n, hx, hs⟩ := h
  show (double.read x).isNaN = false
  rw [hx]; rfl

end Go.Proofs.Ytlicmfhgjonmnaa
