/- Whole numbers of small size as double words: what a word stands for, and that sums, differences and products are exact. Own work. -/
import Derived.Laws.ComplexArith
namespace Go.Proofs.Ytlicmfhgjonmnaa
open Ieee

/-- The word x stands for the whole number a (a zero has either sign). -/
def Rep (x : Nat) (a : Int) : Prop :=
  ∃ (s : Bool) (n : Nat), double.read x = .number s (a.natAbs * 2 ^ n) (-(n : Int)) ∧ (a ≠ 0 → s = decide (a < 0))

def Good (d : Datum) (a : Int) : Prop :=
  ∃ (s : Bool) (n : Nat), d = .number s (a.natAbs * 2 ^ n) (-(n : Int)) ∧ (a ≠ 0 → s = decide (a < 0))

theorem signed_good {s : Bool} {a : Int} (n k : Nat) (h : a ≠ 0 → s = decide (a < 0)) : signed s (a.natAbs * 2 ^ n) k = a * 2 ^ (n + k) := by
  unfold signed
  rw [Nat.shiftLeft_eq, Nat.mul_assoc, ← Nat.pow_add]
  by_cases h0 : a = 0
  · subst h0; simp
  · have hs := h h0
    rw [Int.natCast_mul, Int.natCast_pow]
    by_cases hn : a < 0
    · have e : ((a.natAbs : Nat) : Int) = -a := by omega
      simp only [hs, hn, decide_true, if_true, e]
      rw [Int.neg_mul, Int.neg_neg]; rfl
    · have e : ((a.natAbs : Nat) : Int) = a := by omega
      simp [hs, hn, e]

theorem two_pow_pos_int (n : Nat) : (0 : Int) < 2 ^ n := by
  have := Nat.two_pow_pos n
  have e : ((2 ^ n : Nat) : Int) = 2 ^ n := by simp
  omega

theorem Good.sum {d e : Datum} {a b : Int} (h : Good d a) (k : Good e b) : ∃ f, d.sum e = some f ∧ Good f (a + b) := by
  obtain ⟨s, n, rfl, hs⟩ := h
  obtain ⟨t, j, rfl, ht⟩ := k
  refine ⟨_, rfl, ?_⟩
  have hmin : min (-(n : Int)) (-(j : Int)) = -((max n j : Nat) : Int) := by omega
  simp only [hmin]
  have e1 : (-(n : Int) - -((max n j : Nat) : Int)).toNat = max n j - n := by omega
  have e2 : (-(j : Int) - -((max n j : Nat) : Int)).toNat = max n j - j := by omega
  rw [e1, e2, signed_good n _ hs, signed_good j _ ht]
  have e3 : n + (max n j - n) = max n j := by omega
  have e4 : j + (max n j - j) = max n j := by omega
  rw [e3, e4, ← Int.add_mul]
  generalize max n j = m
  have hp := two_pow_pos_int m
  refine ⟨if (a + b) * 2 ^ m = 0 then s && t else decide ((a + b) * 2 ^ m < 0), m, ?_, ?_⟩
  · rw [Int.natAbs_mul]
    have : ((2 : Int) ^ m).natAbs = 2 ^ m := by rw [Int.natAbs_pow]; rfl
    rw [this]
  · intro h0
    have h1 : (a + b) * 2 ^ m ≠ 0 := by
      intro h; rcases Int.mul_eq_zero.1 h with h | h
      · exact h0 h
      · omega
    rw [if_neg h1]
    rw [Bool.eq_iff_iff]
    simp only [decide_eq_true_eq]
    constructor
    · intro h
      by_cases hc : a + b < 0
      · exact hc
      · have := Int.mul_nonneg (show 0 ≤ a + b by omega) (show (0 : Int) ≤ 2 ^ m by omega); omega
    · intro h; exact Int.mul_neg_of_neg_of_pos h hp

theorem Good.opposite {d : Datum} {a : Int} (h : Good d a) : Good d.opposite (-a) := by
  obtain ⟨s, n, rfl, hs⟩ := h
  refine ⟨!s, n, by simp [Datum.opposite], fun h0 => ?_⟩
  rw [hs (by omega)]
  rw [Bool.eq_iff_iff]; simp; omega

theorem natAbs_mul_ne {a b : Int} (h : a * b ≠ 0) : a ≠ 0 ∧ b ≠ 0 := ⟨fun e => h (by simp [e]), fun e => h (by simp [e])⟩

theorem Good.product {d e : Datum} {a b : Int} (h : Good d a) (k : Good e b) : ∃ f, d.product e = some f ∧ Good f (a * b) := by
  obtain ⟨s, n, rfl, hs⟩ := h
  obtain ⟨t, j, rfl, ht⟩ := k
  refine ⟨_, rfl, s ^^ t, n + j, ?_, ?_⟩
  · rw [Int.natAbs_mul, Nat.pow_add]
    congr 1
    · simp only [Nat.mul_assoc]; congr 1; simp only [← Nat.mul_assoc]; congr 1; exact Nat.mul_comm _ _
    · omega
  · intro h0
    obtain ⟨ha, hb⟩ := natAbs_mul_ne h0
    rw [hs ha, ht hb]
    rcases Int.lt_or_gt_of_ne ha with h1 | h1 <;> rcases Int.lt_or_gt_of_ne hb with h2 | h2
    · have := Int.mul_pos_of_neg_of_neg h1 h2
      simp [h1, h2]; omega
    · have := Int.mul_neg_of_neg_of_pos h1 h2
      simp [h1, this]; omega
    · have := Int.mul_neg_of_pos_of_neg h1 h2
      simp [h2, this]; omega
    · have := Int.mul_pos h1 h2
      have h3 : ¬ a < 0 := by omega
      have h4 : ¬ b < 0 := by omega
      have h5 : ¬ a * b < 0 := by omega
      simp [h3, h4, h5]

theorem cut_exact (s : Bool) (q n : Nat) (hq : 0 < q) (way : Toward) : way.cut s (q * 2 ^ n) n = q := by
  have hl : n ≤ (q * 2 ^ n).log2 := by
    rw [Nat.le_log2 (Nat.ne_of_gt (Nat.mul_pos hq (Nat.two_pow_pos n)))]
    exact Nat.le_mul_of_pos_left _ hq
  unfold Toward.cut
  have hm : min n ((q * 2 ^ n).log2 + 2) = n := by omega
  simp only [hm, Nat.shiftLeft_eq, Nat.one_mul, Nat.mul_div_cancel _ (Nat.two_pow_pos n), Nat.mul_mod_left]
  have hp := Nat.two_pow_pos n
  cases way <;> simp <;> omega

theorem cut_zero (s : Bool) (n : Nat) : Toward.zero.cut s 0 n = 0 := by simp [Toward.cut]

theorem read_word (s : Bool) (r : Nat) (hr : r < double.infRung) (hb : double.binade ≤ r) : double.read (double.word s r) = .number s (double.binade + r % double.binade) (double.leastPlace + (r / double.binade - 1 : Nat)) := by
  have hi := double.infRung_lt
  have hS : 0 < double.signWeight := by omega
  have hlt : r < double.signWeight := by omega
  have e1 : double.word s r / double.signWeight % 2 = s.toNat := by
    unfold Format.word
    cases s
    · simp [Nat.div_eq_of_lt hlt]
    · simp [Nat.add_div_left _ hS, Nat.div_eq_of_lt hlt]
  have e2 : double.word s r % double.signWeight = r := by
    unfold Format.word
    cases s
    · simp [Nat.mod_eq_of_lt hlt]
    · simp [Nat.mod_eq_of_lt hlt]
  unfold Format.read
  simp only [e1, e2]
  rw [if_neg (by omega), if_pos hr]
  cases s <;> rfl

theorem read_word_zero (s : Bool) : double.read (double.word s 0) = .number s 0 double.leastPlace := by
  cases s <;> decide

theorem rung_facts (B M K : Nat) (h1 : B ≤ K) (h2 : K < B + B) (hM : M ≤ 1074) : M * B + K < 2047 * B ∧ B ≤ M * B + K ∧ (M * B + K) / B - 1 = M ∧ B + (M * B + K) % B = K := by
  have hB : 0 < B := by omega
  have h3 : M * B ≤ 1074 * B := Nat.mul_le_mul_right _ hM
  have e : M * B + K = (K - B) + B * (M + 1) := by rw [Nat.mul_add, Nat.mul_one, Nat.mul_comm B M]; omega
  refine ⟨by omega, by omega, ?_, ?_⟩
  · rw [e, Nat.add_mul_div_left _ _ hB, Nat.div_eq_of_lt (by omega)]; omega
  · rw [e, Nat.add_mul_mod_self_left, Nat.mod_eq_of_lt (by omega)]; omega

theorem place_eq (L : Nat) (h : L ≤ 52) : (-1074 : Int) + ((1022 + L : Nat) : Int) = -((52 - L : Nat) : Int) := by omega

theorem Good.write {d : Datum} {a : Int} (h : Good d a) (hb : a.natAbs < 2 ^ 53) : Rep (double.write d) a := by
  obtain ⟨s, n, rfl, hs⟩ := h
  by_cases h0 : a = 0
  · subst h0
    refine ⟨s, 1074, ?_, fun h => absurd rfl h⟩
    simp only [Int.natAbs_zero, Nat.zero_mul, Format.write, Format.nearest, if_true]
    rw [read_word_zero]; rfl
  · have hq : 0 < a.natAbs := by omega
    generalize hA : a.natAbs = q at *
    have hm : 0 < q * 2 ^ n := Nat.mul_pos hq (Nat.two_pow_pos n)
    have hlog : (q * 2 ^ n).log2 = q.log2 + n := by
      rw [Nat.log2_eq_iff (by omega)]
      have h1 : 2 ^ q.log2 ≤ q := Nat.log2_self_le (by omega)
      have h2 : q < 2 ^ (q.log2 + 1) := Nat.lt_log2_self
      refine ⟨by rw [Nat.pow_add]; exact Nat.mul_le_mul_right _ h1, ?_⟩
      rw [show q.log2 + n + 1 = (q.log2 + 1) + n by omega, Nat.pow_add]
      exact Nat.mul_lt_mul_of_pos_right h2 (Nat.two_pow_pos _)
    have hl52 : q.log2 ≤ 52 := by
      have := (Nat.log2_lt (n := q) (k := 53) (by omega)).2 hb
      omega
    have hlo : 2 ^ q.log2 ≤ q := Nat.log2_self_le (by omega)
    have hhi : q < 2 ^ (q.log2 + 1) := Nat.lt_log2_self
    simp only [Format.write, Format.nearest]
    rw [if_neg (by omega), hlog]
    generalize hL : q.log2 = L at *
    have hfb : (double.fractionBits : Int) = 52 := rfl
    have hlp : double.leastPlace = -1074 := by decide
    have hlast : max (-(n : Int) + ((L + n : Nat) : Int) - (double.fractionBits : Int)) double.leastPlace = -((52 - L : Nat) : Int) := by
      rw [hfb, hlp]; omega
    simp only [hlast]
    have hkept : Toward.even.cut s ((q * 2 ^ n) <<< (-(n : Int) - -((52 - L : Nat) : Int)).toNat) (-((52 - L : Nat) : Int) - -(n : Int)).toNat = q * 2 ^ (52 - L) := by
      rw [Nat.shiftLeft_eq, Nat.mul_assoc, ← Nat.pow_add]
      by_cases hc : n ≤ 52 - L
      · have e1 : n + (-(n : Int) - -((52 - L : Nat) : Int)).toNat = 52 - L := by omega
        have e2 : (-((52 - L : Nat) : Int) - -(n : Int)).toNat = 0 := by omega
        rw [e1, e2]
        have := cut_exact s (q * 2 ^ (52 - L)) 0 (Nat.mul_pos hq (Nat.two_pow_pos _)) .even
        simpa using this
      · have e1 : n + (-(n : Int) - -((52 - L : Nat) : Int)).toNat = (52 - L) + (n - (52 - L)) := by omega
        have e2 : (-((52 - L : Nat) : Int) - -(n : Int)).toNat = n - (52 - L) := by omega
        rw [e1, e2, Nat.pow_add, ← Nat.mul_assoc]
        exact cut_exact s _ _ (Nat.mul_pos hq (Nat.two_pow_pos _)) .even
    rw [hkept]
    have hk1 : 2 ^ 52 ≤ q * 2 ^ (52 - L) := by
      have e : (2 : Nat) ^ 52 = 2 ^ L * 2 ^ (52 - L) := by rw [← Nat.pow_add]; congr 1; omega
      rw [e]; exact Nat.mul_le_mul_right _ hlo
    have hk2 : q * 2 ^ (52 - L) < 2 ^ 53 := by
      have e : (2 : Nat) ^ 53 = 2 ^ (L + 1) * 2 ^ (52 - L) := by rw [← Nat.pow_add]; congr 1; omega
      rw [e]; exact Nat.mul_lt_mul_of_pos_right hhi (Nat.two_pow_pos _)
    generalize hK : q * 2 ^ (52 - L) = K at *
    have hinf : double.infRung = 2047 * double.binade := congrArg (· * double.binade) (by decide : 2 ^ 11 - 1 = 2047)
    have hb1 : double.binade ≤ K := hk1
    have hb2 : K < double.binade + double.binade := by
      have : (2 : Nat) ^ 53 = 2 ^ 52 + 2 ^ 52 := by decide
      rw [this] at hk2; exact hk2
    have e3 : (-((52 - L : Nat) : Int) - double.leastPlace).toNat = 1022 + L := by rw [hlp]; omega
    obtain ⟨g1, g2, g3, g4⟩ := rung_facts double.binade (1022 + L) K hb1 hb2 (by omega)
    have hmin : min ((1022 + L) * double.binade + K) double.infRung = (1022 + L) * double.binade + K := by
      rw [hinf]; exact Nat.min_eq_left (Nat.le_of_lt g1)
    rw [e3, hmin]
    have hr := read_word s ((1022 + L) * double.binade + K) (by rw [hinf]; exact g1) g2
    rw [g3, g4, hlp] at hr
    refine ⟨s, 52 - L, ?_, fun _ => hs h0⟩
    rw [hr, hA, hK]
    rw [place_eq L hl52]

theorem Rep.good {x : Nat} {a : Int} (h : Rep x a) : Good (double.read x) a := h

theorem Rep.add {x y : Nat} {a b : Int} (h : Rep x a) (k : Rep y b) (hb : (a + b).natAbs < 2 ^ 53) : ∃ r, floatBits .add .f64 x y = some r ∧ Rep r (a + b) := by
  obtain ⟨f, hf, hg⟩ := h.good.sum k.good
  exact ⟨_, by simp only [floatBits, FloatKind.format, Format.add, hf, Option.map_some], hg.write hb⟩

theorem Rep.sub {x y : Nat} {a b : Int} (h : Rep x a) (k : Rep y b) (hb : (a - b).natAbs < 2 ^ 53) : ∃ r, floatBits .sub .f64 x y = some r ∧ Rep r (a - b) := by
  obtain ⟨f, hf, hg⟩ := h.good.sum k.good.opposite
  rw [← Int.sub_eq_add_neg] at hg
  exact ⟨_, by simp only [floatBits, FloatKind.format, Format.sub, hf, Option.map_some], hg.write hb⟩

theorem Rep.mul {x y : Nat} {a b : Int} (h : Rep x a) (k : Rep y b) (hb : (a * b).natAbs < 2 ^ 53) : ∃ r, floatBits .mul .f64 x y = some r ∧ Rep r (a * b) := by
  obtain ⟨f, hf, hg⟩ := h.good.product k.good
  exact ⟨_, by simp only [floatBits, FloatKind.format, Format.mul, hf, Option.map_some], hg.write hb⟩

theorem Rep.ofInt {a : Int} (hb : a.natAbs < 2 ^ 53) : Rep (floatOfInt .f64 a) a := by
  have hg : Good (.number (a < 0) a.natAbs 0) a := ⟨_, 0, by simp, fun _ => rfl⟩
  exact hg.write hb

theorem Rep.of_zero {x : Nat} {s : Bool} (n : Nat) (h : double.read x = .number s 0 (-(n : Int))) : Rep x 0 :=
  ⟨s, n, by rw [h, Int.natAbs_zero, Nat.zero_mul], fun h => absurd rfl h⟩

theorem Rep.zero : Rep 0 0 := Rep.of_zero 1074 (read_word_zero false)

theorem read_flip (f : Format) (x : Nat) : f.read (x ^^^ f.signWeight) = (f.read x).opposite := by
  have e1 : (x ^^^ f.signWeight) % f.signWeight = x % f.signWeight := by
    unfold Format.signWeight
    rw [Nat.xor_mod_two_pow, Nat.mod_self, Nat.xor_zero]
  have e2 : ((x ^^^ f.signWeight) / f.signWeight % 2 == 1) = !(x / f.signWeight % 2 == 1) := by
    have h1 := Nat.testBit_eq_decide_div_mod_eq (x := x ^^^ f.signWeight) (i := f.exponentBits + f.fractionBits)
    have h2 := Nat.testBit_eq_decide_div_mod_eq (x := x) (i := f.exponentBits + f.fractionBits)
    have h3 : (x ^^^ f.signWeight).testBit (f.exponentBits + f.fractionBits) = !(x.testBit (f.exponentBits + f.fractionBits)) := by
      unfold Format.signWeight
      rw [Nat.testBit_xor, Nat.testBit_two_pow_self]
      cases x.testBit (f.exponentBits + f.fractionBits) <;> rfl
    rw [h1, h2] at h3
    exact h3
  unfold Format.read
  simp only [e1, e2]
  split
  · rfl
  · split
    · rfl
    · split <;> rfl

theorem Rep.neg {x : Nat} {a : Int} (h : Rep x a) : Rep (Op.negFloat .f64 x) (-a) := by
  have e : double.read (Op.negFloat .f64 x) = (double.read x).opposite := read_flip double x
  have := h.good.opposite
  rw [← e] at this
  exact this

theorem Rep.order {x y : Nat} {a b : Int} (h : Rep x a) (k : Rep y b) : FloatKind.f64.format.order x y = some (compare a b) := by
  obtain ⟨s, n, hx, hs⟩ := h
  obtain ⟨t, j, hy, ht⟩ := k
  show (double.read x).order (double.read y) = _
  rw [hx, hy]
  simp only [Datum.order]
  have hmin : min (-(n : Int)) (-(j : Int)) = -((max n j : Nat) : Int) := by omega
  simp only [hmin]
  have e1 : (-(n : Int) - -((max n j : Nat) : Int)).toNat = max n j - n := by omega
  have e2 : (-(j : Int) - -((max n j : Nat) : Int)).toNat = max n j - j := by omega
  rw [e1, e2, signed_good n _ hs, signed_good j _ ht]
  have e3 : n + (max n j - n) = max n j := by omega
  have e4 : j + (max n j - j) = max n j := by omega
  rw [e3, e4]
  generalize max n j = m
  have hp := two_pow_pos_int m
  congr 1
  rcases Int.lt_trichotomy a b with hc | hc | hc
  · have := Int.mul_lt_mul_of_pos_right hc hp
    rw [Int.compare_eq_lt.2 hc, Int.compare_eq_lt.2 this]
  · subst hc; simp
  · have := Int.mul_lt_mul_of_pos_right hc hp
    rw [Int.compare_eq_gt.2 hc, Int.compare_eq_gt.2 this]

theorem Rep.toInt {x : Nat} {a : Int} (h : Rep x a) : (FloatKind.f64.decode x).toInt .zero = some a := by
  obtain ⟨s, n, hx, hs⟩ := h
  show (double.read x).toInt .zero = _
  rw [hx]
  unfold Datum.toInt Datum.integral
  simp only
  have e1 : (-(n : Int)).toNat = 0 := by omega
  have e2 : (- -(n : Int)).toNat = n := by omega
  rw [e1, e2, Nat.shiftLeft_zero]
  by_cases h0 : a = 0
  · subst h0; simp [cut_zero, signed]
  · rw [cut_exact s _ _ (by omega)]
    have := signed_good (s := s) (a := a) 0 0 hs
    simpa using this

end Go.Proofs.Ytlicmfhgjonmnaa
