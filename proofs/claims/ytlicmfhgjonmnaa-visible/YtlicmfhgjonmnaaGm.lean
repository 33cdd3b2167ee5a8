/- How often the edges go round a point: the same where nothing lies between. Own work. (And what follows from it: Ga, Gb, Gc, Gd, Ge, Gf, Gg, Gh, Gi, Gj, Gk, Gl, Gm.) -/
import Derived.Test.YtlicmfhgjonmnaaPl
namespace Go.Proofs.Ytlicmfhgjonmnaa

section
set_option linter.unusedVariables false

theorem signs1 {A B u v : Int} (h : A * v = B * u) (huv : 0 < u * v) (hAB : A < B) : (0 < A ∧ 0 < B) ∨ (A < 0 ∧ B < 0) := by
  rcases Int.lt_trichotomy A 0 with hA | hA | hA
  · right
    refine ⟨hA, ?_⟩
    apply Int.not_le.1
    intro hB
    rcases Int.lt_trichotomy u 0 with hu | hu | hu
    · have hv : v < 0 := by
        apply Int.not_le.1; intro hv
        have := Int.mul_nonpos_of_nonpos_of_nonneg (Int.le_of_lt hu) hv; omega
      have h1 := Int.mul_pos_of_neg_of_neg hA hv
      have h2 := Int.mul_nonpos_of_nonneg_of_nonpos hB (Int.le_of_lt hu)
      omega
    · subst hu; simp at huv
    · have hv : 0 < v := by
        apply Int.not_le.1; intro hv
        have := Int.mul_nonpos_of_nonneg_of_nonpos (Int.le_of_lt hu) hv; omega
      have h1 := Int.mul_neg_of_neg_of_pos hA hv
      have h2 := Int.mul_nonneg hB (Int.le_of_lt hu)
      omega
  · subst hA
    rw [Int.zero_mul] at h
    rcases Int.mul_eq_zero.1 h.symm with h | h
    · omega
    · subst h; simp at huv
  · exact .inl ⟨hA, by omega⟩

theorem signs2 {u v S T : Int} (h : u * T = v * S) (hS : 0 < S) (hT : T ≤ 0) : u * v ≤ 0 := by
  apply Int.not_lt.1
  intro hp
  have h1 : 0 < (u * v) * S := Int.mul_pos hp hS
  have h2 : (u * v) * S = (u * u) * T := by grind
  have h3 := Int.mul_nonpos_of_nonneg_of_nonpos (sq_nonneg u) hT
  omega

theorem signs3 {A B M N : Int} (h : M * A + N * B = 0) (hM : 0 ≤ M) (hN : 0 ≤ N) (hMN : 0 < M + N) (hs : (0 < A ∧ 0 < B) ∨ (A < 0 ∧ B < 0)) : False := by
  rcases hs with ⟨hA, hB⟩ | ⟨hA, hB⟩
  · have h1 := Int.mul_nonneg hM (Int.le_of_lt hA)
    have h2 := Int.mul_nonneg hN (Int.le_of_lt hB)
    have h3 : M * A = 0 := by omega
    have h4 : N * B = 0 := by omega
    rcases Int.mul_eq_zero.1 h3 with h | h <;> rcases Int.mul_eq_zero.1 h4 with h' | h' <;> omega
  · have h1 := Int.mul_nonpos_of_nonneg_of_nonpos hM (Int.le_of_lt hA)
    have h2 := Int.mul_nonpos_of_nonneg_of_nonpos hN (Int.le_of_lt hB)
    have h3 : M * A = 0 := by omega
    have h4 : N * B = 0 := by omega
    rcases Int.mul_eq_zero.1 h3 with h | h <;> rcases Int.mul_eq_zero.1 h4 with h' | h' <;> omega

theorem bary (a b p q : Int × Int) : (tI a b p * (b.2 - q.2) - tI a b q * (b.2 - p.2)) * tI p q a + (tI a b p * (q.2 - a.2) - tI a b q * (p.2 - a.2)) * tI p q b = 0 := by
  unfold tI; grind

/-- On opposite sides of a line that is not met: then its ends lie on one side. -/
theorem one_side {p q a b : Int × Int} (h : Off p q a b) (h1 : 0 < tI a b p) (h2 : tI a b q ≤ 0) : (0 < tI p q a ∧ 0 < tI p q b) ∨ (tI p q a < 0 ∧ tI p q b < 0) := by
  have hd := tI_diff a b p q
  by_cases h0 : tI a b q = 0
  · rcases not_on h.aq h0 with hx | hx
    · exact signs1 (u := a.1 - q.1) (v := b.1 - q.1) (by unfold tI at *; grind) hx (by omega)
    · exact signs1 (u := a.2 - q.2) (v := b.2 - q.2) (by unfold tI at *; grind) hx (by omega)
  · have h3 : tI a b q < 0 := by omega
    have h4 := Int.mul_neg_of_pos_of_neg h1 h3
    have h5 : ¬ tI p q a * tI p q b < 0 := fun hc => h.cr ⟨hc, h4⟩
    have hA : tI p q a ≠ 0 := by
      intro hA
      have : onI p q a = true := by
        rw [onI_iff]
        exact ⟨hA, signs2 (S := tI a b p) (T := tI a b q) (by unfold tI at *; grind) h1 h2, signs2 (S := tI a b p) (T := tI a b q) (by unfold tI at *; grind) h1 h2⟩
      rw [h.pa] at this; cases this
    have hB : tI p q b ≠ 0 := by
      intro hB
      have : onI p q b = true := by
        rw [onI_iff]
        exact ⟨hB, signs2 (S := tI a b p) (T := tI a b q) (by unfold tI at *; grind) h1 h2, signs2 (S := tI a b p) (T := tI a b q) (by unfold tI at *; grind) h1 h2⟩
      rw [h.pb] at this; cases this
    rcases Int.lt_trichotomy (tI p q a) 0 with k1 | k1 | k1 <;> rcases Int.lt_trichotomy (tI p q b) 0 with k2 | k2 | k2
    · exact .inr ⟨k1, k2⟩
    · exact absurd k2 hB
    · exact absurd (Int.mul_neg_of_neg_of_pos k1 k2) h5
    · exact absurd k1 hA
    · exact absurd k1 hA
    · exact absurd k1 hA
    · exact absurd (Int.mul_neg_of_pos_of_neg k1 k2) h5
    · exact absurd k2 hB
    · exact .inl ⟨k1, k2⟩

theorem coll_between {p q a : Int × Int} (h : tI p q a = 0) (h1 : p.2 < q.2) (h2 : p.2 ≤ a.2) (h3 : a.2 ≤ q.2) : onI p q a = true := by
  rw [onI_iff]
  refine ⟨h, ?_, Int.mul_nonpos_of_nonpos_of_nonneg (by omega) (by omega)⟩
  apply Int.not_lt.1
  intro hp
  have k1 : 0 < ((q.2 - p.2) * (q.2 - p.2)) * ((p.1 - a.1) * (q.1 - a.1)) := Int.mul_pos (Int.mul_pos (by omega) (by omega)) hp
  have k2 : ((q.2 - p.2) * (q.2 - p.2)) * ((p.1 - a.1) * (q.1 - a.1)) = - (((q.1 - p.1) * (q.1 - p.1)) * ((a.2 - p.2) * (q.2 - a.2))) := by unfold tI at h; grind
  have k3 := Int.mul_nonneg (sq_nonneg (q.1 - p.1)) (Int.mul_nonneg (show 0 ≤ a.2 - p.2 by omega) (show 0 ≤ q.2 - a.2 by omega))
  omega

theorem nn {a b : Int} (h1 : 0 ≤ a) (h2 : 0 ≤ b) : 0 ≤ a * b := Int.mul_nonneg h1 h2
theorem np {a b : Int} (h1 : 0 ≤ a) (h2 : b ≤ 0) : a * b ≤ 0 := Int.mul_nonpos_of_nonneg_of_nonpos h1 h2
theorem pn {a b : Int} (h1 : a ≤ 0) (h2 : 0 ≤ b) : a * b ≤ 0 := Int.mul_nonpos_of_nonpos_of_nonneg h1 h2

theorem c1_half {p q a b : Int × Int} (h : Off p q a b) (h1 : a.2 ≤ p.2) (h2 : a.2 ≤ q.2) (h3 : p.2 < b.2) (h4 : q.2 < b.2) (hp : 0 < tI a b p) : 0 < tI a b q := by
  apply Int.not_le.1
  intro hq
  refine signs3 (bary a b p q) ?_ ?_ ?_ (one_side h hp hq)
  · have := nn (Int.le_of_lt hp) (show 0 ≤ b.2 - q.2 by omega)
    have := pn hq (show 0 ≤ b.2 - p.2 by omega)
    omega
  · have := nn (Int.le_of_lt hp) (show 0 ≤ q.2 - a.2 by omega)
    have := pn hq (show 0 ≤ p.2 - a.2 by omega)
    omega
  · have := Int.mul_pos hp (show 0 < b.2 - q.2 by omega)
    have := pn hq (show 0 ≤ b.2 - p.2 by omega)
    have := nn (Int.le_of_lt hp) (show 0 ≤ q.2 - a.2 by omega)
    have := pn hq (show 0 ≤ p.2 - a.2 by omega)
    omega

theorem c1 {p q a b : Int × Int} (h : Off p q a b) (h1 : a.2 ≤ p.2) (h2 : a.2 ≤ q.2) (h3 : p.2 < b.2) (h4 : q.2 < b.2) : 0 < tI a b p ↔ 0 < tI a b q :=
  ⟨c1_half h h1 h2 h3 h4, c1_half h.rev1 h2 h1 h4 h3⟩

theorem i1 (a b p q : Int × Int) : (q.2 - a.2) * tI a b p + (a.2 - p.2) * tI a b q = -((b.2 - a.2) * tI p q a) := by unfold tI; grind
theorem i2 (a b p q : Int × Int) : (q.2 - b.2) * tI a b p + (b.2 - p.2) * tI a b q = -((b.2 - a.2) * tI p q b) := by unfold tI; grind

theorem neg_of_mul_neg {x y : Int} (hx : 0 ≤ x) (h : x * y < 0) : y < 0 := by
  apply Int.not_le.1; intro hy
  have := nn hx hy; omega
theorem pos_of_mul_pos {x y : Int} (hx : 0 ≤ x) (h : 0 < x * y) : 0 < y := by
  apply Int.not_le.1; intro hy
  have := np hx hy; omega

theorem c2 {p q a b : Int × Int} (h : Off p q a b) (h1 : p.2 < a.2) (h2 : a.2 ≤ q.2) (h3 : q.2 < b.2) : 0 < tI a b q ↔ tI p q a < 0 := by
  have hne : tI p q a ≠ 0 := fun h0 => by have := coll_between h0 (by omega) (by omega) h2; rw [h.pa] at this; cases this
  have hi := i1 a b p q
  constructor
  · intro hq
    apply Int.not_le.1
    intro hA
    have hA' : 0 < tI p q a := by omega
    have k1 := Int.mul_pos (show 0 < b.2 - a.2 by omega) hA'
    have k2 := Int.mul_pos (show 0 < a.2 - p.2 by omega) hq
    have hp : tI a b p < 0 := neg_of_mul_neg (show 0 ≤ q.2 - a.2 by omega) (by omega)
    refine signs3 (bary a b q p) ?_ ?_ ?_ (one_side h.rev1 hq (by omega))
    · have := nn (Int.le_of_lt hq) (show 0 ≤ b.2 - p.2 by omega)
      have := pn (Int.le_of_lt hp) (show 0 ≤ b.2 - q.2 by omega)
      omega
    · have e1 : tI a b q * (p.2 - a.2) - tI a b p * (q.2 - a.2) = (b.2 - a.2) * tI p q a := by unfold tI; grind
      omega
    · have := nn (Int.le_of_lt hq) (show 0 ≤ b.2 - p.2 by omega)
      have := pn (Int.le_of_lt hp) (show 0 ≤ b.2 - q.2 by omega)
      have e1 : tI a b q * (p.2 - a.2) - tI a b p * (q.2 - a.2) = (b.2 - a.2) * tI p q a := by unfold tI; grind
      omega
  · intro hA
    apply Int.not_le.1
    intro hq
    have k1 := Int.mul_neg_of_pos_of_neg (show 0 < b.2 - a.2 by omega) hA
    have k2 := np (show 0 ≤ a.2 - p.2 by omega) hq
    have hp : 0 < tI a b p := pos_of_mul_pos (show 0 ≤ q.2 - a.2 by omega) (by omega)
    refine signs3 (bary a b p q) ?_ ?_ ?_ (one_side h hp hq)
    · have := nn (Int.le_of_lt hp) (show 0 ≤ b.2 - q.2 by omega)
      have := pn hq (show 0 ≤ b.2 - p.2 by omega)
      omega
    · have e1 : tI a b p * (q.2 - a.2) - tI a b q * (p.2 - a.2) = -((b.2 - a.2) * tI p q a) := by unfold tI; grind
      omega
    · have := nn (Int.le_of_lt hp) (show 0 ≤ b.2 - q.2 by omega)
      have := pn hq (show 0 ≤ b.2 - p.2 by omega)
      have e1 : tI a b p * (q.2 - a.2) - tI a b q * (p.2 - a.2) = -((b.2 - a.2) * tI p q a) := by unfold tI; grind
      omega

theorem c3 {p q a b : Int × Int} (h : Off p q a b) (h1 : a.2 ≤ p.2) (h2 : p.2 < b.2) (h3 : b.2 ≤ q.2) : 0 < tI a b p ↔ tI p q b < 0 := by
  have hne : tI p q b ≠ 0 := fun h0 => by have := coll_between h0 (by omega) (by omega) h3; rw [h.pb] at this; cases this
  have hi := i2 a b p q
  constructor
  · intro hp
    apply Int.not_le.1
    intro hB
    have hB' : 0 < tI p q b := by omega
    have k1 := Int.mul_pos (show 0 < b.2 - a.2 by omega) hB'
    have k2 := nn (show 0 ≤ q.2 - b.2 by omega) (Int.le_of_lt hp)
    have hq : tI a b q < 0 := neg_of_mul_neg (show 0 ≤ b.2 - p.2 by omega) (by omega)
    have e1 : tI a b p * (b.2 - q.2) - tI a b q * (b.2 - p.2) = (b.2 - a.2) * tI p q b := by unfold tI; grind
    have m1 := nn (Int.le_of_lt hp) (show 0 ≤ q.2 - a.2 by omega)
    have m2 := pn (Int.le_of_lt hq) (show 0 ≤ p.2 - a.2 by omega)
    exact signs3 (bary a b p q) (by omega) (by omega) (by omega) (one_side h hp (by omega))
  · intro hB
    apply Int.not_le.1
    intro hp
    have k1 := Int.mul_neg_of_pos_of_neg (show 0 < b.2 - a.2 by omega) hB
    have k2 := np (show 0 ≤ q.2 - b.2 by omega) hp
    have hq : 0 < tI a b q := pos_of_mul_pos (show 0 ≤ b.2 - p.2 by omega) (by omega)
    have e1 : tI a b q * (b.2 - p.2) - tI a b p * (b.2 - q.2) = -((b.2 - a.2) * tI p q b) := by unfold tI; grind
    have m1 := nn (Int.le_of_lt hq) (show 0 ≤ p.2 - a.2 by omega)
    have m2 := pn hp (show 0 ≤ q.2 - a.2 by omega)
    exact signs3 (bary a b q p) (by omega) (by omega) (by omega) (one_side h.rev1 hq hp)

theorem c4_half {p q a b : Int × Int} (h : Off p q a b) (h1 : p.2 < a.2) (h2 : a.2 ≤ q.2) (h3 : p.2 < b.2) (h4 : b.2 ≤ q.2) (hA : tI p q a < 0) : tI p q b < 0 := by
  have hne : tI p q b ≠ 0 := fun h0 => by have := coll_between h0 (by omega) (by omega) h4; rw [h.pb] at this; cases this
  apply Int.not_le.1
  intro hB
  have hB' : 0 < tI p q b := by omega
  have m1 := nn (Int.le_of_lt hB') (show 0 ≤ q.2 - a.2 by omega)
  have m2 := pn (Int.le_of_lt hA) (show 0 ≤ q.2 - b.2 by omega)
  have m3 := Int.mul_pos hB' (show 0 < a.2 - p.2 by omega)
  have m4 := pn (Int.le_of_lt hA) (show 0 ≤ b.2 - p.2 by omega)
  exact signs3 (bary p q b a) (by omega) (by omega) (by omega) (one_side h.rev2.swap hB' (by omega))

theorem c4 {p q a b : Int × Int} (h : Off p q a b) (h1 : p.2 < a.2) (h2 : a.2 ≤ q.2) (h3 : p.2 < b.2) (h4 : b.2 ≤ q.2) : tI p q a < 0 ↔ tI p q b < 0 :=
  ⟨c4_half h h1 h2 h3 h4, c4_half h.rev2 h3 h4 h1 h2⟩

/-- An edge's part: does it cross the line to the right of p, a hair above, upwards (1) or downwards (-1)? -/
def cr (p a b : Int × Int) : Int :=
  if a.2 ≤ p.2 ∧ p.2 < b.2 ∧ 0 < tI a b p then 1 else if b.2 ≤ p.2 ∧ p.2 < a.2 ∧ tI a b p < 0 then -1 else 0

theorem cr_anti (p a b : Int × Int) : cr p b a = - cr p a b := by
  unfold cr
  rw [tI_neg a b p]
  by_cases h1 : a.2 ≤ p.2 ∧ p.2 < b.2 ∧ 0 < tI a b p
  · rw [if_pos h1, if_neg (by omega), if_pos (by omega)]
  · rw [if_neg h1]
    by_cases h2 : b.2 ≤ p.2 ∧ p.2 < a.2 ∧ tI a b p < 0
    · rw [if_pos h2, if_pos (by omega)]; rfl
    · rw [if_neg h2, if_neg (by omega), if_neg (by omega)]; rfl

/-- Between p and q (upwards), on the right. -/
def hh (p q v : Int × Int) : Int := if p.2 < v.2 ∧ v.2 ≤ q.2 ∧ tI p q v < 0 then 1 else 0

theorem strip_up {p q a b : Int × Int} (h : Off p q a b) (hpq : p.2 ≤ q.2) (hab : a.2 ≤ b.2) : cr p a b - cr q a b = hh p q b - hh p q a := by
  unfold cr hh
  rw [if_neg (show ¬ (b.2 ≤ p.2 ∧ p.2 < a.2 ∧ tI a b p < 0) by omega), if_neg (show ¬ (b.2 ≤ q.2 ∧ q.2 < a.2 ∧ tI a b q < 0) by omega)]
  by_cases ha : a.2 ≤ p.2
  · rw [if_neg (show ¬ (p.2 < a.2 ∧ a.2 ≤ q.2 ∧ tI p q a < 0) by omega)]
    by_cases hb : b.2 ≤ p.2
    · rw [if_neg (by omega), if_neg (by omega), if_neg (by omega)]
    · by_cases hb2 : b.2 ≤ q.2
      · rw [if_neg (show ¬ (a.2 ≤ q.2 ∧ q.2 < b.2 ∧ 0 < tI a b q) by omega)]
        have k := c3 h ha (by omega) hb2
        by_cases hc : 0 < tI a b p
        · have := k.1 hc
          rw [if_pos (by omega), if_pos (by omega)]
        · have : ¬ tI p q b < 0 := fun x => hc (k.2 x)
          rw [if_neg (by omega), if_neg (by omega)]
      · rw [if_neg (show ¬ (p.2 < b.2 ∧ b.2 ≤ q.2 ∧ tI p q b < 0) by omega)]
        have k := c1 h ha (by omega) (by omega) (by omega)
        by_cases hc : 0 < tI a b p
        · have := k.1 hc
          rw [if_pos (by omega), if_pos (by omega)]; rfl
        · have : ¬ 0 < tI a b q := fun x => hc (k.2 x)
          rw [if_neg (by omega), if_neg (by omega)]
  · rw [if_neg (show ¬ (a.2 ≤ p.2 ∧ p.2 < b.2 ∧ 0 < tI a b p) by omega)]
    by_cases ha2 : a.2 ≤ q.2
    · by_cases hb2 : b.2 ≤ q.2
      · rw [if_neg (show ¬ (a.2 ≤ q.2 ∧ q.2 < b.2 ∧ 0 < tI a b q) by omega)]
        have k := c4 h (by omega) ha2 (by omega) hb2
        by_cases hc : tI p q a < 0
        · have := k.1 hc
          rw [if_pos (by omega), if_pos (by omega)]; rfl
        · have : ¬ tI p q b < 0 := fun x => hc (k.2 x)
          rw [if_neg (by omega), if_neg (by omega)]
      · rw [if_neg (show ¬ (p.2 < b.2 ∧ b.2 ≤ q.2 ∧ tI p q b < 0) by omega)]
        have k := c2 h (by omega) ha2 (by omega)
        by_cases hc : 0 < tI a b q
        · have := k.1 hc
          rw [if_pos (by omega), if_pos (by omega)]
        · have : ¬ tI p q a < 0 := fun x => hc (k.2 x)
          rw [if_neg (by omega), if_neg (by omega)]
    · rw [if_neg (by omega), if_neg (by omega), if_neg (by omega)]

theorem strip {p q a b : Int × Int} (h : Off p q a b) (hpq : p.2 ≤ q.2) : cr p a b - cr q a b = hh p q b - hh p q a := by
  rcases Int.le_total a.2 b.2 with hab | hab
  · exact strip_up h hpq hab
  · have := strip_up h.rev2 hpq hab
    rw [cr_anti p a b, cr_anti q a b] at this
    omega

def sumN (F : Nat → Int) : Nat → Int
  | 0 => 0
  | n + 1 => sumN F n + F n

theorem sumN_congr {F G : Nat → Int} : ∀ n, (∀ i, i < n → F i = G i) → sumN F n = sumN G n
  | 0, _ => rfl
  | n + 1, h => by
    simp only [sumN]
    rw [sumN_congr n (fun i hi => h i (by omega)), h n (by omega)]

theorem sumN_sub (F G : Nat → Int) : ∀ n, sumN (fun i => F i - G i) n = sumN F n - sumN G n
  | 0 => rfl
  | n + 1 => by simp only [sumN]; rw [sumN_sub F G n]; omega

theorem sumN_shift (g : Nat → Int) : ∀ n, sumN (fun i => g (i + 1)) n + g 0 = sumN g (n + 1)
  | 0 => by simp [sumN]
  | n + 1 => by
    have := sumN_shift g n
    simp only [sumN] at *
    omega

theorem sumN_next (g : Nat → Int) (n : Nat) : sumN (fun i => g (nextI n i)) n = sumN g n := by
  cases n with
  | zero => rfl
  | succ m =>
    have h1 : sumN (fun i => g (nextI (m + 1) i)) m = sumN (fun i => g (i + 1)) m := sumN_congr m fun i hi => by rw [next_lt (by omega)]
    have h2 := sumN_shift g m
    show sumN (fun i => g (nextI (m + 1) i)) m + g (nextI (m + 1) m) = _
    rw [h1, next_last rfl]
    exact h2

/-- How often the edges of a closed way go round p. -/
def wn (p : Int × Int) (l : List (Int × Int)) : Int := sumN (fun i => cr p (pAt l i) (pAt l (nextI l.length i))) l.length

theorem wn_le {p q : Int × Int} {l : List (Int × Int)} (hpq : p.2 ≤ q.2) (h : ∀ i, i < l.length → Off p q (pAt l i) (pAt l (nextI l.length i))) : wn p l = wn q l := by
  have h1 : wn p l - wn q l = sumN (fun i => hh p q (pAt l (nextI l.length i)) - hh p q (pAt l i)) l.length := by
    unfold wn
    rw [← sumN_sub]
    exact sumN_congr _ fun i hi => strip (h i hi) hpq
  rw [sumN_sub, sumN_next (fun i => hh p q (pAt l i))] at h1
  omega

/-- Nothing lies between: the edges go round both alike. -/
theorem wn_same {p q : Int × Int} {l : List (Int × Int)} (h : ∀ i, i < l.length → Off p q (pAt l i) (pAt l (nextI l.length i))) : wn p l = wn q l := by
  rcases Int.le_total p.2 q.2 with hpq | hpq
  · exact wn_le hpq h
  · exact (wn_le hpq fun i hi => (h i hi).rev1).symm
end

section
set_option linter.unusedVariables false

/-- In the triangle, or on its edges. -/
def InT (u v w c : Int × Int) : Prop := 0 ≤ tI u v c ∧ 0 ≤ tI v w c ∧ 0 ≤ tI w u c

theorem tI_sum (u v w c : Int × Int) : tI u v c + tI v w c + tI w u c = tI u v w := by unfold tI; grind

theorem vz_eq (u v w z c : Int × Int) : tI u v w * tI v z c = tI u v z * tI v w c - tI v w z * tI u v c := by unfold tI; grind

/-- The crossing of c d with v z, weighed: what any turn about a b says of it. -/
theorem cross_pt (v z c d a b : Int × Int) : -(tI v z d) * tI a b c + tI v z c * tI a b d = tI c d z * tI a b v - tI c d v * tI a b z := by unfold tI; grind

theorem on_line_eq (u v w c d : Int × Int) : (tI u v d * tI v w c - tI u v c * tI v w d) * tI c d u + (tI u v d * tI w u c - tI u v c * tI w u d) * tI c d v = 0 := by unfold tI; grind

theorem on_line_eq' (u v w c d : Int × Int) : (tI v w d * tI u v c - tI v w c * tI u v d) * tI c d w + (tI v w d * tI w u c - tI v w c * tI w u d) * tI c d v = 0 := by unfold tI; grind

/-- One end lies no higher than z, or the line meets the edge u v. -/
theorem low_end {u v w z c d : Int × Int} (hD : 0 < tI u v w) (hCz : 0 < tI u v z) (hAz : 0 < tI v w z) (hBz : 0 ≤ tI w u z) (hz : tI w u z < tI u v w)
    (hc : InT u v w c → tI w u c ≤ tI w u z) (o : Off c d u v) (h1 : 0 < tI v z c) (h2 : tI v z d < 0) (hV : tI c d v < 0) (hZ : 0 < tI c d z) : tI w u c ≤ tI w u z := by
  apply Int.not_lt.1
  intro hf
  have e1 := vz_eq u v w z c
  have k0 := Int.mul_pos hD h1
  have hC : tI u v c < 0 := by
    apply Int.not_le.1
    intro hC
    have k1 := nn (Int.le_of_lt hAz) hC
    have hA : 0 < tI v w c := pos_of_mul_pos (Int.le_of_lt hCz) (by omega)
    have := hc ⟨hC, by omega, by omega⟩
    omega
  have x1 := cross_pt v z c d u v
  have hvv : tI u v v = 0 := by unfold tI; grind
  rw [hvv, Int.mul_zero] at x1
  have k2 := Int.mul_neg_of_neg_of_pos hV hCz
  -- what is weighed of u v lies on z's side
  have hX : 0 < -(tI v z d) * tI u v c + tI v z c * tI u v d := by omega
  have k3 : -(tI v z d) * tI u v c < 0 := Int.mul_neg_of_pos_of_neg (by omega) hC
  have hCd : 0 < tI u v d := pos_of_mul_pos (Int.le_of_lt h1) (by omega)
  have x2 := cross_pt v z c d w u
  have hwv : tI w u v = tI u v w := by unfold tI; grind
  rw [hwv] at x2
  -- the height of the crossing
  have hP : tI v z c - tI v z d = tI c d z - tI c d v := tI_diff v z c d
  have side := one_side o.rev1 hCd (Int.le_of_lt hC)
  have hA' : 0 < tI u v d * tI v w c - tI u v c * tI v w d := by
    have ec := vz_eq u v w z c
    have ed := vz_eq u v w z d
    have id : tI u v z * (tI u v d * tI v w c - tI u v c * tI v w d) = tI u v w * (-(tI v z d) * tI u v c + tI v z c * tI u v d) := by
      have : tI u v w * (-(tI v z d) * tI u v c + tI v z c * tI u v d) = -(tI u v w * tI v z d) * tI u v c + (tI u v w * tI v z c) * tI u v d := by grind
      rw [this, ec, ed]; grind
    have := Int.mul_pos hD hX
    exact pos_of_mul_pos (Int.le_of_lt hCz) (by omega)
  have hB' : 0 ≤ tI u v d * tI w u c - tI u v c * tI w u d := by
    apply Int.not_lt.1
    intro hn
    have id : tI v z c * (tI u v d * tI w u c - tI u v c * tI w u d) = tI w u c * (-(tI v z d) * tI u v c + tI v z c * tI u v d) - tI u v c * (-(tI v z d) * tI w u c + tI v z c * tI w u d) := by grind
    have m1 := Int.mul_neg_of_pos_of_neg h1 hn
    have m2 := nn (show 0 ≤ tI w u c by omega) (Int.le_of_lt hX)
    have m3 : 0 ≤ -(tI v z d) * tI w u c + tI v z c * tI w u d := by
      rw [x2]
      have := nn (Int.le_of_lt hZ) (Int.le_of_lt hD)
      have := pn (Int.le_of_lt hV) hBz
      omega
    have m4 := pn (Int.le_of_lt hC) m3
    omega
  have on := on_line_eq u v w c d
  refine signs3 on (Int.le_of_lt hA') hB' (by omega) ?_
  have r1 := tI_neg c d u
  have r2 := tI_neg c d v
  omega

/-- The mirror image: the other end, or the line meets the edge v w. -/
def mir (p : Int × Int) : Int × Int := (-p.1, p.2)

theorem tI_mir (a b c : Int × Int) : tI (mir a) (mir b) (mir c) = - tI a b c := by unfold tI mir; grind

theorem onI_mir (a b p : Int × Int) : onI (mir a) (mir b) (mir p) = onI a b p := by
  rw [Bool.eq_iff_iff, onI_iff, onI_iff, tI_mir]
  have e : ((mir a).1 - (mir p).1) * ((mir b).1 - (mir p).1) = (a.1 - p.1) * (b.1 - p.1) := by unfold mir; grind
  rw [e]
  constructor <;> rintro ⟨h1, h2, h3⟩ <;> exact ⟨by omega, h2, h3⟩

theorem Off.mir {p q a b : Int × Int} (h : Off p q a b) : Off (mir p) (mir q) (mir a) (mir b) := by
  refine ⟨by rw [onI_mir]; exact h.pa, by rw [onI_mir]; exact h.pb, by rw [onI_mir]; exact h.ap, by rw [onI_mir]; exact h.aq, ?_⟩
  rw [tI_mir, tI_mir, tI_mir, tI_mir, Int.neg_mul_neg, Int.neg_mul_neg]
  exact h.cr

theorem low_end' {u v w z c d : Int × Int} (hD : 0 < tI u v w) (hCz : 0 < tI u v z) (hAz : 0 < tI v w z) (hBz : 0 ≤ tI w u z) (hz : tI w u z < tI u v w)
    (hd : InT u v w d → tI w u d ≤ tI w u z) (o : Off c d v w) (h1 : 0 < tI v z c) (h2 : tI v z d < 0) (hV : tI c d v < 0) (hZ : 0 < tI c d z) : tI w u d ≤ tI w u z := by
  have e1 : ∀ x, tI (mir w) (mir v) (mir x) = tI v w x := fun x => by rw [tI_mir, tI_neg v w x]; omega
  have e2 : ∀ x, tI (mir v) (mir u) (mir x) = tI u v x := fun x => by rw [tI_mir, tI_neg u v x]; omega
  have e3 : ∀ x, tI (mir u) (mir w) (mir x) = tI w u x := fun x => by rw [tI_mir, tI_neg w u x]; omega
  have hD' : tI v w u = tI u v w := (tI_cyc u v w).symm
  have key := low_end (u := mir w) (v := mir v) (w := mir u) (z := mir z) (c := mir d) (d := mir c)
    (by rw [e1, hD']; exact hD) (by rw [e1]; exact hAz) (by rw [e2]; exact hCz) (by rw [e3]; exact hBz) (by rw [e3, e1, hD']; exact hz)
    (fun hi => by
      obtain ⟨i1, i2, i3⟩ := hi
      rw [e1] at i1; rw [e2] at i2; rw [e3] at i3
      rw [e3, e3]; exact hd ⟨i2, i1, i3⟩)
    (o.rev1.rev2.mir)
    (by rw [tI_mir]; omega) (by rw [tI_mir]; omega) (by rw [tI_mir, tI_neg c d v]; omega) (by rw [tI_mir, tI_neg c d z]; omega)
  rw [e3, e3] at key
  exact key

/-- No line whose ends lie low, or that meets neither edge at v, crosses v z. -/
theorem no_cross {u v w z c d : Int × Int} (hD : 0 < tI u v w) (hCz : 0 < tI u v z) (hAz : 0 < tI v w z) (hBz : 0 ≤ tI w u z) (hz : tI w u z < tI u v w)
    (hc : InT u v w c → tI w u c ≤ tI w u z) (hd : InT u v w d → tI w u d ≤ tI w u z)
    (o1 : tI w u c ≤ tI w u z ∨ Off c d u v) (o2 : tI w u d ≤ tI w u z ∨ Off c d v w)
    (h1 : 0 < tI v z c) (h2 : tI v z d < 0) (hV : tI c d v < 0) (hZ : 0 < tI c d z) : False := by
  have l1 : tI w u c ≤ tI w u z := o1.elim id fun o => low_end hD hCz hAz hBz hz hc o h1 h2 hV hZ
  have l2 : tI w u d ≤ tI w u z := o2.elim id fun o => low_end' hD hCz hAz hBz hz hd o h1 h2 hV hZ
  have x2 := cross_pt v z c d w u
  have hwv : tI w u v = tI u v w := by unfold tI; grind
  have hP : tI v z c - tI v z d = tI c d z - tI c d v := tI_diff v z c d
  rw [hwv] at x2
  have m1 := Int.mul_le_mul_of_nonneg_left l1 (show 0 ≤ -(tI v z d) by omega)
  have m2 := Int.mul_le_mul_of_nonneg_left l2 (show 0 ≤ tI v z c by omega)
  have m3 := Int.mul_lt_mul_of_pos_left hz hZ
  have e : -(tI v z d) * tI w u z + tI v z c * tI w u z = tI c d z * tI w u z - tI c d v * tI w u z := by
    have : -(tI v z d) * tI w u z + tI v z c * tI w u z = (tI v z c - tI v z d) * tI w u z := by grind
    rw [this, hP]; grind
  omega

/-- Off, put together. -/
theorem off_mk {p q a b : Int × Int} (h1 : onI p q a = false) (h2 : onI p q b = false) (h3 : onI a b p = false) (h4 : onI a b q = false) (h5 : ¬ (tI p q a * tI p q b < 0 ∧ tI a b p * tI a b q < 0)) : Off p q a b := ⟨h1, h2, h3, h4, h5⟩

theorem mul_neg_cases {x y : Int} (h : x * y < 0) : (0 < x ∧ y < 0) ∨ (x < 0 ∧ 0 < y) := by
  rcases Int.lt_trichotomy x 0 with h1 | h1 | h1 <;> rcases Int.lt_trichotomy y 0 with h2 | h2 | h2
  · have := Int.mul_pos_of_neg_of_neg h1 h2; omega
  · subst h2; simp at h
  · exact .inr ⟨h1, h2⟩
  · subst h1; simp at h
  · subst h1; simp at h
  · subst h1; simp at h
  · exact .inl ⟨h1, h2⟩
  · subst h2; simp at h
  · have := Int.mul_pos h1 h2; omega

/-- A point of a line, weighed by its ends. -/
theorem weights {v z c : Int × Int} (h : onI v z c = true) (hne : v ≠ z) : ∃ m k : Int, 0 ≤ m ∧ 0 ≤ k ∧ 0 < m + k ∧ (∀ a b : Int × Int, (m + k) * tI a b c = m * tI a b v + k * tI a b z) ∧ (m = 0 → c = z) ∧ (k = 0 → c = v) := by
  rw [onI_iff] at h
  obtain ⟨h0, hx, hy⟩ := h
  have bt : ∀ {p q r : Int}, (p - r) * (q - r) ≤ 0 → (p ≤ r ∧ r ≤ q) ∨ (q ≤ r ∧ r ≤ p) := by
    intro p q r hp
    have := (onX_iff p q r).2 hp
    simp only [onX, Bool.and_eq_true, decide_eq_true_eq] at this
    omega
  obtain ⟨v1, v2⟩ := v
  obtain ⟨z1, z2⟩ := z
  obtain ⟨c1, c2⟩ := c
  simp only at hx hy
  have bx := bt hx
  have bY := bt hy
  have fin : ∀ {s t r : Int}, (s - t) * r = 0 → s ≠ t → r = 0 := by
    intro s t r hm hn
    rcases Int.mul_eq_zero.1 hm with h | h
    · omega
    · exact h
  simp only [tI] at h0
  by_cases h1 : v1 = z1
  · have h2 : v2 ≠ z2 := fun h2 => hne (by rw [h1, h2])
    have hc1 : c1 = v1 := by omega
    rcases bY with hb | hb
    · refine ⟨z2 - c2, c2 - v2, by omega, by omega, by omega, fun a b => ?_, fun hm => ?_, fun hk => ?_⟩
      · subst h1; subst hc1; unfold tI; grind
      · rw [hc1, h1]; congr 1; omega
      · rw [hc1]; congr 1; omega
    · refine ⟨c2 - z2, v2 - c2, by omega, by omega, by omega, fun a b => ?_, fun hm => ?_, fun hk => ?_⟩
      · subst h1; subst hc1; unfold tI; grind
      · rw [hc1, h1]; congr 1; omega
      · rw [hc1]; congr 1; omega
  · rcases bx with hb | hb
    · refine ⟨z1 - c1, c1 - v1, by omega, by omega, by omega, fun a b => ?_, fun hm => ?_, fun hk => ?_⟩
      · unfold tI; grind
      · have e1 : c1 = z1 := by omega
        have : (z1 - v1) * (c2 - z2) = 0 := by subst e1; grind
        have := fin this (fun h => h1 h.symm)
        rw [e1]; congr 1; omega
      · have e1 : c1 = v1 := by omega
        have : (z1 - v1) * (c2 - v2) = 0 := by subst e1; grind
        have := fin this (fun h => h1 h.symm)
        rw [e1]; congr 1; omega
    · refine ⟨c1 - z1, v1 - c1, by omega, by omega, by omega, fun a b => ?_, fun hm => ?_, fun hk => ?_⟩
      · unfold tI; grind
      · have e1 : c1 = z1 := by omega
        have : (z1 - v1) * (c2 - z2) = 0 := by subst e1; grind
        have := fin this (fun h => h1 h.symm)
        rw [e1]; congr 1; omega
      · have e1 : c1 = v1 := by omega
        have : (z1 - v1) * (c2 - v2) = 0 := by subst e1; grind
        have := fin this (fun h => h1 h.symm)
        rw [e1]; congr 1; omega

/-- A point of the line v z (not an end) lies in the triangle, above z. -/
theorem on_vz {u v w z c : Int × Int} (hD : 0 < tI u v w) (hCz : 0 < tI u v z) (hAz : 0 < tI v w z) (hBz : 0 ≤ tI w u z) (hz : tI w u z < tI u v w)
    (hc : InT u v w c → tI w u c ≤ tI w u z) (hcz : c ≠ z) (hcv : c ≠ v) : onI v z c = false := by
  cases h : onI v z c with
  | false => rfl
  | true =>
    exfalso
    have hne : v ≠ z := by intro e; subst e; have : tI u v v = 0 := by unfold tI; grind
                           omega
    obtain ⟨m, k, hm, hk, hmk, hw, m0, k0⟩ := weights h hne
    have hm' : 0 < m := by rcases Int.lt_or_eq_of_le hm with h | h; exact h; exact absurd (m0 h.symm) hcz
    have e1 := hw u v
    have e2 := hw v w
    have e3 := hw w u
    have z1 : tI u v v = 0 := by unfold tI; grind
    have z2 : tI v w v = 0 := by unfold tI; grind
    have z3 : tI w u v = tI u v w := by unfold tI; grind
    rw [z1, Int.mul_zero] at e1
    rw [z2, Int.mul_zero] at e2
    rw [z3] at e3
    have nonneg : ∀ {x : Int}, 0 ≤ (m + k) * x → 0 ≤ x := by
      intro x hx
      apply Int.not_lt.1; intro hn
      have := Int.mul_neg_of_pos_of_neg hmk hn; omega
    have g1 : 0 ≤ tI u v c := nonneg (by have := nn hk (Int.le_of_lt hCz); omega)
    have g2 : 0 ≤ tI v w c := nonneg (by have := nn hk (Int.le_of_lt hAz); omega)
    have g3 : tI w u z < tI w u c := by
      have m1 := Int.mul_lt_mul_of_pos_left hz hm'
      have m2 : (m + k) * tI w u z = m * tI w u z + k * tI w u z := Int.add_mul _ _ _
      apply Int.not_le.1; intro hn
      have := Int.mul_le_mul_of_nonneg_left hn (Int.le_of_lt hmk)
      omega
    have := hc ⟨g1, g2, by omega⟩
    omega

/-- The line from v to z, the highest point of the triangle, meets no line of which an end that is not low has the edge beside it free. -/
theorem diag_off {u v w z c d : Int × Int} (hD : 0 < tI u v w) (hCz : 0 < tI u v z) (hAz : 0 < tI v w z) (hBz : 0 ≤ tI w u z) (hz : tI w u z < tI u v w)
    (hc : InT u v w c → tI w u c ≤ tI w u z) (hd : InT u v w d → tI w u d ≤ tI w u z)
    (c1 : tI w u c ≤ tI w u z ∨ Off c d u v) (c2 : tI w u c ≤ tI w u z ∨ Off c d v w) (d1 : tI w u d ≤ tI w u z ∨ Off c d u v) (d2 : tI w u d ≤ tI w u z ∨ Off c d v w)
    (hcz : c ≠ z) (hcv : c ≠ v) (hdz : d ≠ z) (hdv : d ≠ v) (nv : onI c d v = false) (nz : onI c d z = false) : Off v z c d := by
  refine ⟨on_vz hD hCz hAz hBz hz hc hcz hcv, on_vz hD hCz hAz hBz hz hd hdz hdv, nv, nz, ?_⟩
  rintro ⟨h1, h2⟩
  have hP : tI v z c - tI v z d = tI c d z - tI c d v := tI_diff v z c d
  rcases mul_neg_cases h1 with ⟨a1, a2⟩ | ⟨a1, a2⟩ <;> rcases mul_neg_cases h2 with ⟨b1, b2⟩ | ⟨b1, b2⟩
  · omega
  · exact no_cross hD hCz hAz hBz hz hc hd c1 d2 a1 a2 b1 b2
  · have r1 := tI_neg c d v
    have r2 := tI_neg c d z
    exact no_cross hD hCz hAz hBz hz hd hc (d1.imp id Off.rev1) (c2.imp id Off.rev1) a2 a1 (by omega) (by omega)
  · omega
end

section
set_option linter.unusedVariables false

theorem row_eq (u v w c d : Int × Int) : tI v w d * tI c d u + tI w u d * tI c d v + tI u v d * tI c d w = 0 := by unfold tI; grind

theorem opp_sum (u v w c d : Int × Int) : tI c d w - tI c d u = tI w u d - tI w u c := by unfold tI; grind

theorem ear_half {u v w c d : Int × Int} (hD : 0 < tI u v w) (nd : ¬ InT u v w d) (o1 : Off c d u v) (o2 : Off c d v w)
    (hc : tI w u c < 0) (hd : 0 < tI w u d) (hx : tI c d u * tI c d w < 0) : False := by
  have hs := opp_sum u v w c d
  have hu : tI c d u < 0 ∧ 0 < tI c d w := by
    rcases mul_neg_cases hx with ⟨a, b⟩ | ⟨a, b⟩
    · omega
    · exact ⟨a, b⟩
  have row := row_eq u v w c d
  have rowc : tI v w c * tI c d u + tI w u c * tI c d v + tI u v c * tI c d w = 0 := by unfold tI; grind
  have eC : tI w u d * tI u v c - tI w u c * tI u v d = -(tI u v w * tI c d u) := by unfold tI; grind
  have eA : tI w u d * tI v w c - tI w u c * tI v w d = tI u v w * tI c d w := by unfold tI; grind
  have pC := Int.mul_neg_of_pos_of_neg hD hu.1
  have pA := Int.mul_pos hD hu.2
  by_cases hC : tI u v d < 0
  · have k1 := Int.mul_pos_of_neg_of_neg hc hC
    have hCc : 0 < tI u v c := pos_of_mul_pos (Int.le_of_lt hd) (by omega)
    have s1 := one_side o1 hCc (Int.le_of_lt hC)
    have hv : tI c d v < 0 := by omega
    by_cases hA : tI v w d < 0
    · have k2 := Int.mul_pos_of_neg_of_neg hc hA
      have hAc : 0 < tI v w c := pos_of_mul_pos (Int.le_of_lt hd) (by omega)
      have s2 := one_side o2 hAc (Int.le_of_lt hA)
      omega
    · have r1 := np (show 0 ≤ tI v w d by omega) (Int.le_of_lt hu.1)
      have r2 := Int.mul_neg_of_pos_of_neg hd hv
      have r3 := Int.mul_neg_of_neg_of_pos hC hu.2
      omega
  · have hA : tI v w d < 0 := by
      apply Int.not_le.1; intro hA
      exact nd ⟨by omega, hA, by omega⟩
    have k2 := Int.mul_pos_of_neg_of_neg hc hA
    have hAc : 0 < tI v w c := pos_of_mul_pos (Int.le_of_lt hd) (by omega)
    have s2 := one_side o2 hAc (Int.le_of_lt hA)
    have hv : 0 < tI c d v := by omega
    have r1 := Int.mul_pos_of_neg_of_neg hA hu.1
    have r2 := Int.mul_pos hd hv
    have r3 := nn (show 0 ≤ tI u v d by omega) (Int.le_of_lt hu.2)
    omega

theorem on_uw {u v w c : Int × Int} (hD : 0 < tI u v w) (nc : ¬ InT u v w c) : onI u w c = false := by
  cases h : onI u w c with
  | false => rfl
  | true =>
    exfalso
    have hne : u ≠ w := by
      intro e; subst e
      have : tI u v u = 0 := by unfold tI; grind
      omega
    obtain ⟨m, k, hm, hk, hmk, hw, _, _⟩ := weights h hne
    have nonneg : ∀ {x : Int}, 0 ≤ (m + k) * x → 0 ≤ x := by
      intro x hx
      apply Int.not_lt.1; intro hn
      have := Int.mul_neg_of_pos_of_neg hmk hn; omega
    have z1 : tI u v u = 0 := by unfold tI; grind
    have z2 : tI v w w = 0 := by unfold tI; grind
    have z3 : tI v w u = tI u v w := by unfold tI; grind
    have z4 : tI w u u = 0 := by unfold tI; grind
    have z5 : tI w u w = 0 := by unfold tI; grind
    refine nc ⟨nonneg ?_, nonneg ?_, nonneg ?_⟩
    · rw [hw, z1, Int.mul_zero, Int.zero_add]; exact nn hk (Int.le_of_lt hD)
    · rw [hw, z2, z3, Int.mul_zero, Int.add_zero]; exact nn hm (Int.le_of_lt hD)
    · rw [hw, z4, z5, Int.mul_zero, Int.mul_zero]; decide

/-- The line between a corner's neighbours meets no line that meets neither of the corner's edges and has no end in the triangle. -/
theorem ear_off {u v w c d : Int × Int} (hD : 0 < tI u v w) (nc : ¬ InT u v w c) (nd : ¬ InT u v w d) (o1 : Off c d u v) (o2 : Off c d v w) : Off u w c d := by
  refine ⟨on_uw hD nc, on_uw hD nd, o1.pa, o2.pb, ?_⟩
  rintro ⟨h1, h2⟩
  have e1 := tI_neg w u c
  have e2 := tI_neg w u d
  rcases mul_neg_cases h1 with ⟨a1, a2⟩ | ⟨a1, a2⟩
  · exact ear_half hD nd o1 o2 (by omega) (by omega) h2
  · refine ear_half hD nc o1.rev1 o2.rev1 (by omega) (by omega) ?_
    rw [tI_neg c d u, tI_neg c d w, Int.neg_mul_neg]; exact h2

/-- The three edges of a triangle go round the points within it once, and round no other. -/
def wt (p u v w : Int × Int) : Int := cr p u v + cr p v w + cr p w u

theorem wt_cyc (p u v w : Int × Int) : wt p u v w = wt p v w u := by unfold wt; omega

theorem hgt (p u v w : Int × Int) : tI v w p * (u.2 - p.2) + tI w u p * (v.2 - p.2) + tI u v p * (w.2 - p.2) = 0 := by unfold tI; grind

theorem cr_up {p a b : Int × Int} (h1 : a.2 ≤ p.2) (h2 : p.2 < b.2) : cr p a b = if 0 < tI a b p then 1 else 0 := by
  unfold cr
  by_cases h : 0 < tI a b p
  · rw [if_pos ⟨h1, h2, h⟩, if_pos h]
  · rw [if_neg (fun x => h x.2.2), if_neg (by omega), if_neg h]
theorem cr_down {p a b : Int × Int} (h1 : b.2 ≤ p.2) (h2 : p.2 < a.2) : cr p a b = if tI a b p < 0 then -1 else 0 := by
  unfold cr
  by_cases h : tI a b p < 0
  · rw [if_neg (by omega), if_pos ⟨h1, h2, h⟩, if_pos h]
  · rw [if_neg (by omega), if_neg (fun x => h x.2.2), if_neg h]
theorem cr_low {p a b : Int × Int} (h1 : a.2 ≤ p.2) (h2 : b.2 ≤ p.2) : cr p a b = 0 := by
  unfold cr; rw [if_neg (by omega), if_neg (by omega)]
theorem cr_high {p a b : Int × Int} (h1 : p.2 < a.2) (h2 : p.2 < b.2) : cr p a b = 0 := by
  unfold cr; rw [if_neg (by omega), if_neg (by omega)]

/-- The case that u lies low and v high. -/
theorem wt_core {p u v w : Int × Int} (hD : 0 < tI u v w) (hu : u.2 ≤ p.2) (hv : p.2 < v.2) :
    (¬ InT u v w p → wt p u v w = 0) ∧ (0 < tI u v p → 0 < tI v w p → 0 < tI w u p → wt p u v w = 1) := by
  have hs := tI_sum u v w p
  have hh := hgt p u v w
  unfold wt
  rw [cr_up hu hv]
  by_cases hw : w.2 ≤ p.2
  · rw [cr_down hw hv, cr_low hw hu]
    constructor
    · intro n
      by_cases hC : 0 < tI u v p
      · have hA : tI v w p < 0 := by
          apply Int.not_le.1; intro hA
          have k1 := np hA (show u.2 - p.2 ≤ 0 by omega)
          have k2 := np (Int.le_of_lt hC) (show w.2 - p.2 ≤ 0 by omega)
          have hB : 0 ≤ tI w u p := by
            apply Int.not_lt.1; intro hB
            have := Int.mul_neg_of_neg_of_pos hB (show 0 < v.2 - p.2 by omega)
            omega
          exact n ⟨by omega, hA, hB⟩
        rw [if_pos hC, if_pos hA]; rfl
      · have hA : ¬ tI v w p < 0 := by
          intro hA
          have k1 : 0 ≤ tI v w p * (u.2 - p.2) := Int.mul_nonneg_of_nonpos_of_nonpos (by omega) (by omega)
          have k2 : 0 ≤ tI u v p * (w.2 - p.2) := Int.mul_nonneg_of_nonpos_of_nonpos (by omega) (by omega)
          have hB : tI w u p ≤ 0 := by
            apply Int.not_lt.1; intro hB
            have := Int.mul_pos hB (show 0 < v.2 - p.2 by omega)
            omega
          omega
        rw [if_neg hC, if_neg hA]; rfl
    · intro hC hA hB
      rw [if_pos hC, if_neg (by omega)]; rfl
  · have hw' : p.2 < w.2 := by omega
    rw [cr_high hv hw', cr_down hu hw']
    constructor
    · intro n
      by_cases hC : 0 < tI u v p
      · have hB : tI w u p < 0 := by
          apply Int.not_le.1; intro hB
          have k1 := nn hB (show 0 ≤ v.2 - p.2 by omega)
          have k2 := Int.mul_pos hC (show 0 < w.2 - p.2 by omega)
          have hA : 0 ≤ tI v w p := by
            apply Int.not_lt.1; intro hA
            have : 0 ≤ tI v w p * (u.2 - p.2) := Int.mul_nonneg_of_nonpos_of_nonpos (by omega) (by omega)
            omega
          exact n ⟨by omega, hA, hB⟩
        rw [if_pos hC, if_pos hB]; rfl
      · have hB : ¬ tI w u p < 0 := by
          intro hB
          have k1 := Int.mul_neg_of_neg_of_pos hB (show 0 < v.2 - p.2 by omega)
          have k2 := pn (show tI u v p ≤ 0 by omega) (show 0 ≤ w.2 - p.2 by omega)
          have hA : tI v w p < 0 := by
            apply Int.not_le.1; intro hA
            have := np hA (show u.2 - p.2 ≤ 0 by omega)
            omega
          omega
        rw [if_neg hC, if_neg hB]; rfl
    · intro hC hA hB
      rw [if_pos hC, if_neg (by omega)]; rfl

theorem InT_cyc {u v w p : Int × Int} (h : InT v w u p) : InT u v w p := ⟨h.2.2, h.1, h.2.1⟩

theorem wt_all {p u v w : Int × Int} (hD : 0 < tI u v w) :
    (¬ InT u v w p → wt p u v w = 0) ∧ (0 < tI u v p → 0 < tI v w p → 0 < tI w u p → wt p u v w = 1) := by
  have d1 : tI v w u = tI u v w := (tI_cyc u v w).symm
  have d2 : tI w u v = tI u v w := by rw [tI_cyc w u v]
  have case2 : v.2 ≤ p.2 → p.2 < w.2 → (¬ InT u v w p → wt p u v w = 0) ∧ (0 < tI u v p → 0 < tI v w p → 0 < tI w u p → wt p u v w = 1) := by
    intro h1 h2
    have k := wt_core (p := p) (u := v) (v := w) (w := u) (by omega) h1 h2
    rw [wt_cyc p u v w]
    exact ⟨fun n => k.1 (fun hi => n (InT_cyc hi)), fun a b c => k.2 b c a⟩
  have case3 : w.2 ≤ p.2 → p.2 < u.2 → (¬ InT u v w p → wt p u v w = 0) ∧ (0 < tI u v p → 0 < tI v w p → 0 < tI w u p → wt p u v w = 1) := by
    intro h1 h2
    have k := wt_core (p := p) (u := w) (v := u) (w := v) (by omega) h1 h2
    rw [wt_cyc p u v w, wt_cyc p v w u]
    exact ⟨fun n => k.1 (fun hi => n (InT_cyc (InT_cyc hi))), fun a b c => k.2 c a b⟩
  have hh := hgt p u v w
  have hs := tI_sum u v w p
  by_cases hu : u.2 ≤ p.2 <;> by_cases hv : v.2 ≤ p.2 <;> by_cases hw : w.2 ≤ p.2
  · have e : wt p u v w = 0 := by unfold wt; rw [cr_low hu hv, cr_low hv hw, cr_low hw hu]; rfl
    refine ⟨fun _ => e, fun a b c => ?_⟩
    exfalso
    have k1 := np (Int.le_of_lt b) (show u.2 - p.2 ≤ 0 by omega)
    have k2 := np (Int.le_of_lt c) (show v.2 - p.2 ≤ 0 by omega)
    have k3 := np (Int.le_of_lt a) (show w.2 - p.2 ≤ 0 by omega)
    have z1 : tI v w p * (u.2 - p.2) = 0 := by omega
    have z2 : tI w u p * (v.2 - p.2) = 0 := by omega
    have z3 : tI u v p * (w.2 - p.2) = 0 := by omega
    have y1 : u.2 = p.2 := by rcases Int.mul_eq_zero.1 z1 with h | h <;> omega
    have y2 : v.2 = p.2 := by rcases Int.mul_eq_zero.1 z2 with h | h <;> omega
    have y3 : w.2 = p.2 := by rcases Int.mul_eq_zero.1 z3 with h | h <;> omega
    have : tI u v w = 0 := by unfold tI; rw [y1, y2, y3]; simp
    omega
  · exact case2 hv (by omega)
  · exact wt_core hD hu (by omega)
  · exact wt_core hD hu (by omega)
  · exact case3 hw (by omega)
  · exact case2 hv (by omega)
  · exact case3 hw (by omega)
  · have e : wt p u v w = 0 := by unfold wt; rw [cr_high (by omega) (by omega), cr_high (by omega) (by omega), cr_high (by omega) (by omega)]; rfl
    refine ⟨fun _ => e, fun a b c => ?_⟩
    exfalso
    have k1 := Int.mul_pos b (show 0 < u.2 - p.2 by omega)
    have k2 := Int.mul_pos c (show 0 < v.2 - p.2 by omega)
    have k3 := Int.mul_pos a (show 0 < w.2 - p.2 by omega)
    omega

theorem wt_out {p u v w : Int × Int} (hD : 0 < tI u v w) (n : ¬ InT u v w p) : wt p u v w = 0 := (wt_all hD).1 n
theorem wt_in {p u v w : Int × Int} (hD : 0 < tI u v w) (h1 : 0 < tI u v p) (h2 : 0 < tI v w p) (h3 : 0 < tI w u p) : wt p u v w = 1 := (wt_all hD).2 h1 h2 h3

/-- The furthest to the right (of those, the highest). -/
def LexLe (a b : Int × Int) : Prop := a.1 < b.1 ∨ (a.1 = b.1 ∧ a.2 ≤ b.2)

/-- No edge lies to the right of a point that is furthest to the right. -/
theorem cr_far {p a b : Int × Int} (ha : LexLe a p) (hb : LexLe b p) : cr p a b = 0 := by
  have e : tI a b p = (b.1 - a.1) * (p.2 - a.2) - (b.2 - a.2) * (p.1 - a.1) := rfl
  have e' : tI a b p = (p.1 - b.1) * (a.2 - p.2) + (p.1 - a.1) * (p.2 - b.2) := by unfold tI; grind
  have ha1 : 0 ≤ p.1 - a.1 := by unfold LexLe at ha; omega
  have hb1 : 0 ≤ p.1 - b.1 := by unfold LexLe at hb; omega
  unfold cr
  by_cases h1 : a.2 ≤ p.2 ∧ p.2 < b.2 ∧ 0 < tI a b p
  · exfalso
    have k1 := np hb1 (show a.2 - p.2 ≤ 0 by omega)
    have k2 := np ha1 (show p.2 - b.2 ≤ 0 by omega)
    omega
  · rw [if_neg h1]
    by_cases h2 : b.2 ≤ p.2 ∧ p.2 < a.2 ∧ tI a b p < 0
    · exfalso
      have k1 := nn hb1 (show 0 ≤ a.2 - p.2 by omega)
      have k2 := nn ha1 (show 0 ≤ p.2 - b.2 by omega)
      omega
    · rw [if_neg h2]

theorem wn_far {p : Int × Int} {l : List (Int × Int)} (h : ∀ i, LexLe (pAt l i) p) : wn p l = 0 := by
  unfold wn
  have : ∀ n, sumN (fun i => cr p (pAt l i) (pAt l (nextI l.length i))) n = 0 := by
    intro n
    induction n with
    | zero => rfl
    | succ n ih => simp only [sumN]; rw [ih, cr_far (h _) (h _)]; rfl
  exact this _
end

section
set_option linter.unusedVariables false

/-- Two lines have no point in common but ends. -/
structure Clean (a b c d : Int × Int) : Prop where
  oc : c ≠ a → c ≠ b → onI a b c = false
  od : d ≠ a → d ≠ b → onI a b d = false
  oa : a ≠ c → a ≠ d → onI c d a = false
  ob : b ≠ c → b ≠ d → onI c d b = false
  ox : ¬ (tI a b c * tI a b d < 0 ∧ tI c d a * tI c d b < 0)

theorem Clean.off {a b c d : Int × Int} (h : Clean a b c d) (h1 : a ≠ c) (h2 : a ≠ d) (h3 : b ≠ c) (h4 : b ≠ d) : Off a b c d :=
  ⟨h.oc (Ne.symm h1) (Ne.symm h3), h.od (Ne.symm h2) (Ne.symm h4), h.oa h1 h2, h.ob h3 h4, h.ox⟩
theorem Clean.swap {a b c d : Int × Int} (h : Clean a b c d) : Clean c d a b := ⟨h.oa, h.ob, h.oc, h.od, fun k => h.ox ⟨k.2, k.1⟩⟩
theorem Off.clean {a b c d : Int × Int} (h : Off a b c d) : Clean a b c d := ⟨fun _ _ => h.pa, fun _ _ => h.pb, fun _ _ => h.ap, fun _ _ => h.aq, h.cr⟩
theorem Clean.rev1 {a b c d : Int × Int} (h : Clean a b c d) : Clean b a c d :=
  ⟨fun k1 k2 => by rw [onI_comm]; exact h.oc k2 k1, fun k1 k2 => by rw [onI_comm]; exact h.od k2 k1, h.ob, h.oa, fun k => h.ox ⟨by rw [tI_neg a b c, tI_neg a b d, Int.neg_mul_neg] at k; exact k.1, by rw [Int.mul_comm]; exact k.2⟩⟩
theorem Clean.rev2 {a b c d : Int × Int} (h : Clean a b c d) : Clean a b d c := h.swap.rev1.swap

def path : (Int × Int) → List (Int × Int) → List ((Int × Int) × (Int × Int))
  | _, [] => []
  | a, b :: r => (a, b) :: path b r

theorem path_append (a b : Int × Int) (r s : List (Int × Int)) : path a (r ++ b :: s) = path a (r ++ [b]) ++ path b s := by
  induction r generalizing a with
  | nil => rfl
  | cons c r ih => simp only [List.cons_append, path]; rw [ih c]

def edges : List (Int × Int) → List ((Int × Int) × (Int × Int))
  | [] => []
  | a :: r => path a (r ++ [a])

theorem edges_two (a b : Int × Int) (r s : List (Int × Int)) : edges (a :: r ++ b :: s) = path a (r ++ [b]) ++ path b (s ++ [a]) := by
  show path a ((r ++ b :: s) ++ [a]) = _
  rw [List.append_assoc, List.cons_append, path_append]

theorem edges_rot (l m : List (Int × Int)) : (edges (l ++ m)).Perm (edges (m ++ l)) := by
  cases l with
  | nil => rw [List.nil_append, List.append_nil]
  | cons a r =>
    cases m with
    | nil => rw [List.nil_append, List.append_nil]
    | cons b s =>
      rw [edges_two, edges_two]
      exact List.perm_append_comm

theorem path_mem {e : (Int × Int) × (Int × Int)} : ∀ {a : Int × Int} {r : List (Int × Int)}, e ∈ path a r → e.1 ∈ a :: r ∧ e.2 ∈ r
  | a, [], h => by simp [path] at h
  | a, b :: r, h => by
    simp only [path, List.mem_cons] at h
    rcases h with h | h
    · subst h; simp
    · have := path_mem h
      exact ⟨List.mem_cons_of_mem _ this.1, List.mem_cons_of_mem _ this.2⟩

theorem edges_mem {e : (Int × Int) × (Int × Int)} {l : List (Int × Int)} (h : e ∈ edges l) : e.1 ∈ l ∧ e.2 ∈ l := by
  cases l with
  | nil => simp [edges] at h
  | cons a r =>
    have := path_mem h
    simp only [List.mem_cons, List.mem_append, List.not_mem_nil, or_false] at *
    constructor
    · rcases this.1 with h | h | h
      · exact .inl h
      · exact .inr h
      · exact .inl h
    · rcases this.2 with h | h
      · exact .inr h
      · exact .inl h

/-- A polygon: three corners or more, no two the same, no two edges with a point in common but ends. -/
structure Simple (l : List (Int × Int)) : Prop where
  nodup : l.Nodup
  three : 3 ≤ l.length
  clean : ∀ e ∈ edges l, ∀ f ∈ edges l, e ≠ f → Clean e.1 e.2 f.1 f.2

theorem Simple.rot {l m : List (Int × Int)} (h : Simple (l ++ m)) : Simple (m ++ l) :=
  ⟨(List.perm_append_comm.nodup_iff).1 h.nodup, by have := h.three; simp at *; omega,
   fun e he f hf hne => h.clean e ((edges_rot l m).mem_iff.2 he) f ((edges_rot l m).mem_iff.2 hf) hne⟩

def sumE (F : (Int × Int) × (Int × Int) → Int) : List ((Int × Int) × (Int × Int)) → Int
  | [] => 0
  | e :: r => F e + sumE F r

theorem sumE_append (F : (Int × Int) × (Int × Int) → Int) (l m : List ((Int × Int) × (Int × Int))) : sumE F (l ++ m) = sumE F l + sumE F m := by
  induction l with
  | nil => simp [sumE]
  | cons e l ih => simp only [List.cons_append, sumE]; rw [ih]; omega

theorem sumE_perm {F : (Int × Int) × (Int × Int) → Int} {l m : List ((Int × Int) × (Int × Int))} (h : l.Perm m) : sumE F l = sumE F m := by
  induction h with
  | nil => rfl
  | cons x _ ih => simp only [sumE]; rw [ih]
  | swap x y l => simp only [sumE]; omega
  | trans _ _ i1 i2 => exact i1.trans i2

/-- How often a closed way goes round p. -/
def wc (p : Int × Int) (l : List (Int × Int)) : Int := sumE (fun e => cr p e.1 e.2) (edges l)

theorem wc_rot (p : Int × Int) (l m : List (Int × Int)) : wc p (l ++ m) = wc p (m ++ l) := sumE_perm (edges_rot l m)

theorem path_tele (g : Int × Int → Int) : ∀ (a b : Int × Int) (r : List (Int × Int)), sumE (fun e => g e.2 - g e.1) (path a (r ++ [b])) = g b - g a
  | a, b, [] => by simp [path, sumE]
  | a, b, c :: r => by
    simp only [List.cons_append, path, sumE]
    rw [path_tele g c b r]; omega

theorem edges_tele (g : Int × Int → Int) (l : List (Int × Int)) : sumE (fun e => g e.2 - g e.1) (edges l) = 0 := by
  cases l with
  | nil => rfl
  | cons a r => show sumE _ (path a (r ++ [a])) = 0; rw [path_tele]; omega

theorem sumE_congr {F G : (Int × Int) × (Int × Int) → Int} : ∀ {l : List ((Int × Int) × (Int × Int))}, (∀ e ∈ l, F e = G e) → sumE F l = sumE G l
  | [], _ => rfl
  | e :: l, h => by
    simp only [sumE]
    rw [h e (List.mem_cons_self ..), sumE_congr fun x hx => h x (List.mem_cons_of_mem _ hx)]

theorem sumE_sub (F G : (Int × Int) × (Int × Int) → Int) : ∀ l, sumE (fun e => F e - G e) l = sumE F l - sumE G l
  | [] => rfl
  | e :: l => by simp only [sumE]; rw [sumE_sub F G l]; omega

theorem wc_le {p q : Int × Int} {l : List (Int × Int)} (hpq : p.2 ≤ q.2) (h : ∀ e ∈ edges l, Off p q e.1 e.2) : wc p l = wc q l := by
  have h1 : wc p l - wc q l = sumE (fun e => hh p q e.2 - hh p q e.1) (edges l) := by
    unfold wc
    rw [← sumE_sub]
    exact sumE_congr fun e he => strip (h e he) hpq
  rw [edges_tele] at h1
  omega

/-- Nothing lies between: the way goes round both alike. -/
theorem wc_same {p q : Int × Int} {l : List (Int × Int)} (h : ∀ e ∈ edges l, Off p q e.1 e.2) : wc p l = wc q l := by
  rcases Int.le_total p.2 q.2 with hpq | hpq
  · exact wc_le hpq h
  · exact (wc_le hpq fun e he => (h e he).rev1).symm

theorem sumE_zero {F : (Int × Int) × (Int × Int) → Int} : ∀ {l : List ((Int × Int) × (Int × Int))}, (∀ e ∈ l, F e = 0) → sumE F l = 0
  | [], _ => rfl
  | e :: l, h => by
    simp only [sumE]
    rw [h e (List.mem_cons_self ..), sumE_zero fun x hx => h x (List.mem_cons_of_mem _ hx)]; rfl

theorem wc_far {p : Int × Int} {l : List (Int × Int)} (h : ∀ a ∈ l, LexLe a p) : wc p l = 0 :=
  sumE_zero fun e he => cr_far (h _ (edges_mem he).1) (h _ (edges_mem he).2)

/-- A way cut in two along a line between two of its corners. -/
theorem wc_split (p a b : Int × Int) (r s : List (Int × Int)) : wc p (a :: r ++ b :: s) = wc p (a :: r ++ [b]) + wc p (b :: s ++ [a]) := by
  unfold wc
  have e1 : edges (a :: r ++ [b]) = path a (r ++ [b]) ++ [(b, a)] := by rw [edges_two]; rfl
  have e2 : edges (b :: s ++ [a]) = path b (s ++ [a]) ++ [(a, b)] := by rw [edges_two]; rfl
  rw [edges_two, e1, e2, sumE_append, sumE_append, sumE_append]
  simp only [sumE]
  rw [cr_anti p a b]
  omega

theorem wc_tri (p u v w : Int × Int) : wc p [u, v, w] = wt p u v w := by
  simp [wc, edges, path, sumE, wt]; omega

/-- A corner struck: its triangle and the rest. -/
theorem wc_ear (p u v w : Int × Int) (r : List (Int × Int)) : wc p (v :: w :: r ++ [u]) = wt p u v w + wc p (w :: r ++ [u]) := by
  have h1 : wc p (v :: w :: r ++ [u]) = wc p (u :: [v] ++ w :: r) := by
    have := wc_rot p (v :: w :: r) [u]
    simpa using this
  rw [h1, wc_split]
  have h2 : wc p (u :: [v] ++ [w]) = wt p u v w := wc_tri p u v w
  rw [h2]
end

section
set_option linter.unusedVariables false

def tr (p : Int × Int) : Int × Int := (p.2, p.1)
theorem tI_tr (a b c : Int × Int) : tI (tr a) (tr b) (tr c) = - tI a b c := by unfold tI tr; grind
theorem onI_tr (a b p : Int × Int) : onI (tr a) (tr b) (tr p) = onI a b p := by
  rw [Bool.eq_iff_iff, onI_iff, onI_iff, tI_tr]
  constructor
  · rintro ⟨h1, h2, h3⟩; exact ⟨by omega, h3, h2⟩
  · rintro ⟨h1, h2, h3⟩; exact ⟨by omega, h3, h2⟩
theorem Off.tr {p q a b : Int × Int} (h : Off p q a b) : Off (tr p) (tr q) (tr a) (tr b) := by
  refine ⟨by rw [onI_tr]; exact h.pa, by rw [onI_tr]; exact h.pb, by rw [onI_tr]; exact h.ap, by rw [onI_tr]; exact h.aq, ?_⟩
  rw [tI_tr, tI_tr, tI_tr, tI_tr, Int.neg_mul_neg, Int.neg_mul_neg]
  exact h.cr

theorem betw {p q r : Int} (h : (p - r) * (q - r) ≤ 0) : (p ≤ r ∧ r ≤ q) ∨ (q ≤ r ∧ r ≤ p) := by
  have := (onX_iff p q r).2 h
  simp only [onX, Bool.and_eq_true, decide_eq_true_eq] at this
  omega

theorem coll_up {p q a b x : Int × Int} (h : Off p q a b) (hy : p.2 < q.2) (h1 : p.2 ≤ x.2) (h2 : x.2 ≤ q.2) (h3 : a.2 ≤ x.2) (h4 : x.2 ≤ b.2)
    (z1 : tI a b p = 0) (z3 : tI p q a = 0) : False := by
  by_cases k : p.2 ≤ a.2
  · have := coll_between z3 hy k (by omega)
    rw [h.pa] at this; cases this
  · have := coll_between z1 (show a.2 < b.2 by omega) (by omega) (by omega)
    rw [h.ap] at this; cases this

theorem coll_y {p q a b x : Int × Int} (h : Off p q a b) (hp : onI p q x = true) (ha : onI a b x = true)
    (z1 : tI a b p = 0) (z2 : tI a b q = 0) (z3 : tI p q a = 0) (z4 : tI p q b = 0) (hy : p.2 ≠ q.2) : False := by
  have b1 := betw ((onI_iff _ _ _).1 hp).2.2
  have b2 := betw ((onI_iff _ _ _).1 ha).2.2
  have n1 := tI_neg p q a
  have n2 := tI_neg p q b
  have n3 := tI_neg a b p
  have n4 := tI_neg a b q
  rcases Int.lt_or_gt_of_ne hy with hy | hy <;> rcases b2 with b2 | b2
  · exact coll_up h hy (by omega) (by omega) b2.1 b2.2 z1 z3
  · exact coll_up h.rev2 hy (by omega) (by omega) b2.1 b2.2 (by omega) z4
  · exact coll_up h.rev1 hy (by omega) (by omega) b2.1 b2.2 z2 (by omega)
  · exact coll_up h.rev1.rev2 hy (by omega) (by omega) b2.1 b2.2 (by omega) (by omega)

theorem no_common {p q a b x : Int × Int} (hne : p ≠ q) (hab : a ≠ b) (h : Off p q a b) (hp : onI p q x = true) (ha : onI a b x = true) : False := by
  obtain ⟨m, k, hm, hk, hmk, hw, m0, k0⟩ := weights hp hne
  obtain ⟨m', k', hm', hk', hmk', hw', m0', k0'⟩ := weights ha hab
  have hm1 : 0 < m := by
    rcases Int.lt_or_eq_of_le hm with g | g
    · exact g
    · have := m0 g.symm; subst this; rw [h.aq] at ha; cases ha
  have hk1 : 0 < k := by
    rcases Int.lt_or_eq_of_le hk with g | g
    · exact g
    · have := k0 g.symm; subst this; rw [h.ap] at ha; cases ha
  have e1 := hw a b
  rw [((onI_iff _ _ _).1 ha).1, Int.mul_zero] at e1
  have e2 := hw' p q
  rw [((onI_iff _ _ _).1 hp).1, Int.mul_zero] at e2
  have same : ((0 < tI p q a ∧ 0 < tI p q b) ∨ (tI p q a < 0 ∧ tI p q b < 0)) → False := fun hs => signs3 e2.symm hm' hk' hmk' hs
  rcases Int.lt_trichotomy (tI a b p) 0 with t | t | t
  · have t2 : 0 < tI a b q := by
      have := Int.mul_neg_of_pos_of_neg hm1 t
      exact pos_of_mul_pos hk (by omega)
    have := one_side h.rev1 t2 (by omega)
    have n1 := tI_neg p q a
    have n2 := tI_neg p q b
    exact same (by omega)
  · rw [t, Int.mul_zero] at e1
    have t2 : tI a b q = 0 := by
      rcases Int.mul_eq_zero.1 (show k * tI a b q = 0 by omega) with g | g
      · omega
      · exact g
    have hd := tI_diff a b p q
    have t3 : tI p q a = 0 ∧ tI p q b = 0 := by
      rcases Int.lt_trichotomy (tI p q a) 0 with g | g | g
      · exact absurd (same (.inr ⟨g, by omega⟩)) id
      · exact ⟨g, by omega⟩
      · exact absurd (same (.inl ⟨g, by omega⟩)) id
    by_cases hy : p.2 = q.2
    · have hx : p.1 ≠ q.1 := fun hx => hne (Prod.ext hx hy)
      exact coll_y (p := tr p) (q := tr q) (a := tr a) (b := tr b) (x := tr x) h.tr (by rw [onI_tr]; exact hp) (by rw [onI_tr]; exact ha)
        (by rw [tI_tr, t]; rfl) (by rw [tI_tr, t2]; rfl) (by rw [tI_tr, t3.1]; rfl) (by rw [tI_tr, t3.2]; rfl) hx
    · exact coll_y h hp ha t t2 t3.1 t3.2 hy
  · have t2 : tI a b q < 0 := by
      have := Int.mul_pos hm1 t
      exact neg_of_mul_neg hk (by omega)
    exact same (one_side h t (by omega))

/-- All made greater. -/
def sc (K : Int) (p : Int × Int) : Int × Int := (K * p.1, K * p.2)
theorem tI_sc (K : Int) (a b c : Int × Int) : tI (sc K a) (sc K b) (sc K c) = (K * K) * tI a b c := by unfold tI sc; grind

theorem sc_sign {K t : Int} (hK : 0 < K) : (0 < (K * K) * t ↔ 0 < t) ∧ ((K * K) * t < 0 ↔ t < 0) ∧ ((K * K) * t = 0 ↔ t = 0) := by
  have hKK := Int.mul_pos hK hK
  rcases Int.lt_trichotomy t 0 with h | h | h
  · have := Int.mul_neg_of_pos_of_neg hKK h; omega
  · subst h; simp
  · have := Int.mul_pos hKK h; omega

theorem onI_sc {K : Int} (hK : 0 < K) (a b p : Int × Int) : onI (sc K a) (sc K b) (sc K p) = onI a b p := by
  rw [Bool.eq_iff_iff, onI_iff, onI_iff, tI_sc, (sc_sign hK).2.2]
  have e1 : ((sc K a).1 - (sc K p).1) * ((sc K b).1 - (sc K p).1) = (K * K) * ((a.1 - p.1) * (b.1 - p.1)) := by unfold sc; grind
  have e2 : ((sc K a).2 - (sc K p).2) * ((sc K b).2 - (sc K p).2) = (K * K) * ((a.2 - p.2) * (b.2 - p.2)) := by unfold sc; grind
  rw [e1, e2]
  have s1 := (sc_sign (t := (a.1 - p.1) * (b.1 - p.1)) hK).1
  have s2 := (sc_sign (t := (a.2 - p.2) * (b.2 - p.2)) hK).1
  constructor
  · rintro ⟨h1, h2, h3⟩
    refine ⟨h1, ?_, ?_⟩
    · apply Int.not_lt.1; intro g; have := s1.2 g; omega
    · apply Int.not_lt.1; intro g; have := s2.2 g; omega
  · rintro ⟨h1, h2, h3⟩
    refine ⟨h1, ?_, ?_⟩
    · apply Int.not_lt.1; intro g; have := s1.1 g; omega
    · apply Int.not_lt.1; intro g; have := s2.1 g; omega

theorem sc_mul_neg {K s t : Int} (hK : 0 < K) : ((K * K) * s) * ((K * K) * t) < 0 ↔ s * t < 0 := by
  have hKK := Int.mul_pos hK hK
  have e : ((K * K) * s) * ((K * K) * t) = ((K * K) * (K * K)) * (s * t) := by grind
  rw [e]
  exact (sc_sign (K := K * K) hKK).2.1

theorem Off.sc {K : Int} (hK : 0 < K) {p q a b : Int × Int} (h : Off p q a b) : Off (sc K p) (sc K q) (sc K a) (sc K b) := by
  refine ⟨by rw [onI_sc hK]; exact h.pa, by rw [onI_sc hK]; exact h.pb, by rw [onI_sc hK]; exact h.ap, by rw [onI_sc hK]; exact h.aq, ?_⟩
  rw [tI_sc, tI_sc, tI_sc, tI_sc, sc_mul_neg hK, sc_mul_neg hK]
  exact h.cr

theorem cr_sc {K : Int} (hK : 0 < K) (p a b : Int × Int) : cr (sc K p) (sc K a) (sc K b) = cr p a b := by
  have l : ∀ s t : Int, K * s ≤ K * t ↔ s ≤ t := fun s t => ⟨fun h => Int.le_of_mul_le_mul_left h hK, fun h => Int.mul_le_mul_of_nonneg_left h (Int.le_of_lt hK)⟩
  have l2 : ∀ s t : Int, K * s < K * t ↔ s < t := fun s t => by have := l t s; omega
  unfold cr
  rw [tI_sc]
  have s1 := (sc_sign (t := tI a b p) hK).1
  have s2 := (sc_sign (t := tI a b p) hK).2.1
  have e1 : ((sc K a).2 ≤ (sc K p).2 ∧ (sc K p).2 < (sc K b).2 ∧ 0 < (K * K) * tI a b p) ↔ (a.2 ≤ p.2 ∧ p.2 < b.2 ∧ 0 < tI a b p) := by
    show (K * a.2 ≤ K * p.2 ∧ K * p.2 < K * b.2 ∧ _) ↔ _
    rw [l, l2, s1]
  have e2 : ((sc K b).2 ≤ (sc K p).2 ∧ (sc K p).2 < (sc K a).2 ∧ (K * K) * tI a b p < 0) ↔ (b.2 ≤ p.2 ∧ p.2 < a.2 ∧ tI a b p < 0) := by
    show (K * b.2 ≤ K * p.2 ∧ K * p.2 < K * a.2 ∧ _) ↔ _
    rw [l, l2, s2]
  by_cases h1 : a.2 ≤ p.2 ∧ p.2 < b.2 ∧ 0 < tI a b p
  · rw [if_pos (e1.2 h1), if_pos h1]
  · rw [if_neg (fun g => h1 (e1.1 g)), if_neg h1]
    by_cases h2 : b.2 ≤ p.2 ∧ p.2 < a.2 ∧ tI a b p < 0
    · rw [if_pos (e2.2 h2), if_pos h2]
    · rw [if_neg (fun g => h2 (e2.1 g)), if_neg h2]

theorem path_map (f : Int × Int → Int × Int) : ∀ (a : Int × Int) (r : List (Int × Int)), path (f a) (r.map f) = (path a r).map fun e => (f e.1, f e.2)
  | a, [] => rfl
  | a, b :: r => by simp only [List.map_cons, path]; rw [path_map f b r]

theorem edges_map (f : Int × Int → Int × Int) (l : List (Int × Int)) : edges (l.map f) = (edges l).map fun e => (f e.1, f e.2) := by
  cases l with
  | nil => rfl
  | cons a r =>
    show path (f a) (r.map f ++ [f a]) = _
    have : r.map f ++ [f a] = (r ++ [a]).map f := by simp
    rw [this, path_map]; rfl

theorem sumE_map (F : (Int × Int) × (Int × Int) → Int) (g : (Int × Int) × (Int × Int) → (Int × Int) × (Int × Int)) : ∀ l, sumE F (l.map g) = sumE (fun e => F (g e)) l
  | [] => rfl
  | e :: l => by simp only [List.map_cons, sumE]; rw [sumE_map F g l]

theorem wc_sc {K : Int} (hK : 0 < K) (p : Int × Int) (l : List (Int × Int)) : wc (sc K p) (l.map (sc K)) = wc p l := by
  unfold wc
  rw [edges_map, sumE_map]
  exact sumE_congr fun e _ => cr_sc hK p e.1 e.2

/-- Two lines that meet have a point in common, once all is made greater. -/
theorem meet_point {p q a b : Int × Int} (h : ¬ Off p q a b) : ∃ K : Int, 0 < K ∧ ∃ x, onI (sc K p) (sc K q) x = true ∧ onI (sc K a) (sc K b) x = true := by
  have one : ∀ c, sc 1 c = c := fun c => by unfold sc; simp
  by_cases h1 : onI p q a = true
  · exact ⟨1, by decide, a, by rw [one, one]; exact h1, by rw [one, one]; exact on_self' a b⟩
  by_cases h2 : onI p q b = true
  · exact ⟨1, by decide, b, by rw [one, one]; exact h2, by rw [one, one]; exact on_self a b⟩
  by_cases h3 : onI a b p = true
  · exact ⟨1, by decide, p, by rw [one, one]; exact on_self' p q, by rw [one, one]; exact h3⟩
  by_cases h4 : onI a b q = true
  · exact ⟨1, by decide, q, by rw [one, one]; exact on_self p q, by rw [one, one]; exact h4⟩
  by_cases h5 : tI p q a * tI p q b < 0 ∧ tI a b p * tI a b q < 0
  · obtain ⟨k1, k2⟩ := h5
    have hd := tI_diff a b p q
    -- the point, weighed by the ends of p q
    have core : ∀ (p q a b : Int × Int), 0 < tI a b p → tI a b q < 0 → tI p q a < 0 → 0 < tI p q b → ∃ K : Int, 0 < K ∧ ∃ x, onI (sc K p) (sc K q) x = true ∧ onI (sc K a) (sc K b) x = true := by
      intro p q a b s1 s2 s3 s4
      have hd := tI_diff a b p q
      refine ⟨tI a b p - tI a b q, by omega, (-(tI a b q) * p.1 + tI a b p * q.1, -(tI a b q) * p.2 + tI a b p * q.2), ?_, ?_⟩
      · rw [onI_iff]
        refine ⟨by unfold sc tI; grind, ?_, ?_⟩
        · have e : ((sc (tI a b p - tI a b q) p).1 - (-(tI a b q) * p.1 + tI a b p * q.1)) * ((sc (tI a b p - tI a b q) q).1 - (-(tI a b q) * p.1 + tI a b p * q.1)) = (tI a b p * tI a b q) * ((p.1 - q.1) * (p.1 - q.1)) := by unfold sc; grind
          rw [e]; exact pn (Int.le_of_lt (Int.mul_neg_of_pos_of_neg s1 s2)) (sq_nonneg _)
        · have e : ((sc (tI a b p - tI a b q) p).2 - (-(tI a b q) * p.2 + tI a b p * q.2)) * ((sc (tI a b p - tI a b q) q).2 - (-(tI a b q) * p.2 + tI a b p * q.2)) = (tI a b p * tI a b q) * ((p.2 - q.2) * (p.2 - q.2)) := by unfold sc; grind
          rw [e]; exact pn (Int.le_of_lt (Int.mul_neg_of_pos_of_neg s1 s2)) (sq_nonneg _)
      · have x1 : -(tI a b q) * p.1 + tI a b p * q.1 = tI p q b * a.1 - tI p q a * b.1 := by unfold tI; grind
        have x2 : -(tI a b q) * p.2 + tI a b p * q.2 = tI p q b * a.2 - tI p q a * b.2 := by unfold tI; grind
        rw [x1, x2, hd]
        rw [onI_iff]
        refine ⟨by unfold sc tI; grind, ?_, ?_⟩
        · have e : ((sc (tI p q b - tI p q a) a).1 - (tI p q b * a.1 - tI p q a * b.1)) * ((sc (tI p q b - tI p q a) b).1 - (tI p q b * a.1 - tI p q a * b.1)) = (tI p q b * tI p q a) * ((a.1 - b.1) * (a.1 - b.1)) := by unfold sc; grind
          rw [e]; exact pn (Int.le_of_lt (Int.mul_neg_of_pos_of_neg s4 s3)) (sq_nonneg _)
        · have e : ((sc (tI p q b - tI p q a) a).2 - (tI p q b * a.2 - tI p q a * b.2)) * ((sc (tI p q b - tI p q a) b).2 - (tI p q b * a.2 - tI p q a * b.2)) = (tI p q b * tI p q a) * ((a.2 - b.2) * (a.2 - b.2)) := by unfold sc; grind
          rw [e]; exact pn (Int.le_of_lt (Int.mul_neg_of_pos_of_neg s4 s3)) (sq_nonneg _)
    rcases mul_neg_cases k2 with ⟨s1, s2⟩ | ⟨s1, s2⟩
    · rcases mul_neg_cases k1 with ⟨s3, s4⟩ | ⟨s3, s4⟩
      · omega
      · exact core p q a b s1 s2 s3 s4
    · rcases mul_neg_cases k1 with ⟨s3, s4⟩ | ⟨s3, s4⟩
      · have n1 := tI_neg a b p
        have n2 := tI_neg a b q
        have := core p q b a (by omega) (by omega) s4 s3
        obtain ⟨K, hK, x, g1, g2⟩ := this
        exact ⟨K, hK, x, g1, by rw [onI_comm]; exact g2⟩
      · omega
  · exact absurd ⟨by simpa using h1, by simpa using h2, by simpa using h3, by simpa using h4, h5⟩ h
end

section
set_option linter.unusedVariables false

theorem sc_ne {K : Int} (hK : 0 < K) {p q : Int × Int} (h : p ≠ q) : sc K p ≠ sc K q := by
  intro e
  apply h
  simp only [sc, Prod.mk.injEq] at e
  exact Prod.ext (Int.eq_of_mul_eq_mul_left (by omega) e.1) (Int.eq_of_mul_eq_mul_left (by omega) e.2)

theorem betw_trans {p q x y : Int} (h1 : (p - x) * (q - x) ≤ 0) (h2 : (p - y) * (x - y) ≤ 0) : (p - y) * (q - y) ≤ 0 := by
  have b1 := betw h1
  have b2 := betw h2
  apply (onX_iff p q y).1
  simp only [onX, Bool.and_eq_true, decide_eq_true_eq]
  omega

theorem tI_same (a b : Int × Int) : tI a b a = 0 ∧ tI a b b = 0 ∧ tI a a b = 0 := by
  refine ⟨?_, ?_, ?_⟩ <;> (unfold tI; grind)

theorem on_point {p x : Int × Int} (h : onI p p x = true) : x = p := by
  rw [onI_iff] at h
  have b1 := betw h.2.1
  have b2 := betw h.2.2
  exact Prod.ext (by omega) (by omega)

theorem on_trans {p q x y : Int × Int} (h1 : onI p q x = true) (h2 : onI p x y = true) : onI p q y = true := by
  by_cases hx : p = x
  · subst hx
    have := on_point h2
    subst this
    exact on_self' _ _
  · obtain ⟨m, k, hm, hk, hmk, hw, _, _⟩ := weights h2 hx
    rw [onI_iff] at *
    refine ⟨?_, betw_trans h1.2.1 h2.2.1, betw_trans h1.2.2 h2.2.2⟩
    have e := hw p q
    rw [(tI_same p q).1, h1.1, Int.mul_zero, Int.mul_zero] at e
    rcases Int.mul_eq_zero.1 (show (m + k) * tI p q y = 0 by omega) with g | g
    · omega
    · exact g

/-- A part of a line that meets nothing meets nothing. -/
theorem sub_off {p q a b x : Int × Int} (hpq : p ≠ q) (hab : a ≠ b) (h : Off p q a b) (hx : onI p q x = true) : Off p x a b := by
  by_cases g : Off p x a b
  · exact g
  · exfalso
    obtain ⟨K, hK, y, y1, y2⟩ := meet_point g
    have hx' : onI (sc K p) (sc K q) (sc K x) = true := by rw [onI_sc hK]; exact hx
    exact no_common (sc_ne hK hpq) (sc_ne hK hab) (h.sc hK) (on_trans hx' y1) y2

/-- Both on one side of a line: it isn't met. -/
theorem off_side {p q a b : Int × Int} (h1 : 0 < tI a b p) (h2 : 0 < tI a b q) : Off p q a b := by
  have key : ∀ c, tI a b c = 0 → onI p q c = false := by
    intro c hc
    cases h : onI p q c with
    | false => rfl
    | true =>
      exfalso
      by_cases hpq : p = q
      · subst hpq
        have := on_point h
        subst this; omega
      · obtain ⟨m, k, hm, hk, hmk, hw, _, _⟩ := weights h hpq
        have e := hw a b
        rw [hc, Int.mul_zero] at e
        have k1 := nn hm (Int.le_of_lt h1)
        have k2 := nn hk (Int.le_of_lt h2)
        have z1 : m * tI a b p = 0 := by omega
        have z2 : k * tI a b q = 0 := by omega
        rcases Int.mul_eq_zero.1 z1 with g | g <;> rcases Int.mul_eq_zero.1 z2 with g' | g' <;> omega
  have off : ∀ c, 0 < tI a b c → onI a b c = false := by
    intro c hc
    cases h : onI a b c with
    | false => rfl
    | true => rw [onI_iff] at h; omega
  refine ⟨key a (tI_same a b).1, key b (tI_same a b).2.1, off p h1, off q h2, ?_⟩
  rintro ⟨_, g⟩
  have := Int.mul_pos h1 h2
  omega

/-- A point of the triangle that lies on the line of an edge lies on the edge. -/
theorem InT.on_uv {u v w x : Int × Int} (hD : 0 < tI u v w) (h : InT u v w x) (h0 : tI u v x = 0) : onI u v x = true := by
  obtain ⟨h1, h2, h3⟩ := h
  have hs := tI_sum u v w x
  rw [onI_iff]
  refine ⟨h0, ?_, ?_⟩
  · have e : tI u v w * ((u.1 - x.1) * tI u v w) = tI u v w * (tI w u x * (u.1 - v.1)) := by unfold tI at *; grind
    have e1 : (u.1 - x.1) * tI u v w = tI w u x * (u.1 - v.1) := Int.eq_of_mul_eq_mul_left (by omega) e
    have e' : tI u v w * ((v.1 - x.1) * tI u v w) = tI u v w * (tI v w x * (v.1 - u.1)) := by unfold tI at *; grind
    have e2 : (v.1 - x.1) * tI u v w = tI v w x * (v.1 - u.1) := Int.eq_of_mul_eq_mul_left (by omega) e'
    apply Int.not_lt.1
    intro g
    have k1 := Int.mul_pos g (Int.mul_pos hD hD)
    have k2 : ((u.1 - x.1) * (v.1 - x.1)) * (tI u v w * tI u v w) = -((tI w u x * tI v w x) * ((u.1 - v.1) * (u.1 - v.1))) := by
      have : ((u.1 - x.1) * (v.1 - x.1)) * (tI u v w * tI u v w) = ((u.1 - x.1) * tI u v w) * ((v.1 - x.1) * tI u v w) := by grind
      rw [this, e1, e2]; grind
    have k3 := nn (nn h3 h2) (sq_nonneg (u.1 - v.1))
    omega
  · have e : tI u v w * ((u.2 - x.2) * tI u v w) = tI u v w * (tI w u x * (u.2 - v.2)) := by unfold tI at *; grind
    have e1 : (u.2 - x.2) * tI u v w = tI w u x * (u.2 - v.2) := Int.eq_of_mul_eq_mul_left (by omega) e
    have e' : tI u v w * ((v.2 - x.2) * tI u v w) = tI u v w * (tI v w x * (v.2 - u.2)) := by unfold tI at *; grind
    have e2 : (v.2 - x.2) * tI u v w = tI v w x * (v.2 - u.2) := Int.eq_of_mul_eq_mul_left (by omega) e'
    apply Int.not_lt.1
    intro g
    have k1 := Int.mul_pos g (Int.mul_pos hD hD)
    have k2 : ((u.2 - x.2) * (v.2 - x.2)) * (tI u v w * tI u v w) = -((tI w u x * tI v w x) * ((u.2 - v.2) * (u.2 - v.2))) := by
      have : ((u.2 - x.2) * (v.2 - x.2)) * (tI u v w * tI u v w) = ((u.2 - x.2) * tI u v w) * ((v.2 - x.2) * tI u v w) := by grind
      rw [this, e1, e2]; grind
    have k3 := nn (nn h3 h2) (sq_nonneg (u.2 - v.2))
    omega

theorem InT.cyc {u v w x : Int × Int} (h : InT u v w x) : InT v w u x := ⟨h.2.1, h.2.2, h.1⟩

theorem tri_ne {u v w : Int × Int} (hD : 0 < tI u v w) : u ≠ v ∧ v ≠ w ∧ w ≠ u := by
  refine ⟨?_, ?_, ?_⟩ <;> intro e <;> subst e
  · have := (tI_same u w).2.2; omega
  · have := (tI_same u v).2.1; omega
  · have : tI w v w = 0 := (tI_same w v).1; omega

/-- A line that meets no side of a triangle and has no end in it: none of its points lies in it. -/
theorem tri_free {u v w c d x : Int × Int} (hD : 0 < tI u v w) (hcd : c ≠ d) (nc : ¬ InT u v w c) (nd : ¬ InT u v w d) (o1 : Off c d u v) (o2 : Off c d v w) (o3 : Off c d w u) (hx : onI c d x = true) : ¬ InT u v w x := by
  intro hi
  have dv : tI v w u = tI u v w := (tI_cyc u v w).symm
  have dw : tI w u v = tI u v w := tI_cyc w u v
  obtain ⟨n1, n2, n3⟩ := tri_ne hD
  by_cases h1 : tI u v x = 0
  · exact no_common hcd n1 o1 hx (hi.on_uv hD h1)
  by_cases h2 : tI v w x = 0
  · exact no_common hcd n2 o2 hx (hi.cyc.on_uv (by omega) h2)
  by_cases h3 : tI w u x = 0
  · exact no_common hcd n3 o3 hx (hi.cyc.cyc.on_uv (by omega) h3)
  obtain ⟨i1, i2, i3⟩ := hi
  have w1 : wt x u v w = 1 := wt_in hD (by omega) (by omega) (by omega)
  have w0 : wt c u v w = 0 := wt_out hD nc
  have hs : wc c [u, v, w] = wc x [u, v, w] := by
    refine wc_same fun e he => ?_
    simp only [edges, path, List.cons_append, List.nil_append, List.mem_cons, List.not_mem_nil, or_false] at he
    rcases he with he | he | he <;> subst he
    · exact sub_off hcd n1 o1 hx
    · exact sub_off hcd n2 o2 hx
    · exact sub_off hcd n3 o3 hx
  rw [wc_tri, wc_tri] at hs
  omega

theorem InT_sc {K : Int} (hK : 0 < K) {u v w x : Int × Int} : InT (sc K u) (sc K v) (sc K w) (sc K x) ↔ InT u v w x := by
  unfold InT
  rw [tI_sc, tI_sc, tI_sc]
  have s : ∀ t : Int, 0 ≤ (K * K) * t ↔ 0 ≤ t := fun t => by have := (sc_sign (t := t) hK).2.1; omega
  rw [s, s, s]

/-- What lies between two points of a triangle lies in it. -/
theorem InT.between {u v w p q x : Int × Int} (hp : InT u v w p) (hq : InT u v w q) (hx : onI p q x = true) : InT u v w x := by
  by_cases hpq : p = q
  · subst hpq
    have := on_point hx
    subst this; exact hp
  · obtain ⟨m, k, hm, hk, hmk, hw, _, _⟩ := weights hx hpq
    have key : ∀ a b, 0 ≤ tI a b p → 0 ≤ tI a b q → 0 ≤ tI a b x := by
      intro a b h1 h2
      have e := hw a b
      have k1 := nn hm h1
      have k2 := nn hk h2
      apply Int.not_lt.1; intro g
      have := Int.mul_neg_of_pos_of_neg hmk g
      omega
    exact ⟨key _ _ hp.1 hq.1, key _ _ hp.2.1 hq.2.1, key _ _ hp.2.2 hq.2.2⟩

/-- Two points of a triangle that a line does not enter: the line between them isn't met. -/
theorem tri_off {u v w c d p q : Int × Int} (hD : 0 < tI u v w) (hcd : c ≠ d) (nc : ¬ InT u v w c) (nd : ¬ InT u v w d) (o1 : Off c d u v) (o2 : Off c d v w) (o3 : Off c d w u) (hp : InT u v w p) (hq : InT u v w q) : Off p q c d := by
  by_cases g : Off p q c d
  · exact g
  · exfalso
    obtain ⟨K, hK, x, x1, x2⟩ := meet_point g
    have hi : InT (sc K u) (sc K v) (sc K w) x := InT.between ((InT_sc hK).2 hp) ((InT_sc hK).2 hq) x1
    exact tri_free (by rw [tI_sc]; exact (sc_sign hK).1.2 hD) (sc_ne hK hcd) (fun h => nc ((InT_sc hK).1 h)) (fun h => nd ((InT_sc hK).1 h)) (o1.sc hK) (o2.sc hK) (o3.sc hK) x2 hi

/-- A line from the corner u that leaves without meeting the side over against it: only u lies in the triangle. -/
theorem spoke_free {u v w c x : Int × Int} (hD : 0 < tI u v w) (nc : ¬ InT u v w c) (o : Off u c v w) (hx : onI u c x = true) (hxu : x ≠ u) : ¬ InT u v w x := by
  intro hi
  have hcu : u ≠ c := by intro e; subst e; exact hxu (on_point hx)
  obtain ⟨m, k, hm, hk, hmk, hw, m0, k0⟩ := weights hx hcu
  have hk' : 0 < k := by
    rcases Int.lt_or_eq_of_le hk with g | g
    · exact g
    · exact absurd (k0 g.symm) hxu
  have e1 := hw u v
  have e3 := hw w u
  rw [(tI_same u v).1, Int.mul_zero] at e1
  rw [(tI_same w u).2.1, Int.mul_zero] at e3
  have k1 := nn (Int.le_of_lt hmk) hi.1
  have k3 := nn (Int.le_of_lt hmk) hi.2.2
  have nonneg : ∀ {t : Int}, 0 ≤ k * t → 0 ≤ t := by
    intro t ht
    apply Int.not_lt.1; intro g
    have := Int.mul_neg_of_pos_of_neg hk' g; omega
  have hC : 0 ≤ tI u v c := nonneg (by omega)
  have hB : 0 ≤ tI w u c := nonneg (by omega)
  have hA : tI v w c < 0 := by
    apply Int.not_le.1; intro hA
    exact nc ⟨hC, hA, hB⟩
  have dv : tI v w u = tI u v w := (tI_cyc u v w).symm
  have := one_side o (by omega) (Int.le_of_lt hA)
  have f1 : tI u c v = - tI u v c := tI_neg' u v c
  have f2 : tI u c w = tI w u c := (tI_cyc w u c).symm
  omega

theorem spoke_off {u v w c p q : Int × Int} (hD : 0 < tI u v w) (nc : ¬ InT u v w c) (o : Off u c v w) (hp : InT u v w p) (hq : InT u v w q) (hu : onI p q u = false) : Off p q u c := by
  by_cases g : Off p q u c
  · exact g
  · exfalso
    obtain ⟨K, hK, x, x1, x2⟩ := meet_point g
    have hi : InT (sc K u) (sc K v) (sc K w) x := InT.between ((InT_sc hK).2 hp) ((InT_sc hK).2 hq) x1
    refine spoke_free (by rw [tI_sc]; exact (sc_sign hK).1.2 hD) (fun h => nc ((InT_sc hK).1 h)) (o.sc hK) x2 ?_ hi
    intro e
    subst e
    rw [onI_sc hK, hu] at x1
    cases x1
end

section
set_option linter.unusedVariables false

theorem path_mem' {e : (Int × Int) × (Int × Int)} {b : Int × Int} : ∀ {a : Int × Int} {s : List (Int × Int)}, e ∈ path a (s ++ [b]) → e.1 ∈ a :: s ∧ e.2 ∈ s ++ [b]
  | a, [], h => by simp [path] at h; subst h; simp
  | a, c :: s, h => by
    simp only [List.cons_append, path, List.mem_cons] at h
    rcases h with h | h
    · subst h; simp
    · have := path_mem' h
      exact ⟨List.mem_cons_of_mem _ this.1, by simp only [List.cons_append, List.mem_cons]; exact .inr this.2⟩

theorem path_class {e : (Int × Int) × (Int × Int)} {w u : Int × Int} {r : List (Int × Int)} (hr : r ≠ []) (h : e ∈ path w (r ++ [u])) : (e.1 ∈ r ∧ e.2 ∈ r) ∨ (e.1 = w ∧ e.2 ∈ r) ∨ (e.1 ∈ r ∧ e.2 = u) := by
  cases r with
  | nil => exact absurd rfl hr
  | cons x s =>
    simp only [List.cons_append, path, List.mem_cons] at h
    rcases h with h | h
    · subst h; exact .inr (.inl ⟨rfl, by simp⟩)
    · have := path_mem' h
      rcases List.mem_append.1 this.2 with g | g
      · exact .inl ⟨this.1, List.mem_cons_of_mem _ g⟩
      · simp at g; exact .inr (.inr ⟨this.1, g⟩)

theorem edges_ear (u v w : Int × Int) (r : List (Int × Int)) : edges (v :: w :: r ++ [u]) = (v, w) :: (path w (r ++ [u]) ++ [(u, v)]) := by
  show path v ((w :: r ++ [u]) ++ [v]) = _
  simp only [List.cons_append, path]
  congr 1
  have : (r ++ [u]) ++ [v] = r ++ u :: [v] := by simp
  rw [this, path_append]; rfl

theorem edges_rest (u w : Int × Int) (r : List (Int × Int)) : edges (w :: r ++ [u]) = path w (r ++ [u]) ++ [(u, w)] := by
  rw [edges_two]; rfl

theorem path_ne {e : (Int × Int) × (Int × Int)} {a : Int × Int} {s : List (Int × Int)} (hn : (a :: s).Nodup) (h : e ∈ path a s) : e.1 ≠ e.2 := by
  induction s generalizing a with
  | nil => simp [path] at h
  | cons b s ih =>
    simp only [path, List.mem_cons] at h
    rcases h with h | h
    · subst h
      simp only [List.nodup_cons, List.mem_cons, not_or] at hn
      exact hn.1.1
    · exact ih (List.nodup_cons.1 hn).2 h

/-- What is known of a corner v with its neighbours u (ahead) and w (behind), the others r. -/
structure Tip (u v w : Int × Int) (r : List (Int × Int)) : Prop where
  simple : Simple (v :: w :: r ++ [u])
  some : r ≠ []
  turn : 0 < tI u v w
  free : ∀ x ∈ r, ¬ InT u v w x

section
variable {u v w : Int × Int} {r : List (Int × Int)}

theorem Tip.nd (h : Tip u v w r) : v ≠ w ∧ v ∉ r ∧ v ≠ u ∧ w ∉ r ∧ w ≠ u ∧ r.Nodup ∧ u ∉ r := by
  have hn := h.simple.nodup
  simp only [List.cons_append, List.nodup_cons, List.mem_cons, List.mem_append, List.not_mem_nil, or_false, not_or, List.nodup_append] at hn
  obtain ⟨⟨h1, h2, h3⟩, ⟨h4, h5⟩, h6, h7, h8⟩ := hn
  exact ⟨h1, h2, h3, h4, h5, h6, fun hu => h8 u hu u (by simp) rfl⟩

/-- The line from a point of the triangle to v meets none of the further edges. -/
theorem Tip.off (h : Tip u v w r) {y : Int × Int} (hy : InT u v w y) (h1 : 0 < tI u v y) (h2 : 0 < tI v w y) {e : (Int × Int) × (Int × Int)} (he : e ∈ path w (r ++ [u])) : Off y v e.1 e.2 := by
  obtain ⟨n1, n2, n3, n4, n5, n6, n7⟩ := h.nd
  have hD := h.turn
  have dv : tI v w u = tI u v w := (tI_cyc u v w).symm
  have dw : tI w u v = tI u v w := tI_cyc w u v
  have hv : InT u v w v := ⟨by rw [(tI_same u v).2.1]; decide, by rw [(tI_same v w).1]; decide, by omega⟩
  have mem : e ∈ edges (v :: w :: r ++ [u]) := by rw [edges_ear]; simp [he]
  have m1 : (u, v) ∈ edges (v :: w :: r ++ [u]) := by rw [edges_ear]; simp
  have m2 : (v, w) ∈ edges (v :: w :: r ++ [u]) := by rw [edges_ear]; simp
  have yv : y ≠ v := by intro e; subst e; rw [(tI_same u y).2.1] at h1; omega
  have offu : onI y v u = false := by
    cases g : onI y v u with
    | false => rfl
    | true =>
      obtain ⟨m, k, hm, hk, hmk, hw, m0, k0⟩ := weights g yv
      have e := hw u v
      rw [(tI_same u v).1, (tI_same u v).2.1, Int.mul_zero, Int.mul_zero] at e
      rcases Int.mul_eq_zero.1 (show m * tI u v y = 0 by omega) with q | q
      · exact absurd (m0 q).symm n3
      · omega
  have offw : onI y v w = false := by
    cases g : onI y v w with
    | false => rfl
    | true =>
      obtain ⟨m, k, hm, hk, hmk, hw, m0, k0⟩ := weights g yv
      have e := hw v w
      rw [(tI_same v w).2.1, (tI_same v w).1, Int.mul_zero, Int.mul_zero] at e
      rcases Int.mul_eq_zero.1 (show m * tI v w y = 0 by omega) with q | q
      · exact absurd (m0 q).symm n1
      · omega
  rcases path_class h.some he with ⟨c1, c2⟩ | ⟨c1, c2⟩ | ⟨c1, c2⟩
  · -- both ends elsewhere
    obtain ⟨c, d⟩ := e
    simp only at c1 c2 ⊢
    have hc : c ≠ u ∧ c ≠ v ∧ c ≠ w := ⟨fun q => n7 (q ▸ c1), fun q => n2 (q ▸ c1), fun q => n4 (q ▸ c1)⟩
    have hd : d ≠ u ∧ d ≠ v ∧ d ≠ w := ⟨fun q => n7 (q ▸ c2), fun q => n2 (q ▸ c2), fun q => n4 (q ▸ c2)⟩
    have hcd : c ≠ d := by
      have hnd : (w :: (r ++ [u])).Nodup := (List.nodup_cons.1 h.simple.nodup).2
      exact path_ne hnd he
    have o1 : Off c d u v := (h.simple.clean _ mem _ m1 (fun q => hc.1 (congrArg Prod.fst q))).off hc.1 hc.2.1 hd.1 hd.2.1
    have o2 : Off c d v w := (h.simple.clean _ mem _ m2 (fun q => hc.2.1 (congrArg Prod.fst q))).off hc.2.1 hc.2.2 hd.2.1 hd.2.2
    have o3 := (ear_off hD (h.free c c1) (h.free d c2) o1 o2).swap.rev2
    exact tri_off hD hcd (h.free c c1) (h.free d c2) o1 o2 o3 hy hv
  · -- from w on
    obtain ⟨c, d⟩ := e
    simp only at c1 c2 ⊢
    subst c1
    have hd : d ≠ u ∧ d ≠ v ∧ d ≠ c := ⟨fun q => n7 (q ▸ c2), fun q => n2 (q ▸ c2), fun q => n4 (q ▸ c2)⟩
    have o : Off c d u v := (h.simple.clean _ mem _ m1 (fun q => n5 (congrArg Prod.fst q))).off n5 (Ne.symm n1) hd.1 hd.2.1
    exact spoke_off (u := c) (v := u) (w := v) (by omega) (fun hi => h.free d c2 hi.cyc) o hy.cyc.cyc hv.cyc.cyc offw
  · -- to u
    obtain ⟨c, d⟩ := e
    simp only at c1 c2 ⊢
    subst c2
    have hc : c ≠ d ∧ c ≠ v ∧ c ≠ w := ⟨fun q => n7 (q ▸ c1), fun q => n2 (q ▸ c1), fun q => n4 (q ▸ c1)⟩
    have o : Off c d v w := (h.simple.clean _ mem _ m2 (fun q => hc.2.1 (congrArg Prod.fst q))).off hc.2.1 hc.2.2 (Ne.symm n3) (Ne.symm n5)
    exact (spoke_off hD (h.free c c1) o.rev1 hy hv offu).rev2

/-- Within the triangle of a tip that is furthest to the right the edges go round once. -/
theorem Tip.one (h : Tip u v w r) (far : ∀ x ∈ w :: r ++ [u], LexLe x v) {y : Int × Int} (hy : InT u v w y) (h1 : 0 < tI u v y) (h2 : 0 < tI v w y) : wc y (v :: w :: r ++ [u]) = 1 := by
  obtain ⟨n1, n2, n3, n4, n5, n6, n7⟩ := h.nd
  have hD := h.turn
  have dw : tI w u v = tI u v w := tI_cyc w u v
  have yv : y ≠ v := by intro e; subst e; rw [(tI_same u y).2.1] at h1; omega
  have h20 : (0 : Int) < 2 := by decide
  -- the middle between y and v, all twice as great
  obtain ⟨z, hz⟩ : ∃ z : Int × Int, z = (y.1 + v.1, y.2 + v.2) := ⟨_, rfl⟩
  have zt : ∀ a b : Int × Int, tI (sc 2 a) (sc 2 b) z = 2 * (tI a b y + tI a b v) := by intro a b; subst hz; unfold tI sc; grind
  have zon : onI (sc 2 y) (sc 2 v) z = true := by
    subst hz
    rw [onI_iff]
    refine ⟨by unfold tI sc; grind, ?_, ?_⟩
    · have e : ((sc 2 y).1 - (y.1 + v.1)) * ((sc 2 v).1 - (y.1 + v.1)) = -((y.1 - v.1) * (y.1 - v.1)) := by unfold sc; grind
      have := sq_nonneg (y.1 - v.1); simp only at *; omega
    · have e : ((sc 2 y).2 - (y.2 + v.2)) * ((sc 2 v).2 - (y.2 + v.2)) = -((y.2 - v.2) * (y.2 - v.2)) := by unfold sc; grind
      have := sq_nonneg (y.2 - v.2); simp only at *; omega
  have yv2 := sc_ne h20 yv
  have pn : ∀ e ∈ path w (r ++ [u]), e.1 ≠ e.2 := fun e he => path_ne (List.nodup_cons.1 h.simple.nodup).2 he
  have toZ : ∀ e ∈ path w (r ++ [u]), Off (sc 2 y) z (sc 2 e.1) (sc 2 e.2) := fun e he => sub_off yv2 (sc_ne h20 (pn e he)) ((h.off hy h1 h2 he).sc h20) zon
  have fromZ : ∀ e ∈ path w (r ++ [u]), Off z (sc 2 v) (sc 2 e.1) (sc 2 e.2) := fun e he =>
    (sub_off (Ne.symm yv2) (sc_ne h20 (pn e he)) ((h.off hy h1 h2 he).rev1.sc h20) (by rw [onI_comm]; exact zon)).rev1
  have t1 := zt u v
  have t2 := zt v w
  have t3 := zt w u
  rw [(tI_same u v).2.1] at t1
  rw [(tI_same v w).1] at t2
  rw [dw] at t3
  have y3 := hy.2.2
  have s4 : ∀ a b c : Int × Int, tI (sc 2 a) (sc 2 b) (sc 2 c) = 4 * tI a b c := fun a b c => by rw [tI_sc]; rfl
  -- from y to the middle
  have A : wc (sc 2 y) ((v :: w :: r ++ [u]).map (sc 2)) = wc z ((v :: w :: r ++ [u]).map (sc 2)) := by
    refine wc_same fun e he => ?_
    rw [edges_map] at he
    obtain ⟨f, hf, rfl⟩ := List.mem_map.1 he
    rw [edges_ear] at hf
    simp only [List.mem_cons, List.mem_append, List.not_mem_nil, or_false] at hf
    rcases hf with hf | hf | hf
    · subst hf; exact off_side (a := sc 2 v) (b := sc 2 w) (by rw [s4]; omega) (by omega)
    · exact toZ f hf
    · subst hf; exact off_side (a := sc 2 u) (b := sc 2 v) (by rw [s4]; omega) (by omega)
  have B : wc z ((v :: w :: r ++ [u]).map (sc 2)) = wt z (sc 2 u) (sc 2 v) (sc 2 w) + wc z ((w :: r ++ [u]).map (sc 2)) := by
    have := wc_ear z (sc 2 u) (sc 2 v) (sc 2 w) (r.map (sc 2))
    simpa using this
  have C : wt z (sc 2 u) (sc 2 v) (sc 2 w) = 1 := wt_in (by rw [s4]; omega) (by omega) (by omega) (by omega)
  have D : wc z ((w :: r ++ [u]).map (sc 2)) = wc (sc 2 v) ((w :: r ++ [u]).map (sc 2)) := by
    refine wc_same fun e he => ?_
    rw [edges_map] at he
    obtain ⟨f, hf, rfl⟩ := List.mem_map.1 he
    rw [edges_rest] at hf
    simp only [List.mem_append, List.mem_cons, List.not_mem_nil, or_false] at hf
    rcases hf with hf | hf
    · exact fromZ f hf
    · subst hf
      exact (off_side (a := sc 2 w) (b := sc 2 u) (by omega) (by rw [s4]; omega)).rev2
  rw [wc_sc h20, wc_far far] at D
  rw [wc_sc h20] at A
  rw [A, B, C, D]; rfl
end
end

section
set_option linter.unusedVariables false

def sw (e : (Int × Int) × (Int × Int)) : (Int × Int) × (Int × Int) := (e.2, e.1)

theorem path_rev (b : Int × Int) : ∀ (a : Int × Int) (s : List (Int × Int)), path b (s.reverse ++ [a]) = ((path a (s ++ [b])).map sw).reverse
  | a, [] => rfl
  | a, x :: s => by
    have e : (x :: s).reverse ++ [a] = s.reverse ++ x :: [a] := by simp
    rw [e, path_append, path_rev b x s]
    simp [path, sw]

theorem sumE_rev (F : (Int × Int) × (Int × Int) → Int) (l : List ((Int × Int) × (Int × Int))) : sumE F l.reverse = sumE F l := sumE_perm (List.reverse_perm l)

theorem sumE_neg (F : (Int × Int) × (Int × Int) → Int) : ∀ l, sumE (fun e => - F e) l = - sumE F l
  | [] => rfl
  | e :: l => by simp only [sumE]; rw [sumE_neg F l]; omega

theorem edges_flip (a b : Int × Int) (r s : List (Int × Int)) : (edges (b :: r.reverse ++ a :: s.reverse)).Perm ((edges (a :: r ++ b :: s)).map sw) := by
  rw [edges_two, edges_two, path_rev, path_rev, List.map_append]
  exact (List.reverse_perm _).append (List.reverse_perm _)

theorem wc_flip (p a b : Int × Int) (r s : List (Int × Int)) : wc p (b :: r.reverse ++ a :: s.reverse) = - wc p (a :: r ++ b :: s) := by
  unfold wc
  rw [sumE_perm (edges_flip a b r s), sumE_map, ← sumE_neg]
  exact sumE_congr fun e _ => cr_anti p e.1 e.2

theorem Clean.sw {a b c d : Int × Int} (h : Clean a b c d) : Clean b a d c := h.rev1.rev2

theorem mem_flip {e : (Int × Int) × (Int × Int)} {a b : Int × Int} {r s : List (Int × Int)} : e ∈ edges (b :: r.reverse ++ a :: s.reverse) ↔ sw e ∈ edges (a :: r ++ b :: s) := by
  rw [(edges_flip a b r s).mem_iff, List.mem_map]
  constructor
  · rintro ⟨f, hf, rfl⟩; exact hf
  · intro h; exact ⟨sw e, h, rfl⟩

theorem Simple.flip {a b : Int × Int} {r s : List (Int × Int)} (h : Simple (a :: r ++ b :: s)) : Simple (b :: r.reverse ++ a :: s.reverse) := by
  refine ⟨?_, by have := h.three; simp at *; omega, ?_⟩
  · have hp : (b :: r.reverse ++ a :: s.reverse).Perm (a :: r ++ b :: s) := by
      have h1 : (b :: r.reverse).Perm (r ++ [b]) := by
        have := List.reverse_perm (r ++ [b]); simpa using this
      have h2 : (a :: s.reverse).Perm (s ++ [a]) := by
        have := List.reverse_perm (s ++ [a]); simpa using this
      refine (h1.append h2).trans ?_
      have e : (r ++ [b]) ++ (s ++ [a]) = (r ++ b :: s) ++ [a] := by simp
      rw [e]
      exact List.perm_append_comm
    exact (hp.nodup_iff).2 h.nodup
  · intro e he f hf hne
    exact (h.clean _ (mem_flip.1 he) _ (mem_flip.1 hf) (fun q => hne (by have := congrArg sw q; exact this))).sw

/-- Each corner is the beginning of an edge, and the end of one. -/
theorem begins {l : List (Int × Int)} {x : Int × Int} (h : x ∈ l) : ∃ y, (x, y) ∈ edges l := by
  obtain ⟨s, t, rfl⟩ := List.append_of_mem h
  have : ∃ y, (x, y) ∈ edges (x :: t ++ s) := by
    cases e : t ++ s with
    | nil => exact ⟨x, by show (x, x) ∈ path x ((t ++ s) ++ [x]); rw [e]; simp [path]⟩
    | cons y r => exact ⟨y, by show (x, y) ∈ path x ((t ++ s) ++ [x]); rw [e]; simp [path]⟩
  obtain ⟨y, hy⟩ := this
  exact ⟨y, (edges_rot s (x :: t)).mem_iff.2 hy⟩

/-- No corner lies on an edge of which it is no end. -/
theorem Simple.corner {l : List (Int × Int)} (h : Simple l) {e : (Int × Int) × (Int × Int)} (he : e ∈ edges l) {x : Int × Int} (hx : x ∈ l) (h1 : x ≠ e.1) (h2 : x ≠ e.2) : onI e.1 e.2 x = false := by
  obtain ⟨y, hy⟩ := begins hx
  exact (h.clean e he (x, y) hy (fun q => h1 (by rw [q]))).oc h1 h2

theorem exists_max : ∀ (l : List (Int × Int)), l ≠ [] → ∃ m ∈ l, ∀ x ∈ l, LexLe x m
  | [], h => absurd rfl h
  | [a], _ => ⟨a, by simp, fun x hx => by simp at hx; subst hx; exact .inr ⟨rfl, Int.le_refl _⟩⟩
  | a :: b :: l, _ => by
    obtain ⟨m, hm, hmax⟩ := exists_max (b :: l) (by simp)
    by_cases h : LexLe a m
    · exact ⟨m, List.mem_cons_of_mem _ hm, fun x hx => by
        rcases List.mem_cons.1 hx with g | g
        · subst g; exact h
        · exact hmax x g⟩
    · refine ⟨a, by simp, fun x hx => ?_⟩
      rcases List.mem_cons.1 hx with g | g
      · subst g; exact .inr ⟨rfl, Int.le_refl _⟩
      · have := hmax x g
        unfold LexLe at *; omega

/-- In the triangle, whichever way round it is told. -/
def Tri (u v w x : Int × Int) : Prop := InT u v w x ∨ InT w v u x

theorem Tri.symm {u v w x : Int × Int} (h : Tri u v w x) : Tri w v u x := h.elim .inr .inl

theorem InT_neg {u v w x : Int × Int} (hD : tI u v w < 0) : ¬ InT u v w x := by
  rintro ⟨h1, h2, h3⟩
  have := tI_sum u v w x
  omega

/-- The tip's triangle, whichever way round. -/
theorem tip_round {u v w : Int × Int} {r : List (Int × Int)} (hs : Simple (v :: w :: r ++ [u])) (hr : r ≠ []) (hD : tI u v w ≠ 0) (free : ∀ x ∈ r, ¬ Tri u v w x)
    (far : ∀ x ∈ w :: r ++ [u], LexLe x v) {y : Int × Int} (hy : Tri u v w y) (y1 : onI u v y = false) (y2 : onI v w y = false) : wc y (v :: w :: r ++ [u]) ≠ 0 := by
  have dr : tI w v u = - tI u v w := by unfold tI; grind
  rcases Int.lt_or_gt_of_ne hD with hD | hD
  · -- the other way round
    have hi : InT w v u y := hy.elim (fun h => absurd h (InT_neg hD)) id
    have e1 : v :: w :: r ++ [u] = v :: (w :: r) ++ u :: [] := rfl
    have hs' : Simple (v :: u :: r.reverse ++ [w]) := by
      rw [e1] at hs
      have := hs.flip
      have e2 : u :: (w :: r).reverse ++ v :: [].reverse = (u :: r.reverse ++ [w]) ++ [v] := by simp
      rw [e2] at this
      have := this.rot
      simpa using this
    have tip : Tip w v u r.reverse := ⟨hs', by simpa using hr, by omega, fun x hx hi => free x (by simpa using hx) (.inr hi)⟩
    have dv : tI v u w = tI w v u := (tI_cyc w v u).symm
    have g1 : 0 < tI w v y := by
      rcases Int.lt_or_eq_of_le hi.1 with g | g
      · exact g
      · have := hi.on_uv (by omega) g.symm
        rw [onI_comm, y2] at this; cases this
    have g2 : 0 < tI v u y := by
      rcases Int.lt_or_eq_of_le hi.2.1 with g | g
      · exact g
      · have := hi.cyc.on_uv (by omega) g.symm
        rw [onI_comm, y1] at this; cases this
    have one := tip.one (fun x hx => far x (by
      simp only [List.cons_append, List.mem_cons, List.mem_append, List.mem_reverse, List.not_mem_nil, or_false] at hx ⊢
      rcases hx with h | h | h
      · exact .inr (.inr h)
      · exact .inr (.inl h)
      · exact .inl h)) hi g1 g2
    have fl := wc_flip y v u (w :: r) []
    have e3 : wc y (u :: (w :: r).reverse ++ v :: [].reverse) = wc y (v :: u :: r.reverse ++ [w]) := by
      have := wc_rot y (u :: r.reverse ++ [w]) [v]
      simpa using this
    rw [e3, one] at fl
    intro h0
    have : wc y (v :: (w :: r) ++ u :: []) = 0 := h0
    omega
  · have hi : InT u v w y := hy.elim id (fun h => absurd h (InT_neg (by omega)))
    have dv : tI v w u = tI u v w := (tI_cyc u v w).symm
    have g1 : 0 < tI u v y := by
      rcases Int.lt_or_eq_of_le hi.1 with g | g
      · exact g
      · have := hi.on_uv hD g.symm
        rw [y1] at this; cases this
    have g2 : 0 < tI v w y := by
      rcases Int.lt_or_eq_of_le hi.2.1 with g | g
      · exact g
      · have := hi.cyc.on_uv (by omega) g.symm
        rw [y2] at this; cases this
    have tip : Tip u v w r := ⟨hs, hr, hD, fun x hx hi => free x hx (.inl hi)⟩
    have one := tip.one far hi g1 g2
    omega

/-- A chain q0, c, qk of a polygon (its other corners o), shut by a line that meets nothing; one of the others lies furthest to the right. -/
structure Chain (q0 : Int × Int) (c : List (Int × Int)) (qk : Int × Int) (o : List (Int × Int)) : Prop where
  simple : Simple (q0 :: c ++ qk :: o)
  some : c ≠ []
  shut : ∀ e ∈ edges (q0 :: c ++ qk :: o), Clean qk q0 e.1 e.2
  far : ∃ s ∈ o, ∀ x ∈ q0 :: c ++ [qk], LexLe x s

section
variable {q0 qk : Int × Int} {c o : List (Int × Int)}

theorem Chain.flip (h : Chain q0 c qk o) : Chain qk c.reverse q0 o.reverse := by
  refine ⟨h.simple.flip, by simpa using h.some, fun e he => ?_, ?_⟩
  · have := h.shut _ (mem_flip.1 he)
    exact this.sw
  · obtain ⟨s, hs, hf⟩ := h.far
    refine ⟨s, by simpa using hs, fun x hx => hf x ?_⟩
    simp only [List.cons_append, List.mem_cons, List.mem_append, List.mem_reverse, List.not_mem_nil, or_false] at hx ⊢
    rcases hx with g | g | g
    · exact .inr (.inr g)
    · exact .inr (.inl g)
    · exact .inl g

theorem Chain.edge_in (h : Chain q0 c qk o) {e : (Int × Int) × (Int × Int)} (he : e ∈ path q0 (c ++ [qk])) : e ∈ edges (q0 :: c ++ qk :: o) := by
  rw [edges_two]; exact List.mem_append_left _ he
theorem Chain.edge_out (h : Chain q0 c qk o) {e : (Int × Int) × (Int × Int)} (he : e ∈ path qk (o ++ [q0])) : e ∈ edges (q0 :: c ++ qk :: o) := by
  rw [edges_two]; exact List.mem_append_right _ he

theorem Chain.apart (h : Chain q0 c qk o) {x y : Int × Int} (hx : x ∈ q0 :: c ++ [qk]) (hy : y ∈ o) : x ≠ y := by
  have hn := h.simple.nodup
  have e : q0 :: c ++ qk :: o = (q0 :: c ++ [qk]) ++ o := by simp
  rw [e, List.nodup_append] at hn
  exact hn.2.2 x hx y hy

theorem Chain.poly (h : Chain q0 c qk o) : Simple (q0 :: c ++ [qk]) := by
  have e : q0 :: c ++ qk :: o = (q0 :: c ++ [qk]) ++ o := by simp
  have hn := h.simple.nodup
  rw [e, List.nodup_append] at hn
  have he : edges (q0 :: c ++ [qk]) = path q0 (c ++ [qk]) ++ [(qk, q0)] := edges_rest qk q0 c
  refine ⟨hn.1, ?_, ?_⟩
  · have := h.some
    cases c with
    | nil => exact absurd rfl this
    | cons a t => simp
  · intro e1 h1 f1 h2 hne
    rw [he] at h1 h2
    simp only [List.mem_append, List.mem_cons, List.not_mem_nil, or_false] at h1 h2
    rcases h1 with h1 | h1 <;> rcases h2 with h2 | h2
    · exact h.simple.clean _ (h.edge_in h1) _ (h.edge_in h2) hne
    · subst h2; exact (h.shut _ (h.edge_in h1)).swap
    · subst h1; exact h.shut _ (h.edge_in h2)
    · subst h1; subst h2; exact absurd rfl hne

theorem path_pre {e : (Int × Int) × (Int × Int)} {b : Int × Int} : ∀ {a : Int × Int} {s : List (Int × Int)}, e ∈ path a s → e ∈ path a (s ++ [b])
  | a, [], h => by simp [path] at h
  | a, x :: s, h => by
    simp only [List.cons_append, path, List.mem_cons] at h ⊢
    rcases h with h | h
    · exact .inl h
    · exact .inr (path_pre h)

theorem path_const {g : Int × Int → Int} : ∀ {a : Int × Int} {t : List (Int × Int)}, (∀ e ∈ path a t, g e.1 = g e.2) → ∀ y ∈ a :: t, g y = g a
  | a, [], _, y, hy => by simp at hy; rw [hy]
  | a, b :: t, h, y, hy => by
    rcases List.mem_cons.1 hy with g1 | g1
    · rw [g1]
    · have h1 := path_const (a := b) (t := t) (fun e he => h e (by simp [path, he])) y g1
      have h2 := h (a, b) (by simp [path])
      rw [h1]; exact h2.symm

/-- A line between two of the others meets nothing of the chain. -/
theorem Chain.out_off (h : Chain q0 c qk o) {e : (Int × Int) × (Int × Int)} (he : e ∈ edges (q0 :: c ++ qk :: o)) (h1 : e.1 ∈ o) (h2 : e.2 ∈ o) {f : (Int × Int) × (Int × Int)} (hf : f ∈ edges (q0 :: c ++ [qk])) : Off e.1 e.2 f.1 f.2 := by
  have m := edges_mem hf
  have a1 := h.apart m.1 h1
  have a2 := h.apart m.1 h2
  have a3 := h.apart m.2 h1
  have a4 := h.apart m.2 h2
  rw [edges_rest qk q0 c] at hf
  simp only [List.mem_append, List.mem_cons, List.not_mem_nil, or_false] at hf
  rcases hf with hf | hf
  · exact (h.simple.clean _ he _ (h.edge_in hf) (fun q => a1 (by rw [q]))).off (Ne.symm a1) (Ne.symm a3) (Ne.symm a2) (Ne.symm a4)
  · subst hf
    exact ((h.shut _ he).off a1 a2 a3 a4).swap

/-- The chain goes round none of the others. -/
theorem Chain.none (h : Chain q0 c qk o) : ∀ y ∈ o, wc y (q0 :: c ++ [qk]) = 0 := by
  obtain ⟨s, hs, hf⟩ := h.far
  cases ho : o with
  | nil => rw [ho] at hs; simp at hs
  | cons a t =>
    have key : ∀ y ∈ a :: t, wc y (q0 :: c ++ [qk]) = wc a (q0 :: c ++ [qk]) := by
      refine path_const fun e he => ?_
      have m := path_mem he
      have he' : e ∈ edges (q0 :: c ++ qk :: o) := by
        refine h.edge_out ?_
        rw [ho]
        simp only [List.cons_append, path, List.mem_cons]
        exact .inr (path_pre he)
      refine wc_same fun f hf => h.out_off he' ?_ ?_ hf
      · rw [ho]; exact m.1
      · rw [ho]; exact List.mem_cons_of_mem _ m.2
    have hs0 := key s (by rw [← ho]; exact hs)
    rw [wc_far hf] at hs0
    intro y hy
    rw [key y hy, ← hs0]
end
end

section
set_option linter.unusedVariables false

theorem coll3_y {a b c : Int × Int} (h : tI a b c = 0) (hy : ¬ (a.2 = b.2 ∧ b.2 = c.2)) : onI a b c = true ∨ onI b c a = true ∨ onI c a b = true := by
  have h1 : tI b c a = 0 := by rw [← tI_cyc]; exact h
  have h2 : tI c a b = 0 := by rw [← tI_cyc]; exact h1
  have n0 : tI b a c = 0 := by rw [tI_neg a b c, h]; rfl
  have n1 : tI c b a = 0 := by rw [tI_neg b c a, h1]; rfl
  have n2 : tI a c b = 0 := by rw [tI_neg c a b, h2]; rfl
  by_cases k1 : a.2 ≤ c.2 ∧ c.2 ≤ b.2 ∧ a.2 < b.2
  · exact .inl (coll_between h k1.2.2 k1.1 k1.2.1)
  by_cases k2 : b.2 ≤ c.2 ∧ c.2 ≤ a.2 ∧ b.2 < a.2
  · exact .inl (by rw [onI_comm]; exact coll_between n0 k2.2.2 k2.1 k2.2.1)
  by_cases k3 : b.2 ≤ a.2 ∧ a.2 ≤ c.2 ∧ b.2 < c.2
  · exact .inr (.inl (coll_between h1 k3.2.2 k3.1 k3.2.1))
  by_cases k4 : c.2 ≤ a.2 ∧ a.2 ≤ b.2 ∧ c.2 < b.2
  · exact .inr (.inl (by rw [onI_comm]; exact coll_between n1 k4.2.2 k4.1 k4.2.1))
  by_cases k5 : c.2 ≤ b.2 ∧ b.2 ≤ a.2 ∧ c.2 < a.2
  · exact .inr (.inr (coll_between h2 k5.2.2 k5.1 k5.2.1))
  by_cases k6 : a.2 ≤ b.2 ∧ b.2 ≤ c.2 ∧ a.2 < c.2
  · exact .inr (.inr (by rw [onI_comm]; exact coll_between n2 k6.2.2 k6.1 k6.2.1))
  omega

/-- Of three points on one line one lies between the others. -/
theorem coll3 {a b c : Int × Int} (h : tI a b c = 0) : onI a b c = true ∨ onI b c a = true ∨ onI c a b = true := by
  by_cases hy : a.2 = b.2 ∧ b.2 = c.2
  · by_cases hx : a.1 = b.1 ∧ b.1 = c.1
    · have e1 : a = b := Prod.ext hx.1 hy.1
      have e2 : b = c := Prod.ext hx.2 hy.2
      subst e1; subst e2
      exact .inl (on_self _ _)
    · have := coll3_y (a := tr a) (b := tr b) (c := tr c) (by rw [tI_tr, h]; rfl) hx
      rw [onI_tr, onI_tr, onI_tr] at this
      exact this
  · exact coll3_y h hy

/-- What is furthest to the right lies between no others. -/
theorem far_between {u v w : Int × Int} (hu : LexLe u v) (hw : LexLe w v) (h : onI w u v = true) : v = u ∨ v = w := by
  rw [onI_iff] at h
  obtain ⟨h0, hx, hy⟩ := h
  have bx := betw hx
  have bY := betw hy
  unfold LexLe at hu hw
  have fin : ∀ {s t : Int}, s * t = 0 → s = 0 ∨ t = 0 := fun h => Int.mul_eq_zero.1 h
  rcases (show u.1 = v.1 ∨ w.1 = v.1 by omega) with e | e
  · have e1 : (v.1 - w.1) * (v.2 - u.2) = 0 := by unfold tI at h0; grind
    rcases fin e1 with g | g
    · rcases (show u.2 = v.2 ∨ w.2 = v.2 by omega) with q | q
      · exact .inl (Prod.ext (by omega) (by omega))
      · exact .inr (Prod.ext (by omega) (by omega))
    · exact .inl (Prod.ext (by omega) (by omega))
  · have e1 : (v.1 - u.1) * (v.2 - w.2) = 0 := by unfold tI at h0; grind
    rcases fin e1 with g | g
    · rcases (show u.2 = v.2 ∨ w.2 = v.2 by omega) with q | q
      · exact .inl (Prod.ext (by omega) (by omega))
      · exact .inr (Prod.ext (by omega) (by omega))
    · exact .inr (Prod.ext (by omega) (by omega))

/-- A line with one common end and nothing else: the common point is that end. -/
theorem only_end {a b d y : Int × Int} (hab : a ≠ b) (hbd : b ≠ d) (h1 : onI a b d = false) (h2 : onI b d a = false) (y1 : onI a b y = true) (y2 : onI b d y = true) : y = b := by
  by_cases hy : y = b
  · exact hy
  · exfalso
    -- y on both, not b: all on one line
    obtain ⟨m, k, hm, hk, hmk, hw, m0, k0⟩ := weights y1 hab
    obtain ⟨m', k', hm', hk', hmk', hw', m0', k0'⟩ := weights y2 hbd
    have t1 := ((onI_iff _ _ _).1 y1).1
    have t2 := ((onI_iff _ _ _).1 y2).1
    have hm1 : 0 < m := by
      rcases Int.lt_or_eq_of_le hm with g | g
      · exact g
      · exact absurd (m0 g.symm) hy
    have e := hw b d
    rw [t2, (tI_same b d).1, Int.mul_zero, Int.mul_zero, Int.add_zero] at e
    have t3 : tI b d a = 0 := by
      rcases Int.mul_eq_zero.1 e.symm with g | g
      · omega
      · exact g
    have t4 : tI a b d = 0 := by rw [tI_cyc]; exact t3
    rcases coll3 t4 with g | g | g
    · rw [h1] at g; cases g
    · rw [h2] at g; cases g
    · -- b between d and a: then y = b
      have bx1 := betw ((onI_iff _ _ _).1 y1).2.1
      have bx2 := betw ((onI_iff _ _ _).1 y2).2.1
      have bx3 := betw ((onI_iff _ _ _).1 g).2.1
      have by1 := betw ((onI_iff _ _ _).1 y1).2.2
      have by2 := betw ((onI_iff _ _ _).1 y2).2.2
      have by3 := betw ((onI_iff _ _ _).1 g).2.2
      exact hy (Prod.ext (by omega) (by omega))

theorem Clean.sc {K : Int} (hK : 0 < K) {a b c d : Int × Int} (h : Clean a b c d) : Clean (sc K a) (sc K b) (sc K c) (sc K d) := by
  have ne : ∀ {p q : Int × Int}, Go.Proofs.Ytlicmfhgjonmnaa.sc K p ≠ Go.Proofs.Ytlicmfhgjonmnaa.sc K q → p ≠ q := fun h e => h (by rw [e])
  refine ⟨fun h1 h2 => ?_, fun h1 h2 => ?_, fun h1 h2 => ?_, fun h1 h2 => ?_, ?_⟩
  · rw [onI_sc hK]; exact h.oc (ne h1) (ne h2)
  · rw [onI_sc hK]; exact h.od (ne h1) (ne h2)
  · rw [onI_sc hK]; exact h.oa (ne h1) (ne h2)
  · rw [onI_sc hK]; exact h.ob (ne h1) (ne h2)
  · rw [tI_sc, tI_sc, tI_sc, tI_sc, sc_mul_neg hK, sc_mul_neg hK]; exact h.ox

theorem Simple.sc {K : Int} (hK : 0 < K) {l : List (Int × Int)} (h : Simple l) : Simple (l.map (sc K)) := by
  refine ⟨?_, by have := h.three; simpa using this, ?_⟩
  · refine List.Pairwise.map _ ?_ h.nodup
    intro a b hab
    exact sc_ne hK hab
  · intro e he f hf hne
    rw [edges_map] at he hf
    obtain ⟨e0, he0, rfl⟩ := List.mem_map.1 he
    obtain ⟨f0, hf0, rfl⟩ := List.mem_map.1 hf
    exact (h.clean e0 he0 f0 hf0 (fun q => hne (by rw [q]))).sc hK

theorem LexLe.sc {K : Int} (hK : 0 < K) {a b : Int × Int} (h : LexLe a b) : LexLe (sc K a) (sc K b) := by
  rcases h with h | ⟨h1, h2⟩
  · exact .inl (Int.mul_lt_mul_of_pos_left h hK)
  · exact .inr ⟨by show K * a.1 = K * b.1; rw [h1], Int.mul_le_mul_of_nonneg_left h2 (Int.le_of_lt hK)⟩

theorem Tri_sc {K : Int} (hK : 0 < K) {u v w x : Int × Int} : Tri (sc K u) (sc K v) (sc K w) (sc K x) ↔ Tri u v w x := by
  unfold Tri; rw [InT_sc hK, InT_sc hK]

/-- The tip's triangle, all made greater. -/
theorem tip_round_sc {K : Int} (hK : 0 < K) {u v w : Int × Int} {r : List (Int × Int)} (hs : Simple (v :: w :: r ++ [u])) (hr : r ≠ []) (hD : tI u v w ≠ 0) (free : ∀ x ∈ r, ¬ Tri u v w x)
    (far : ∀ x ∈ w :: r ++ [u], LexLe x v) {y : Int × Int} (hy : Tri (sc K u) (sc K v) (sc K w) y) (y1 : onI (sc K u) (sc K v) y = false) (y2 : onI (sc K v) (sc K w) y = false) : wc y ((v :: w :: r ++ [u]).map (sc K)) ≠ 0 := by
  have e : (v :: w :: r ++ [u]).map (sc K) = sc K v :: sc K w :: r.map (sc K) ++ [sc K u] := by simp
  rw [e]
  refine tip_round (by rw [← e]; exact hs.sc hK) (by simpa using hr) ?_ ?_ ?_ hy y1 y2
  · rw [tI_sc]; intro h; exact hD ((sc_sign hK).2.2.1 h)
  · intro x hx
    obtain ⟨x0, hx0, rfl⟩ := List.mem_map.1 hx
    exact fun h => free x0 hx0 ((Tri_sc hK).1 h)
  · intro x hx
    have : x ∈ (w :: r ++ [u]).map (sc K) := by simpa using hx
    obtain ⟨x0, hx0, rfl⟩ := List.mem_map.1 this
    exact (far x0 hx0).sc hK

/-- The turn at the corner furthest to the right is one. -/
theorem tip_turn {u v w : Int × Int} {r : List (Int × Int)} (hs : Simple (v :: w :: r ++ [u])) (far : ∀ x ∈ w :: r ++ [u], LexLe x v) : tI u v w ≠ 0 := by
  intro h0
  have hn := hs.nodup
  simp only [List.cons_append, List.nodup_cons, List.mem_cons, List.mem_append, List.not_mem_nil, or_false, not_or] at hn
  obtain ⟨⟨n1, n2, n3⟩, ⟨n4, n5⟩, _⟩ := hn
  have m1 : (u, v) ∈ edges (v :: w :: r ++ [u]) := by rw [edges_ear]; simp
  have m2 : (v, w) ∈ edges (v :: w :: r ++ [u]) := by rw [edges_ear]; simp
  rcases coll3 h0 with g | g | g
  · have := hs.corner m1 (x := w) (by simp) n5 (Ne.symm n1)
    simp only at this; rw [g] at this; cases this
  · have := hs.corner m2 (x := u) (by simp) (Ne.symm n3) (Ne.symm n5)
    simp only at this; rw [g] at this; cases this
  · rcases far_between (far u (by simp)) (far w (by simp)) g with q | q
    · exact n3 q
    · exact n1 q
end

section
set_option linter.unusedVariables false

/-- From a along a b, but not to b: b d isn't met. -/
theorem share_off {a b d x : Int × Int} (hab : a ≠ b) (hbd : b ≠ d) (h1 : onI a b d = false) (h2 : onI b d a = false) (hx : onI a b x = true) (hxb : x ≠ b) : Off a x b d := by
  by_cases g : Off a x b d
  · exact g
  · exfalso
    obtain ⟨K, hK, y, y1, y2⟩ := meet_point g
    have hx' : onI (sc K a) (sc K b) (sc K x) = true := by rw [onI_sc hK]; exact hx
    have yb : y = sc K b := only_end (sc_ne hK hab) (sc_ne hK hbd) (by rw [onI_sc hK]; exact h1) (by rw [onI_sc hK]; exact h2) (on_trans hx' y1) y2
    subst yb
    rw [onI_sc hK] at y1
    -- b between a and x, x between a and b
    have b1 := betw ((onI_iff _ _ _).1 hx).2.1
    have b2 := betw ((onI_iff _ _ _).1 hx).2.2
    have b3 := betw ((onI_iff _ _ _).1 y1).2.1
    have b4 := betw ((onI_iff _ _ _).1 y1).2.2
    exact hxb (Prod.ext (by omega) (by omega))

theorem path_ne' {e : (Int × Int) × (Int × Int)} {l : List (Int × Int)} (hn : l.Nodup) (hl : 2 ≤ l.length) (h : e ∈ edges l) : e.1 ≠ e.2 := by
  cases l with
  | nil => simp [edges] at h
  | cons a r =>
    cases r with
    | nil => simp at hl
    | cons b s =>
      have e1 : edges (a :: b :: s) = (a, b) :: path b (s ++ [a]) := rfl
      rw [e1] at h
      rcases List.mem_cons.1 h with h | h
      · subst h
        simp only [List.nodup_cons, List.mem_cons, not_or] at hn
        exact hn.1.1
      · refine path_ne (a := b) (s := s ++ [a]) ?_ h
        have : (b :: (s ++ [a])).Perm (a :: b :: s) := by
          have := List.perm_append_comm (l₁ := b :: s) (l₂ := [a])
          simpa using this
        exact (this.nodup_iff).2 hn

theorem Simple.ne {l : List (Int × Int)} (h : Simple l) {e : (Int × Int) × (Int × Int)} (he : e ∈ edges l) : e.1 ≠ e.2 := path_ne' h.nodup (by have := h.three; omega) he

section
variable {q0 qk : Int × Int} {c o : List (Int × Int)}

theorem Chain.in_list (h : Chain q0 c qk o) {x : Int × Int} (hx : x ∈ q0 :: c ++ [qk]) : x ∈ q0 :: c ++ qk :: o := by
  simp only [List.cons_append, List.mem_cons, List.mem_append, List.not_mem_nil, or_false] at hx ⊢
  rcases hx with g | g | g
  · exact .inl g
  · exact .inr (.inl g)
  · exact .inr (.inr (.inl g))

/-- None of the others lies on an edge of the chain. -/
theorem Chain.out_on (h : Chain q0 c qk o) {f : (Int × Int) × (Int × Int)} (hf : f ∈ edges (q0 :: c ++ [qk])) {y : Int × Int} (hy : y ∈ o) : onI f.1 f.2 y = false := by
  have m := edges_mem hf
  have a1 := h.apart m.1 hy
  have a2 := h.apart m.2 hy
  have hyP : y ∈ q0 :: c ++ qk :: o := by simp [hy]
  rw [edges_rest qk q0 c] at hf
  simp only [List.mem_append, List.mem_cons, List.not_mem_nil, or_false] at hf
  rcases hf with hf | hf
  · exact h.simple.corner (h.edge_in hf) hyP (Ne.symm a1) (Ne.symm a2)
  · subst hf
    obtain ⟨z, hz⟩ := begins hyP
    exact (h.shut _ hz).oc (Ne.symm a1) (Ne.symm a2)

/-- A chain's edge and an edge of the polygon that goes out have nothing but an end in common. -/
theorem Chain.mixed (h : Chain q0 c qk o) {e : (Int × Int) × (Int × Int)} (he : e ∈ path qk (o ++ [q0])) (hne : e.1 ∈ o ∨ e.2 ∈ o) {f : (Int × Int) × (Int × Int)} (hf : f ∈ edges (q0 :: c ++ [qk])) : Clean e.1 e.2 f.1 f.2 := by
  have m := edges_mem hf
  rw [edges_rest qk q0 c] at hf
  simp only [List.mem_append, List.mem_cons, List.not_mem_nil, or_false] at hf
  rcases hf with hf | hf
  · refine h.simple.clean _ (h.edge_out he) _ (h.edge_in hf) ?_
    intro q
    rcases hne with g | g
    · exact h.apart m.1 g (by rw [q])
    · exact h.apart m.2 g (by rw [q])
  · subst hf; exact (h.shut _ (h.edge_out he)).swap

/-- Along an edge that goes out from one of the others the chain goes round nothing (but at its far end). -/
theorem Chain.out_zero (h : Chain q0 c qk o) {K : Int} (hK : 0 < K) {a b : Int × Int} (ha : a ∈ o) (hab : a ≠ b) (hc : ∀ f ∈ edges (q0 :: c ++ [qk]), Clean a b f.1 f.2) {x : Int × Int} (hx : onI (sc K a) (sc K b) x = true) (hxb : x ≠ sc K b ∨ b ∈ o) : wc x ((q0 :: c ++ [qk]).map (sc K)) = 0 := by
  have h0 : wc (sc K a) ((q0 :: c ++ [qk]).map (sc K)) = 0 := by rw [wc_sc hK]; exact h.none a ha
  rw [← h0]
  refine (wc_same fun e he => ?_).symm
  rw [edges_map] at he
  obtain ⟨f, hf, rfl⟩ := List.mem_map.1 he
  have m := edges_mem hf
  have n1 := h.apart m.1 ha
  have n2 := h.apart m.2 ha
  have hfn := h.poly.ne hf
  have cl := hc f hf
  have sab := sc_ne hK hab
  by_cases g1 : b = f.1
  · have nb : b ∉ o := fun hb => h.apart m.1 hb g1.symm
    have hx' : x ≠ sc K b := hxb.elim id (fun hb => absurd hb nb)
    have o1 : onI a b f.2 = false := cl.od (Ne.symm (Ne.symm n2)) (by rw [g1]; exact Ne.symm hfn)
    have o2 : onI b f.2 a = false := by
      have := cl.oa (Ne.symm n1) (Ne.symm n2)
      rw [← g1] at this; exact this
    have := share_off sab (sc_ne hK (by rw [g1]; exact hfn : b ≠ f.2)) (by rw [onI_sc hK]; exact o1) (by rw [onI_sc hK]; exact o2) hx hx'
    rw [← g1]; exact this
  · by_cases g2 : b = f.2
    · have nb : b ∉ o := fun hb => h.apart m.2 hb g2.symm
      have hx' : x ≠ sc K b := hxb.elim id (fun hb => absurd hb nb)
      have o1 : onI a b f.1 = false := cl.oc (Ne.symm (Ne.symm n1)) (Ne.symm g1)
      have o2 : onI b f.1 a = false := by
        have := cl.oa (Ne.symm n1) (Ne.symm n2)
        rw [onI_comm, ← g2] at this; exact this
      have := share_off sab (sc_ne hK g1) (by rw [onI_sc hK]; exact o1) (by rw [onI_sc hK]; exact o2) hx hx'
      rw [← g2]; exact this.rev2
    · have := (cl.off (Ne.symm n1) (Ne.symm n2) g1 g2).sc hK
      exact sub_off sab (sc_ne hK hfn) this hx

end

/-- The line between the neighbours, whichever way round. -/
theorem ear_off' {u v w c d : Int × Int} (hD : tI u v w ≠ 0) (nc : ¬ Tri u v w c) (nd : ¬ Tri u v w d) (o1 : Off c d u v) (o2 : Off c d v w) : Off u w c d := by
  have dr : tI w v u = - tI u v w := by unfold tI; grind
  rcases Int.lt_or_gt_of_ne hD with h | h
  · exact (ear_off (u := w) (v := v) (w := u) (by omega) (fun g => nc (.inr g)) (fun g => nd (.inr g)) o2.rev2 o1.rev2).rev1
  · exact ear_off h (fun g => nc (.inl g)) (fun g => nd (.inl g)) o1 o2

theorem on_uw' {u v w c : Int × Int} (hD : tI u v w ≠ 0) (nc : ¬ Tri u v w c) : onI u w c = false := by
  have dr : tI w v u = - tI u v w := by unfold tI; grind
  rcases Int.lt_or_gt_of_ne hD with h | h
  · rw [onI_comm]; exact on_uw (u := w) (v := v) (w := u) (by omega) (fun g => nc (.inr g))
  · exact on_uw h (fun g => nc (.inl g))

/-- A corner of the chain whose triangle holds no other corner. -/
def EarIn (Q o : List (Int × Int)) : Prop := ∃ l u x w m, Q = l ++ u :: x :: w :: m ∧ tI u x w ≠ 0 ∧ ∀ y, y ∈ l ++ m ++ o → ¬ Tri u x w y

theorem EarIn.flip {Q o : List (Int × Int)} (h : EarIn Q.reverse o.reverse) : EarIn Q o := by
  obtain ⟨l, u, x, w, m, e, hD, hf⟩ := h
  refine ⟨m.reverse, w, x, u, l.reverse, ?_, ?_, ?_⟩
  · have := congrArg List.reverse e
    simpa using this
  · have : tI w x u = - tI u x w := by unfold tI; grind
    omega
  · intro y hy hT
    refine hf y ?_ hT.symm
    simp only [List.mem_append, List.mem_reverse] at hy ⊢
    rcases hy with (g | g) | g
    · exact .inl (.inr g)
    · exact .inl (.inl g)
    · exact .inr g

section
variable {q0 qk : Int × Int} {c o : List (Int × Int)}

/-- None of the others lies in the tip's triangle. -/
theorem Chain.tip_out (h : Chain q0 c qk o) {u v w : Int × Int} {r l1 l2 : List (Int × Int)} (e1 : q0 :: c ++ [qk] = l1 ++ l2) (e2 : v :: w :: r ++ [u] = l2 ++ l1) (hr : r ≠ [])
    (free : ∀ x ∈ r, ¬ Tri u v w x) (far : ∀ x ∈ w :: r ++ [u], LexLe x v) : ∀ y ∈ o, ¬ Tri u v w y := by
  intro y hy hT
  have hs : Simple (v :: w :: r ++ [u]) := by rw [e2]; have := h.poly; rw [e1] at this; exact this.rot
  have hz := h.none y hy
  rw [e1, wc_rot, ← e2] at hz
  have mem : ∀ {f : (Int × Int) × (Int × Int)}, f ∈ edges (v :: w :: r ++ [u]) → f ∈ edges (q0 :: c ++ [qk]) := by
    intro f hf
    rw [e2] at hf; rw [e1]
    exact (edges_rot l1 l2).mem_iff.2 hf
  refine tip_round hs hr (tip_turn hs far) free far hT ?_ ?_ hz
  · exact h.out_on (f := (u, v)) (mem (by rw [edges_ear]; simp)) hy
  · exact h.out_on (f := (v, w)) (mem (by rw [edges_ear]; simp)) hy

end
end

section
set_option linter.unusedVariables false

section
variable {q0 qk w : Int × Int} {r o : List (Int × Int)}

theorem Chain.nodup3 (h : Chain q0 (w :: r) qk o) : q0 ≠ w ∧ q0 ∉ r ∧ q0 ≠ qk ∧ q0 ∉ o ∧ w ∉ r ∧ w ≠ qk ∧ w ∉ o ∧ qk ∉ r ∧ qk ∉ o := by
  have hn := h.simple.nodup
  simp only [List.cons_append, List.nodup_cons, List.mem_cons, List.mem_append, not_or, List.nodup_append] at hn
  obtain ⟨⟨h1, h2, h3, h4⟩, ⟨h5, h6, h7⟩, h8, h9, h10⟩ := hn
  exact ⟨h1, h2, h3, h4, h5, h6, h7, fun g => h10 qk g qk (.inl rfl) rfl, h9.1⟩

theorem Chain.others (h : Chain q0 (w :: r) qk o) : o ≠ [] := by
  obtain ⟨s, hs, _⟩ := h.far
  intro e; rw [e] at hs; simp at hs

theorem Chain.shorter (h : Chain q0 (w :: r) qk o) (hr : r ≠ []) (far : ∀ x ∈ w :: r ++ [qk], LexLe x q0) (free : ∀ x ∈ r, ¬ Tri qk q0 w x) : Chain w r qk (o ++ [q0]) := by
  obtain ⟨n1, n2, n3, n4, n5, n6, n7, n8, n9⟩ := h.nodup3
  have hQ : Simple (q0 :: w :: r ++ [qk]) := h.poly
  have hD : tI qk q0 w ≠ 0 := tip_turn hQ far
  have outT : ∀ y ∈ o, ¬ Tri qk q0 w y := h.tip_out (l1 := []) (l2 := q0 :: w :: r ++ [qk]) (by simp) (by simp) hr free far
  have rot : q0 :: (w :: r) ++ qk :: o = [q0] ++ (w :: r ++ qk :: o) := by simp
  have eP : w :: r ++ qk :: (o ++ [q0]) = (w :: r ++ qk :: o) ++ [q0] := by simp
  have memP : ∀ {e : (Int × Int) × (Int × Int)}, e ∈ edges (w :: r ++ qk :: (o ++ [q0])) → e ∈ edges (q0 :: (w :: r) ++ qk :: o) := by
    intro e he
    rw [eP] at he; rw [rot]
    exact (edges_rot [q0] (w :: r ++ qk :: o)).mem_iff.2 he
  have inP : ∀ x, x ∈ q0 :: w :: r ++ [qk] → x ∈ q0 :: (w :: r) ++ qk :: o := fun x hx => h.in_list hx
  refine ⟨?_, hr, ?_, ?_⟩
  · rw [eP]; have := h.simple; rw [rot] at this; exact this.rot
  · intro e he
    have heP := memP he
    rw [edges_two] at heP
    have zw : tI qk w w = 0 := (tI_same qk w).2.1
    have zq : tI qk w qk = 0 := (tI_same qk w).1
    have vw : tI qk w q0 ≠ 0 := by
      have : tI qk w q0 = - tI qk q0 w := tI_neg' qk q0 w
      omega
    have mvw : (q0, w) ∈ edges (q0 :: w :: r ++ [qk]) := by rw [edges_ear]; simp
    have mPvw : (q0, w) ∈ edges (q0 :: (w :: r) ++ qk :: o) := h.edge_in (by simp [path])
    rcases List.mem_append.1 heP with g | g
    · simp only [List.cons_append, path, List.mem_cons] at g
      rcases g with g | g
      · -- the edge from q0 to w
        subst g
        refine ⟨fun _ _ => ?_, fun _ k => absurd rfl k, fun _ _ => ?_, fun _ k => absurd rfl k, ?_⟩
        · cases q : onI qk w q0 with
          | false => rfl
          | true => exact absurd ((onI_iff _ _ _).1 q).1 vw
        · exact hQ.corner mvw (x := qk) (by simp) (Ne.symm n3) (Ne.symm n6)
        · rintro ⟨k, _⟩; rw [zw, Int.mul_zero] at k; omega
      · have mQ : e ∈ edges (q0 :: w :: r ++ [qk]) := by rw [edges_ear]; simp [g]
        rcases path_class hr g with ⟨a1, a2⟩ | ⟨a1, a2⟩ | ⟨a1, a2⟩
        · have c1 : e.1 ≠ q0 ∧ e.1 ≠ w ∧ e.1 ≠ qk := ⟨fun q => n2 (q ▸ a1), fun q => n5 (q ▸ a1), fun q => n8 (q ▸ a1)⟩
          have c2 : e.2 ≠ q0 ∧ e.2 ≠ w ∧ e.2 ≠ qk := ⟨fun q => n2 (q ▸ a2), fun q => n5 (q ▸ a2), fun q => n8 (q ▸ a2)⟩
          have mu : (qk, q0) ∈ edges (q0 :: w :: r ++ [qk]) := by rw [edges_ear]; simp
          have o1 : Off e.1 e.2 qk q0 := (hQ.clean _ mQ _ mu (fun q => c1.2.2 (by rw [q]))).off c1.2.2 c1.1 c2.2.2 c2.1
          have o2 : Off e.1 e.2 q0 w := (hQ.clean _ mQ _ mvw (fun q => c1.1 (by rw [q]))).off c1.1 c1.2.1 c2.1 c2.2.1
          exact (ear_off' hD (free _ a1) (free _ a2) o1 o2).clean
        · have c2 : e.2 ≠ q0 ∧ e.2 ≠ w ∧ e.2 ≠ qk := ⟨fun q => n2 (q ▸ a2), fun q => n5 (q ▸ a2), fun q => n8 (q ▸ a2)⟩
          refine ⟨fun _ k => absurd a1 k, fun _ _ => on_uw' hD (free _ a2), fun k1 k2 => ?_, fun k _ => absurd a1.symm k, ?_⟩
          · exact hQ.corner mQ (x := qk) (by simp) k1 k2
          · rintro ⟨k, _⟩; rw [a1, zw, Int.zero_mul] at k; omega
        · refine ⟨fun _ _ => on_uw' hD (free _ a1), fun k _ => absurd a2 k, fun _ k => absurd a2.symm k, fun k1 k2 => ?_, ?_⟩
          · exact hQ.corner mQ (x := w) (by simp) k1 k2
          · rintro ⟨k, _⟩; rw [a2, zq, Int.mul_zero] at k; omega
    · have mo := h.edge_out g
      rcases path_class h.others g with ⟨a1, a2⟩ | ⟨a1, a2⟩ | ⟨a1, a2⟩
      · have o1 : Off e.1 e.2 qk q0 := h.out_off mo a1 a2 (f := (qk, q0)) (by rw [edges_ear]; simp)
        have o2 : Off e.1 e.2 q0 w := h.out_off mo a1 a2 (f := (q0, w)) mvw
        exact (ear_off' hD (outT _ a1) (outT _ a2) o1 o2).clean
      · refine ⟨fun k _ => absurd a1 k, fun _ _ => on_uw' hD (outT _ a2), fun k _ => absurd a1.symm k, fun k1 k2 => ?_, ?_⟩
        · exact h.simple.corner mo (inP w (by simp)) k1 k2
        · rintro ⟨k, _⟩; rw [a1, zq, Int.zero_mul] at k; omega
      · -- an edge that comes back to q0: it cannot pass the triangle
        by_cases ho : Off qk w e.1 e.2
        · exact ho.clean
        · exfalso
          obtain ⟨K, hK, x, x1, x2⟩ := meet_point ho
          rw [a2] at x2
          have n4' : e.1 ≠ q0 := fun q => n4 (q ▸ a1)
          have hxv : x ≠ sc K q0 := by
            intro q; subst q
            rw [onI_sc hK] at x1
            exact vw ((onI_iff _ _ _).1 x1).1
          have mix : ∀ f ∈ edges (q0 :: w :: r ++ [qk]), Clean e.1 q0 f.1 f.2 := fun f hf => by
            have := h.mixed g (.inl a1) hf
            rw [a2] at this; exact this
          have z0 := h.out_zero hK a1 n4' mix x2 (.inl hxv)
          have mu : (qk, q0) ∈ edges (q0 :: w :: r ++ [qk]) := by rw [edges_ear]; simp
          have cu := mix _ mu
          have cw := mix _ mvw
          have ne1 : e.1 ≠ qk := fun q => n9 (q ▸ a1)
          have ne2 : e.1 ≠ w := fun q => n7 (q ▸ a1)
          have hT : Tri (sc K qk) (sc K q0) (sc K w) x := by
            have tri : ∀ {a b d y : Int × Int}, 0 < tI a b d → onI a d y = true → InT a b d y := by
              intro a b d y hd hy
              by_cases hi : InT a b d y
              · exact hi
              · have := on_uw hd hi
                rw [this] at hy; cases hy
            have dr : tI w q0 qk = - tI qk q0 w := by unfold tI; grind
            rcases Int.lt_or_gt_of_ne hD with k | k
            · exact .inr (tri (by rw [tI_sc]; exact (sc_sign hK).1.2 (by omega)) (by rw [onI_comm]; exact x1))
            · exact .inl (tri (by rw [tI_sc]; exact (sc_sign hK).1.2 k) x1)
          refine tip_round_sc hK hQ hr hD free far hT ?_ ?_ z0
          · cases q : onI (sc K qk) (sc K q0) x with
            | false => rfl
            | true =>
              refine absurd (only_end (a := sc K e.1) (b := sc K q0) (d := sc K qk) (sc_ne hK n4') (sc_ne hK n3) ?_ ?_ x2 (by rw [onI_comm]; exact q)) hxv
              · rw [onI_sc hK]; exact cu.oc (Ne.symm ne1) (Ne.symm n3)
              · rw [onI_sc hK, onI_comm]; exact cu.oa ne1 n4'
          · cases q : onI (sc K q0) (sc K w) x with
            | false => rfl
            | true =>
              refine absurd (only_end (a := sc K e.1) (b := sc K q0) (d := sc K w) (sc_ne hK n4') (sc_ne hK n1) ?_ ?_ x2 q) hxv
              · rw [onI_sc hK]; exact cw.od (Ne.symm ne2) (Ne.symm n1)
              · rw [onI_sc hK]; exact cw.oa n4' ne2
  · obtain ⟨s, hs, hf⟩ := h.far
    exact ⟨s, by simp [hs], fun x hx => hf x (by
      simp only [List.cons_append, List.mem_cons, List.mem_append, List.not_mem_nil, or_false] at hx ⊢
      exact .inr hx)⟩
end
end

section
set_option linter.unusedVariables false

/-- As diag_off, asking of an end only what a crossing would use. -/
theorem diag_off2 {u v w z c d : Int × Int} (hD : 0 < tI u v w) (hCz : 0 < tI u v z) (hAz : 0 < tI v w z) (hBz : 0 ≤ tI w u z) (hz : tI w u z < tI u v w)
    (hc : InT u v w c → tI w u c ≤ tI w u z) (hd : InT u v w d → tI w u d ≤ tI w u z)
    (H1 : 0 < tI v z c → tI v z d < 0 → (tI w u c ≤ tI w u z ∨ Off c d u v) ∧ (tI w u d ≤ tI w u z ∨ Off c d v w))
    (H2 : tI v z c < 0 → 0 < tI v z d → (tI w u d ≤ tI w u z ∨ Off c d u v) ∧ (tI w u c ≤ tI w u z ∨ Off c d v w))
    (hcz : c ≠ z) (hcv : c ≠ v) (hdz : d ≠ z) (hdv : d ≠ v) (nv : onI c d v = false) (nz : onI c d z = false) : Off v z c d := by
  refine ⟨on_vz hD hCz hAz hBz hz hc hcz hcv, on_vz hD hCz hAz hBz hz hd hdz hdv, nv, nz, ?_⟩
  rintro ⟨h1, h2⟩
  have hP : tI v z c - tI v z d = tI c d z - tI c d v := tI_diff v z c d
  rcases mul_neg_cases h1 with ⟨a1, a2⟩ | ⟨a1, a2⟩ <;> rcases mul_neg_cases h2 with ⟨b1, b2⟩ | ⟨b1, b2⟩
  · omega
  · obtain ⟨c1, d2⟩ := H1 a1 a2
    exact no_cross hD hCz hAz hBz hz hc hd c1 d2 a1 a2 b1 b2
  · have r1 := tI_neg c d v
    have r2 := tI_neg c d z
    obtain ⟨d1, c2⟩ := H2 a1 a2
    exact no_cross hD hCz hAz hBz hz hd hc (d1.imp id Off.rev1) (c2.imp id Off.rev1) a2 a1 (by omega) (by omega)
  · omega

/-- The tip v of a polygon and the highest other corner z in its triangle. -/
structure Peak (u v w z : Int × Int) (r : List (Int × Int)) : Prop where
  simple : Simple (v :: w :: r ++ [u])
  far : ∀ x ∈ w :: r ++ [u], LexLe x v
  turn : 0 < tI u v w
  mem : z ∈ r
  inT : InT u v w z
  top : ∀ x ∈ r, InT u v w x → tI w u x ≤ tI w u z

section
variable {u v w z : Int × Int} {r : List (Int × Int)}

theorem Peak.nd (h : Peak u v w z r) : v ≠ w ∧ v ∉ r ∧ v ≠ u ∧ w ∉ r ∧ w ≠ u ∧ u ∉ r := by
  have hn := h.simple.nodup
  simp only [List.cons_append, List.nodup_cons, List.mem_cons, List.mem_append, List.not_mem_nil, or_false, not_or, List.nodup_append] at hn
  obtain ⟨⟨h1, h2, h3⟩, ⟨h4, h5⟩, h6, h7, h8⟩ := hn
  exact ⟨h1, h2, h3, h4, h5, fun hu => h8 u hu u (by simp) rfl⟩

theorem Peak.some (h : Peak u v w z r) : r ≠ [] := by intro e; have := h.mem; rw [e] at this; simp at this

theorem Peak.pos (h : Peak u v w z r) : 0 < tI u v z ∧ 0 < tI v w z ∧ 0 ≤ tI w u z ∧ tI w u z < tI u v w := by
  obtain ⟨n1, n2, n3, n4, n5, n6⟩ := h.nd
  have zv : z ≠ v := fun q => n2 (q ▸ h.mem)
  have zw : z ≠ w := fun q => n4 (q ▸ h.mem)
  have zu : z ≠ u := fun q => n6 (q ▸ h.mem)
  have hzm : z ∈ v :: w :: r ++ [u] := by simp [h.mem]
  have m1 : (u, v) ∈ edges (v :: w :: r ++ [u]) := by rw [edges_ear]; simp
  have m2 : (v, w) ∈ edges (v :: w :: r ++ [u]) := by rw [edges_ear]; simp
  have dv : tI v w u = tI u v w := (tI_cyc u v w).symm
  have hD := h.turn
  have g1 : 0 < tI u v z := by
    rcases Int.lt_or_eq_of_le h.inT.1 with g | g
    · exact g
    · have := h.inT.on_uv hD g.symm
      have q := h.simple.corner m1 hzm zu zv
      simp only at q; rw [this] at q; cases q
  have g2 : 0 < tI v w z := by
    rcases Int.lt_or_eq_of_le h.inT.2.1 with g | g
    · exact g
    · have := h.inT.cyc.on_uv (by omega) g.symm
      have q := h.simple.corner m2 hzm zv zw
      simp only at q; rw [this] at q; cases q
  have := tI_sum u v w z
  exact ⟨g1, g2, h.inT.2.2, by omega⟩

/-- The line v z meets no edge of the polygon but at its ends. -/
theorem Peak.clean (h : Peak u v w z r) : ∀ e ∈ edges (v :: w :: r ++ [u]), Clean v z e.1 e.2 := by
  obtain ⟨n1, n2, n3, n4, n5, n6⟩ := h.nd
  obtain ⟨p1, p2, p3, p4⟩ := h.pos
  have hD := h.turn
  have zv : z ≠ v := fun q => n2 (q ▸ h.mem)
  have zw : z ≠ w := fun q => n4 (q ▸ h.mem)
  have zu : z ≠ u := fun q => n6 (q ▸ h.mem)
  have hzm : z ∈ v :: w :: r ++ [u] := by simp [h.mem]
  have hvm : v ∈ v :: w :: r ++ [u] := by simp
  have m1 : (u, v) ∈ edges (v :: w :: r ++ [u]) := by rw [edges_ear]; simp
  have m2 : (v, w) ∈ edges (v :: w :: r ++ [u]) := by rw [edges_ear]; simp
  have fw : tI w u w = 0 := (tI_same w u).1
  have fu : tI w u u = 0 := (tI_same w u).2.1
  have low : ∀ x, x ∈ w :: r ++ [u] → InT u v w x → tI w u x ≤ tI w u z := by
    intro x hx hi
    simp only [List.cons_append, List.mem_cons, List.mem_append, List.not_mem_nil, or_false] at hx
    rcases hx with g | g | g
    · subst g; omega
    · exact h.top x g hi
    · subst g; omega
  have offp : ∀ x, x ∈ w :: r ++ [u] → x ≠ z → x ≠ v → onI v z x = false := fun x hx q1 q2 => on_vz hD p1 p2 p3 p4 (low x hx) q1 q2
  have zz : tI v z z = 0 := (tI_same v z).2.1
  have zv0 : tI v z v = 0 := (tI_same v z).1
  -- sides of v z
  have su : 0 < tI v z u := by
    have : tI v z u = tI u v z := (tI_cyc u v z).symm
    omega
  have sw : tI v z w < 0 := by
    have : tI v z w = - tI v w z := tI_neg' v w z
    omega
  intro e he
  have me := edges_mem he
  have hen := h.simple.ne he
  rw [edges_ear] at he
  simp only [List.mem_cons, List.mem_append, List.not_mem_nil, or_false] at he
  rcases he with g | g | g
  · subst g
    refine ⟨fun k _ => absurd rfl k, fun k1 k2 => offp w (by simp) k2 k1, fun k _ => absurd rfl k, fun k1 k2 => ?_, ?_⟩
    · exact h.simple.corner m2 hzm k1 k2
    · rintro ⟨k, _⟩; rw [zv0, Int.zero_mul] at k; omega
  · have mQ : e ∈ edges (v :: w :: r ++ [u]) := by rw [edges_ear]; simp [g]
    have pm := path_mem' g
    have e1m : e.1 ∈ w :: r ++ [u] := by
      rcases List.mem_cons.1 pm.1 with q | q
      · simp [q]
      · simp [q]
    have e2m : e.2 ∈ w :: r ++ [u] := by
      rcases List.mem_append.1 pm.2 with q | q
      · simp [q]
      · simp only [List.mem_cons, List.not_mem_nil, or_false] at q; simp [q]
    have v1 : e.1 ≠ v := by
      intro q
      rcases List.mem_cons.1 pm.1 with k | k
      · exact n1 (by rw [← q, k])
      · exact n2 (q ▸ k)
    have v2 : e.2 ≠ v := by
      intro q
      rcases List.mem_append.1 pm.2 with k | k
      · exact n2 (q ▸ k)
      · simp only [List.mem_cons, List.not_mem_nil, or_false] at k; exact n3 (by rw [← q, k])
    by_cases z1 : e.1 = z
    · refine ⟨fun _ k => absurd z1 k, fun k1 k2 => offp _ e2m k2 k1, fun k1 k2 => ?_, fun k _ => absurd z1.symm k, ?_⟩
      · exact h.simple.corner mQ hvm k1 k2
      · rintro ⟨k, _⟩; rw [z1, zz, Int.zero_mul] at k; omega
    by_cases z2 : e.2 = z
    · refine ⟨fun k1 k2 => offp _ e1m k2 k1, fun _ k => absurd z2 k, fun k1 k2 => ?_, fun _ k => absurd z2.symm k, ?_⟩
      · exact h.simple.corner mQ hvm k1 k2
      · rintro ⟨k, _⟩; rw [z2, zz, Int.mul_zero] at k; omega
    refine (diag_off2 hD p1 p2 p3 p4 (low _ e1m) (low _ e2m) ?_ ?_ z1 v1 z2 v2 (h.simple.corner mQ hvm (Ne.symm v1) (Ne.symm v2)) (h.simple.corner mQ hzm (Ne.symm z1) (Ne.symm z2))).clean
    · intro s1 s2
      -- e.1 on u's side, e.2 on w's
      constructor
      · by_cases q : e.1 = u ∨ e.2 = u
        · rcases q with q | q
          · exact .inl (by rw [q, fu]; exact p3)
          · rw [q] at s2; omega
        · exact .inr ((h.simple.clean _ mQ _ m1 (fun k => v2 (by rw [k]))).off (fun k => q (.inl k)) v1 (fun k => q (.inr k)) v2)
      · by_cases q : e.1 = w ∨ e.2 = w
        · rcases q with q | q
          · rw [q] at s1; omega
          · exact .inl (by rw [q, fw]; exact p3)
        · exact .inr ((h.simple.clean _ mQ _ m2 (fun k => v1 (by rw [k]))).off v1 (fun k => q (.inl k)) v2 (fun k => q (.inr k)))
    · intro s1 s2
      constructor
      · by_cases q : e.1 = u ∨ e.2 = u
        · rcases q with q | q
          · rw [q] at s1; omega
          · exact .inl (by rw [q, fu]; exact p3)
        · exact .inr ((h.simple.clean _ mQ _ m1 (fun k => v2 (by rw [k]))).off (fun k => q (.inl k)) v1 (fun k => q (.inr k)) v2)
      · by_cases q : e.1 = w ∨ e.2 = w
        · rcases q with q | q
          · exact .inl (by rw [q, fw]; exact p3)
          · rw [q] at s2; omega
        · exact .inr ((h.simple.clean _ mQ _ m2 (fun k => v1 (by rw [k]))).off v1 (fun k => q (.inl k)) v2 (fun k => q (.inr k)))
  · subst g
    refine ⟨fun k1 k2 => offp u (by simp) k2 k1, fun k _ => absurd rfl k, fun _ k => absurd rfl k, fun k1 k2 => ?_, ?_⟩
    · exact h.simple.corner m1 hzm k1 k2
    · rintro ⟨k, _⟩; rw [zv0, Int.mul_zero] at k; omega

/-- Round the points of v z (but its ends) the edges go once. -/
theorem Peak.round (h : Peak u v w z r) {K : Int} (hK : 0 < K) {x : Int × Int} (hx : onI (sc K v) (sc K z) x = true) (hxv : x ≠ sc K v) (hxz : x ≠ sc K z) : wc x ((v :: w :: r ++ [u]).map (sc K)) = 1 := by
  obtain ⟨n1, n2, n3, n4, n5, n6⟩ := h.nd
  obtain ⟨p1, p2, p3, p4⟩ := h.pos
  have hD := h.turn
  have zv : z ≠ v := fun q => n2 (q ▸ h.mem)
  have dw : tI w u v = tI u v w := tI_cyc w u v
  have szv := sc_ne hK (Ne.symm zv)
  obtain ⟨m, k, hm, hk, hmk, hw, m0, k0⟩ := weights hx szv
  have hm' : 0 < m := by
    rcases Int.lt_or_eq_of_le hm with g | g
    · exact g
    · exact absurd (m0 g.symm) hxz
  have hk' : 0 < k := by
    rcases Int.lt_or_eq_of_le hk with g | g
    · exact g
    · exact absurd (k0 g.symm) hxv
  have sp : ∀ {t : Int}, 0 < t → 0 < (K * K) * t := fun h => (sc_sign hK).1.2 h
  have sn : ∀ {t : Int}, 0 ≤ t → 0 ≤ (K * K) * t := fun {t} h => by have := (sc_sign (t := t) hK).2.1; omega
  have pos : ∀ {t : Int}, 0 < (m + k) * t → 0 < t := fun h => pos_of_mul_pos (Int.le_of_lt hmk) h
  have t1 : 0 < tI (sc K u) (sc K v) x := by
    apply pos
    rw [hw, (tI_same (sc K u) (sc K v)).2.1, Int.mul_zero, Int.zero_add, tI_sc]
    exact Int.mul_pos hk' (sp p1)
  have t2 : 0 < tI (sc K v) (sc K w) x := by
    apply pos
    rw [hw, (tI_same (sc K v) (sc K w)).1, Int.mul_zero, Int.zero_add, tI_sc]
    exact Int.mul_pos hk' (sp p2)
  have t3 : 0 < tI (sc K w) (sc K u) x := by
    apply pos
    rw [hw, tI_sc, tI_sc, dw]
    have a1 := Int.mul_pos hm' (sp hD)
    have a2 := nn (Int.le_of_lt hk') (sn p3)
    omega
  have e0 : (v :: w :: r ++ [u]).map (sc K) = sc K v :: sc K w :: r.map (sc K) ++ [sc K u] := by simp
  rw [e0, wc_ear, wt_in (by rw [tI_sc]; exact sp hD) t1 t2 t3]
  have e1 : sc K w :: r.map (sc K) ++ [sc K u] = (w :: r ++ [u]).map (sc K) := by simp
  have z0 : wc x ((w :: r ++ [u]).map (sc K)) = wc (sc K v) ((w :: r ++ [u]).map (sc K)) := by
    refine wc_same fun e he => ?_
    rw [edges_map] at he
    obtain ⟨f, hf, rfl⟩ := List.mem_map.1 he
    rw [edges_rest] at hf
    simp only [List.mem_append, List.mem_cons, List.not_mem_nil, or_false] at hf
    rcases hf with hf | hf
    · have mQ : f ∈ edges (v :: w :: r ++ [u]) := by rw [edges_ear]; simp [hf]
      have cl := h.clean f mQ
      have hfn := h.simple.ne mQ
      have pm := path_mem' hf
      have v1 : v ≠ f.1 := by
        intro q
        rcases List.mem_cons.1 pm.1 with k | k
        · exact n1 (by rw [q, k])
        · exact n2 (q ▸ k)
      have v2 : v ≠ f.2 := by
        intro q
        rcases List.mem_append.1 pm.2 with k | k
        · exact n2 (q ▸ k)
        · simp only [List.mem_cons, List.not_mem_nil, or_false] at k; exact n3 (by rw [q, k])
      by_cases g1 : z = f.1
      · have o1 : onI v z f.2 = false := cl.od (Ne.symm v2) (by rw [g1]; exact Ne.symm hfn)
        have o2 : onI z f.2 v = false := by have := cl.oa v1 v2; rw [← g1] at this; exact this
        have := share_off szv (sc_ne hK (by rw [g1]; exact hfn : z ≠ f.2)) (by rw [onI_sc hK]; exact o1) (by rw [onI_sc hK]; exact o2) hx hxz
        rw [← g1]; exact this.rev1
      · by_cases g2 : z = f.2
        · have o1 : onI v z f.1 = false := cl.oc (Ne.symm v1) (Ne.symm g1)
          have o2 : onI z f.1 v = false := by have := cl.oa v1 v2; rw [onI_comm, ← g2] at this; exact this
          have := share_off szv (sc_ne hK g1) (by rw [onI_sc hK]; exact o1) (by rw [onI_sc hK]; exact o2) hx hxz
          rw [← g2]; exact this.rev1.rev2
        · exact (sub_off szv (sc_ne hK hfn) ((cl.off v1 v2 g1 g2).sc hK) hx).rev1
    · subst hf
      exact (off_side (a := sc K w) (b := sc K u) t3 (by rw [tI_sc, dw]; exact sp hD)).rev2
  rw [e1, z0, wc_sc hK, wc_far h.far]; rfl
end
end

section
set_option linter.unusedVariables false

theorem max_of {p : Int × Int → Prop} {f : Int × Int → Int} : ∀ {l : List (Int × Int)}, (∃ x ∈ l, p x) → ∃ z ∈ l, p z ∧ ∀ x ∈ l, p x → f x ≤ f z
  | [], h => by obtain ⟨x, hx, _⟩ := h; simp at hx
  | a :: l, h => by
    by_cases hl : ∃ x ∈ l, p x
    · obtain ⟨z, hz, pz, top⟩ := max_of (f := f) hl
      by_cases ha : p a ∧ f z < f a
      · refine ⟨a, by simp, ha.1, fun x hx px => ?_⟩
        rcases List.mem_cons.1 hx with g | g
        · subst g; exact Int.le_refl _
        · have := top x g px; omega
      · refine ⟨z, List.mem_cons_of_mem _ hz, pz, fun x hx px => ?_⟩
        rcases List.mem_cons.1 hx with g | g
        · subst g
          by_cases q : f z < f x
          · exact absurd ⟨px, q⟩ ha
          · omega
        · exact top x g px
    · obtain ⟨x, hx, px⟩ := h
      rcases List.mem_cons.1 hx with g | g
      · subst g
        refine ⟨x, by simp, px, fun y hy py => ?_⟩
        rcases List.mem_cons.1 hy with q | q
        · subst q; exact Int.le_refl _
        · exact absurd ⟨y, q, py⟩ hl
      · exact absurd ⟨x, g, px⟩ hl

/-- The tip, the neighbours, and the peak, whichever way round. -/
theorem peak_any {u v w : Int × Int} {r : List (Int × Int)} (hs : Simple (v :: w :: r ++ [u])) (far : ∀ x ∈ w :: r ++ [u], LexLe x v) (he : ∃ x ∈ r, Tri u v w x) :
    ∃ z ∈ r, Tri u v w z ∧ (∀ e ∈ edges (v :: w :: r ++ [u]), Clean v z e.1 e.2) ∧
      ∀ K : Int, 0 < K → ∀ x, onI (sc K v) (sc K z) x = true → x ≠ sc K v → x ≠ sc K z → wc x ((v :: w :: r ++ [u]).map (sc K)) ≠ 0 := by
  have hD := tip_turn hs far
  have dr : tI w v u = - tI u v w := by unfold tI; grind
  rcases Int.lt_or_gt_of_ne hD with hD | hD
  · have e1 : v :: w :: r ++ [u] = v :: (w :: r) ++ u :: [] := rfl
    have hs' : Simple (v :: u :: r.reverse ++ [w]) := by
      rw [e1] at hs
      have := hs.flip
      have e2 : u :: (w :: r).reverse ++ v :: [].reverse = (u :: r.reverse ++ [w]) ++ [v] := by simp
      rw [e2] at this
      have := this.rot
      simpa using this
    have far' : ∀ x ∈ u :: r.reverse ++ [w], LexLe x v := fun x hx => far x (by
      simp only [List.cons_append, List.mem_cons, List.mem_append, List.mem_reverse, List.not_mem_nil, or_false] at hx ⊢
      rcases hx with h | h | h
      · exact .inr (.inr h)
      · exact .inr (.inl h)
      · exact .inl h)
    obtain ⟨x, hx, hT⟩ := he
    have hi : InT w v u x := hT.elim (fun h => absurd h (InT_neg hD)) id
    obtain ⟨z, hz, pz, top⟩ := max_of (p := fun x => InT w v u x) (f := fun x => tI u w x) (l := r.reverse) ⟨x, by simpa using hx, hi⟩
    have pk : Peak w v u z r.reverse := ⟨hs', far', by omega, hz, pz, top⟩
    refine ⟨z, by simpa using hz, .inr pz, fun e he => ?_, fun K hK x h1 h2 h3 => ?_⟩
    · have : sw e ∈ edges (v :: u :: r.reverse ++ [w]) := by
        have q : sw e ∈ edges (u :: (w :: r).reverse ++ v :: [].reverse) := mem_flip.2 (by rw [← e1]; exact he)
        have e2 : u :: (w :: r).reverse ++ v :: [].reverse = (u :: r.reverse ++ [w]) ++ [v] := by simp
        rw [e2] at q
        have := (edges_rot (u :: r.reverse ++ [w]) [v]).mem_iff.1 q
        simpa using this
      exact (pk.clean _ this).rev2
    · have one := pk.round hK h1 h2 h3
      have fl := wc_flip x (sc K v) (sc K u) ((w :: r).map (sc K)) []
      have e3 : wc x (sc K u :: ((w :: r).map (sc K)).reverse ++ sc K v :: [].reverse) = wc x ((v :: u :: r.reverse ++ [w]).map (sc K)) := by
        have := wc_rot x ((u :: r.reverse ++ [w]).map (sc K)) [sc K v]
        simpa using this
      rw [e3, one] at fl
      have e4 : (v :: w :: r ++ [u]).map (sc K) = sc K v :: (w :: r).map (sc K) ++ sc K u :: [] := by simp
      rw [e4]; omega
  · obtain ⟨x, hx, hT⟩ := he
    have hi : InT u v w x := hT.elim id (fun h => absurd h (InT_neg (by omega)))
    obtain ⟨z, hz, pz, top⟩ := max_of (p := fun x => InT u v w x) (f := fun x => tI w u x) (l := r) ⟨x, hx, hi⟩
    have pk : Peak u v w z r := ⟨hs, far, hD, hz, pz, top⟩
    exact ⟨z, hz, .inl pz, pk.clean, fun K hK x h1 h2 h3 => by rw [pk.round hK h1 h2 h3]; decide⟩

section
variable {q0 qk : Int × Int} {c o : List (Int × Int)}

/-- A line within a chain, free of its edges and gone round at all its points, is free of all edges. -/
theorem Chain.diag_one (h : Chain q0 c qk o) {v z : Int × Int} (hv : v ∈ q0 :: c ++ [qk]) (hz : z ∈ q0 :: c ++ [qk]) (cl : ∀ e ∈ edges (q0 :: c ++ [qk]), Clean v z e.1 e.2)
    (rd : ∀ K : Int, 0 < K → ∀ x, onI (sc K v) (sc K z) x = true → x ≠ sc K v → x ≠ sc K z → wc x ((q0 :: c ++ [qk]).map (sc K)) ≠ 0)
    {a b : Int × Int} (ha : a ∈ o) (hab : a ≠ b) (hb : b ∈ o ∨ b ∈ q0 :: c ++ [qk]) (mix : ∀ f ∈ edges (q0 :: c ++ [qk]), Clean a b f.1 f.2)
    (hcv : v ≠ b → onI a b v = false) (hcz : z ≠ b → onI a b z = false) : Clean v z a b := by
  have one : ∀ p, sc 1 p = p := fun p => by unfold sc; simp
  have av := h.apart hv ha
  have az := h.apart hz ha
  have outp : ∀ y ∈ o, onI v z y = false := by
    intro y hy
    cases q : onI v z y with
    | false => rfl
    | true =>
      exfalso
      have := rd 1 (by decide) y (by rw [one, one]; exact q) (by rw [one]; exact Ne.symm (h.apart hv hy)) (by rw [one]; exact Ne.symm (h.apart hz hy))
      have e : (q0 :: c ++ [qk]).map (sc 1) = q0 :: c ++ [qk] := by
        have : sc 1 = id := funext one
        rw [this]; simp
      rw [e] at this
      exact this (h.none y hy)
  have onb : b ≠ v → b ≠ z → onI v z b = false := by
    intro k1 k2
    rcases hb with g | g
    · exact outp b g
    · obtain ⟨y, hy⟩ := begins g
      exact (cl _ hy).oc k1 k2
  refine ⟨fun _ _ => outp a ha, onb, fun _ k => hcv k, fun _ k => hcz k, ?_⟩
  rintro ⟨k1, k2⟩
  have no : ¬ Off v z a b := fun q => q.cr ⟨k1, k2⟩
  obtain ⟨K, hK, x, x1, x2⟩ := meet_point no
  have bv : b ≠ v := by intro q; rw [q, (tI_same v z).1, Int.mul_zero] at k1; omega
  have bz : b ≠ z := by intro q; rw [q, (tI_same v z).2.1, Int.mul_zero] at k1; omega
  have nb := onb bv bz
  have xb : x ≠ sc K b := by intro q; subst q; rw [onI_sc hK, nb] at x1; cases x1
  have xv : x ≠ sc K v := by intro q; subst q; rw [onI_sc hK, hcv (Ne.symm bv)] at x2; cases x2
  have xz : x ≠ sc K z := by intro q; subst q; rw [onI_sc hK, hcz (Ne.symm bz)] at x2; cases x2
  exact rd K hK x x1 xv xz (h.out_zero hK ha hab mix x2 (.inl xb))

theorem Chain.diag (h : Chain q0 c qk o) {v z : Int × Int} (hv : v ∈ q0 :: c ++ [qk]) (hz : z ∈ q0 :: c ++ [qk]) (cl : ∀ e ∈ edges (q0 :: c ++ [qk]), Clean v z e.1 e.2)
    (rd : ∀ K : Int, 0 < K → ∀ x, onI (sc K v) (sc K z) x = true → x ≠ sc K v → x ≠ sc K z → wc x ((q0 :: c ++ [qk]).map (sc K)) ≠ 0) : ∀ e ∈ edges (q0 :: c ++ qk :: o), Clean v z e.1 e.2 := by
  intro e he
  have heP := he
  have ho : o ≠ [] := by
    obtain ⟨s, hs, _⟩ := h.far
    intro q; rw [q] at hs; simp at hs
  rw [edges_two] at he
  rcases List.mem_append.1 he with g | g
  · exact cl e (by rw [edges_rest qk q0 c]; exact List.mem_append_left _ g)
  · have hen := h.simple.ne heP
    have corner : ∀ {y}, y ∈ q0 :: c ++ [qk] → y ≠ e.1 → y ≠ e.2 → onI e.1 e.2 y = false := fun hy k1 k2 => h.simple.corner heP (h.in_list hy) k1 k2
    rcases path_class ho g with ⟨a1, a2⟩ | ⟨a1, a2⟩ | ⟨a1, a2⟩
    · exact h.diag_one hv hz cl rd a1 hen (.inl a2) (fun f hf => h.mixed g (.inl a1) hf) (fun k => corner hv (h.apart hv a1) k) (fun k => corner hz (h.apart hz a1) k)
    · have hb : e.1 ∈ q0 :: c ++ [qk] := by rw [a1]; simp
      exact (h.diag_one hv hz cl rd a2 (Ne.symm hen) (.inr hb) (fun f hf => (h.mixed g (.inr a2) hf).rev1)
        (fun k => by rw [onI_comm]; exact corner hv k (h.apart hv a2)) (fun k => by rw [onI_comm]; exact corner hz k (h.apart hz a2))).rev2
    · have hb : e.2 ∈ q0 :: c ++ [qk] := by rw [a2]; simp
      exact h.diag_one hv hz cl rd a1 hen (.inr hb) (fun f hf => h.mixed g (.inl a1) hf) (fun k => corner hv (h.apart hv a1) k) (fun k => corner hz (h.apart hz a1) k)

end

theorem wt_rev (p u v w : Int × Int) : wt p w v u = - wt p u v w := by
  unfold wt
  have := cr_anti p v w
  have := cr_anti p u v
  have := cr_anti p w u
  omega

/-- A chain of three corners: the middle one. -/
theorem ear_three {q0 x qk : Int × Int} {o : List (Int × Int)} (h : Chain q0 [x] qk o) : EarIn (q0 :: [x] ++ [qk]) o := by
  have hQ := h.poly
  have hn := hQ.nodup
  simp only [List.cons_append, List.nil_append, List.nodup_cons, List.mem_cons, List.not_mem_nil, or_false, not_or] at hn
  obtain ⟨⟨n1, n2⟩, n3, _⟩ := hn
  have eQ : edges (q0 :: [x] ++ [qk]) = [(q0, x), (x, qk), (qk, q0)] := rfl
  have m1 : (q0, x) ∈ edges (q0 :: [x] ++ [qk]) := by rw [eQ]; simp
  have m2 : (x, qk) ∈ edges (q0 :: [x] ++ [qk]) := by rw [eQ]; simp
  have m3 : (qk, q0) ∈ edges (q0 :: [x] ++ [qk]) := by rw [eQ]; simp
  have hD : tI q0 x qk ≠ 0 := by
    intro h0
    rcases coll3 h0 with g | g | g
    · have q := hQ.corner m1 (x := qk) (by simp) (Ne.symm n2) (Ne.symm n3)
      simp only at q; rw [g] at q; cases q
    · have q := hQ.corner m2 (x := q0) (by simp) n1 n2
      simp only at q; rw [g] at q; cases q
    · have q := hQ.corner m3 (x := x) (by simp) n3 (Ne.symm n1)
      simp only at q; rw [g] at q; cases q
  refine ⟨[], q0, x, qk, [], by simp, hD, fun y hy hT => ?_⟩
  have hy : y ∈ o := by simpa using hy
  have o1 := h.out_on m1 hy
  have o2 := h.out_on m2 hy
  have o3 := h.out_on m3 hy
  simp only at o1 o2 o3
  have z0 := h.none y hy
  have z1 : wc y (q0 :: [x] ++ [qk]) = wt y q0 x qk := wc_tri y q0 x qk
  rw [z1] at z0
  have inside : ∀ {u v w : Int × Int}, 0 < tI u v w → InT u v w y → onI u v y = false → onI v w y = false → onI w u y = false → wt y u v w = 1 := by
    intro u v w hd hi k1 k2 k3
    have dv : tI v w u = tI u v w := (tI_cyc u v w).symm
    have dw : tI w u v = tI u v w := tI_cyc w u v
    refine wt_in hd ?_ ?_ ?_
    · rcases Int.lt_or_eq_of_le hi.1 with g | g
      · exact g
      · have := hi.on_uv hd g.symm; rw [k1] at this; cases this
    · rcases Int.lt_or_eq_of_le hi.2.1 with g | g
      · exact g
      · have := hi.cyc.on_uv (by omega) g.symm; rw [k2] at this; cases this
    · rcases Int.lt_or_eq_of_le hi.2.2 with g | g
      · exact g
      · have := hi.cyc.cyc.on_uv (by omega) g.symm; rw [k3] at this; cases this
  have dr : tI qk x q0 = - tI q0 x qk := by unfold tI; grind
  rcases Int.lt_or_gt_of_ne hD with k | k
  · have hi : InT qk x q0 y := hT.elim (fun h => absurd h (InT_neg k)) id
    have := inside (by omega) hi (by rw [onI_comm]; exact o2) (by rw [onI_comm]; exact o1) (by rw [onI_comm]; exact o3)
    have r := wt_rev y q0 x qk
    omega
  · have hi : InT q0 x qk y := hT.elim id (fun h => absurd h (InT_neg (by omega)))
    have := inside k hi o1 o2 o3
    omega
end

end Go.Proofs.Ytlicmfhgjonmnaa
