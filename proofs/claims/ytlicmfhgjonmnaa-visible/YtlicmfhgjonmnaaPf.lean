/- Where the program finds a point and where the document has it: the same. Own work. -/
import Derived.Test.YtlicmfhgjonmnaaPe
namespace Go.Proofs.Ytlicmfhgjonmnaa
open Go.RowKit
set_option linter.unusedVariables false

theorem firstI_congr {A B : Nat → Bool} {n : Nat} (h : ∀ i, i < n → A i = B i) : firstI A n = firstI B n := by
  rcases firstI_cases A n with ⟨h1, h2⟩ | ⟨k, hk, h1, h2, h3⟩
  · rw [h1, firstI_none fun j hj => by rw [← h j hj]; exact h2 j hj]
  · rw [h1, firstI_some hk (by rw [← h k hk]; exact h2) fun j hj => by rw [← h j (by omega)]; exact h3 j hj]

theorem at_eq (ps : List CP) (p : CP) : cornerI ps p = atI (xy ps) (P p) := by
  unfold cornerI atI
  rw [xy_length]
  refine firstI_congr fun i _ => ?_
  rw [pAt_xy]
  show eqB (ptAt ps i) p = _
  unfold eqB
  rw [Bool.eq_iff_iff]
  simp [P]

theorem side_eq (ps : List CP) (p : CP) : onEdgeI ps p = sideI (xy ps) (P p) := by
  unfold onEdgeI sideI
  rw [xy_length]
  refine firstI_congr fun i _ => ?_
  rw [pAt_xy, pAt_xy, holds_eq]
  rfl

/-- Of three points on a line, two of which are not on one side of the level: it lies between. -/
theorem level_on {a b p : Int × Int} (ht : tI a b p = 0) (h : (a.2 ≤ p.2 ∧ p.2 < b.2) ∨ (b.2 ≤ p.2 ∧ p.2 < a.2)) : onI a b p = true := by
  rw [onI_iff]
  have hy : (a.2 - p.2) * (b.2 - p.2) ≤ 0 := by
    rcases h with ⟨h1, h2⟩ | ⟨h1, h2⟩
    · exact Int.mul_nonpos_of_nonpos_of_nonneg (show a.2 - p.2 ≤ 0 by omega) (show 0 ≤ b.2 - p.2 by omega)
    · exact Int.mul_nonpos_of_nonneg_of_nonpos (show 0 ≤ a.2 - p.2 by omega) (show b.2 - p.2 ≤ 0 by omega)
  refine ⟨ht, ?_, hy⟩
  have hc : (a.1 - p.1) * (b.2 - p.2) = (a.2 - p.2) * (b.1 - p.1) := by unfold tI at ht; grind
  rcases h with ⟨h1, h2⟩ | ⟨h1, h2⟩
  · have e : (a.1 - p.1) * (b.1 - p.1) * (b.2 - p.2) = (a.2 - p.2) * ((b.1 - p.1) * (b.1 - p.1)) := by grind
    have k : (a.2 - p.2) * ((b.1 - p.1) * (b.1 - p.1)) ≤ 0 := Int.mul_nonpos_of_nonpos_of_nonneg (show a.2 - p.2 ≤ 0 by omega) (sq_nonneg _)
    rw [← e] at k
    rcases Int.lt_or_le 0 ((a.1 - p.1) * (b.1 - p.1)) with hp | hp
    · have := Int.mul_pos hp (show 0 < b.2 - p.2 by omega); omega
    · exact hp
  · have e : (a.1 - p.1) * (b.1 - p.1) * (a.2 - p.2) = (b.2 - p.2) * ((a.1 - p.1) * (a.1 - p.1)) := by grind
    have k : (b.2 - p.2) * ((a.1 - p.1) * (a.1 - p.1)) ≤ 0 := Int.mul_nonpos_of_nonpos_of_nonneg (show b.2 - p.2 ≤ 0 by omega) (sq_nonneg _)
    rw [← e] at k
    rcases Int.lt_or_le 0 ((a.1 - p.1) * (b.1 - p.1)) with hp | hp
    · have := Int.mul_pos hp (show 0 < a.2 - p.2 by omega); omega
    · exact hp

theorem right_plain (a b y t : Int) (hn : (a ≤ y ∧ y < b ∨ b ≤ y ∧ y < a) → t ≠ 0) : ((decide (y < a) != decide (y < b)) && (decide (y < b) == decide (0 < t))) = ((decide (a ≤ y) && decide (y < b) && decide (0 < t)) || (decide (b ≤ y) && decide (y < a) && decide (t < 0))) := by
  by_cases h1 : a ≤ y <;> by_cases h2 : b ≤ y
  · have g1 : ¬ y < a := by omega
    have g2 : ¬ y < b := by omega
    simp [g1, g2]
  · have g1 : ¬ y < a := by omega
    have g2 : y < b := by omega
    simp [g1, g2, h1, h2]
  · have g1 : y < a := by omega
    have g2 : ¬ y < b := by omega
    have := hn (.inr ⟨h2, g1⟩)
    by_cases k : t < 0
    · have : ¬ 0 < t := by omega
      simp [k, this, g1, g2, h1, h2]
    · have : 0 < t := by omega
      simp [k, this, g1, g2, h1, h2]
  · have g1 : y < a := by omega
    have g2 : y < b := by omega
    simp [g1, g2, h1, h2]

theorem right_eq (e : CE) (p : CP) (h : onI (P e.a) (P e.b) (P p) = false) : rightB e p = flipI (P e.a) (P e.b) (P p) := by
  have hc : crsI p e.a e.b = tI (P e.a) (P e.b) (P p) := by rw [crs_eq]; exact tI_cyc _ _ _
  unfold rightB
  rw [hc]
  exact right_plain e.a.y e.b.y p.y _ fun k ht => by
    rw [level_on ht k] at h
    cases h

theorem parity (l : List (Int × Int)) (p : Int × Int) (F : Nat → Int) : ∀ n, (∀ i, i < n → F i = if flipI (pAt l i) (pAt l (nextI l.length i)) p then 1 else 0) → (sumI F n % 2 = 1 ↔ inI l p n = true)
  | 0, _ => by simp [sumI, inI]
  | n + 1, h => by
    have ih := parity l p F n fun i hi => h i (by omega)
    have h1 := h n (by omega)
    simp only [sumI, inI]
    rw [h1]
    cases hf : flipI (pAt l n) (pAt l (nextI l.length n)) p <;> cases hi : inI l p n
    · rw [hi] at ih; simp at ih ⊢; exact ih
    · rw [hi] at ih; simp at ih ⊢; exact ih
    · rw [hi] at ih; simp at ih ⊢; omega
    · rw [hi] at ih; simp at ih ⊢; omega

theorem spot_eq (ps : List CP) (p : CP) : spotI ps p = placeI (xy ps) (P p) := by
  unfold spotI placeI
  rw [at_eq, side_eq]
  by_cases h1 : atI (xy ps) (P p) = -1
  · rw [if_pos h1, if_pos h1]
    by_cases h2 : sideI (xy ps) (P p) = -1
    · rw [if_pos h2, if_pos h2]
      have hoff : ∀ j, j < ps.length → onI (P (ptAt ps j)) (P (ptAt ps (nextI ps.length j))) (P p) = false := by
        intro j hj
        rcases firstI_cases (fun i => onI (pAt (xy ps) i) (pAt (xy ps) (nextI (xy ps).length i)) (P p)) (xy ps).length with ⟨_, h⟩ | ⟨k, _, hk, _, _⟩
        · have := h j (by rw [xy_length]; exact hj)
          simp only [pAt_xy, xy_length] at this
          exact this
        · have e : sideI (xy ps) (P p) = k := hk
          omega
      have hp := parity (xy ps) (P p) (fun i => within1 (edgeOf ps i) p) ps.length fun i hi => by
        show within1 (edgeOf ps i) p = _
        unfold within1
        rw [right_eq (edgeOf ps i) p (hoff i hi), pAt_xy, pAt_xy, xy_length]
        rfl
      rw [xy_length]
      by_cases hc : crossedI ps p % 2 = 1
      · rw [if_pos hc, if_pos (hp.1 hc)]
      · rw [if_neg hc, if_neg fun hh => hc (hp.2 hh)]
    · rw [if_neg h2, if_neg h2]
  · rw [if_neg h1, if_neg h1]

end Go.Proofs.Ytlicmfhgjonmnaa
