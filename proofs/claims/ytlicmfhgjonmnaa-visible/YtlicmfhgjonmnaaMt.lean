/- The program's edges against the document's: the plain reckoning. Own work. -/
import Derived.Test.YtlicmfhgjonmnaaRi
namespace Go.Proofs.Ytlicmfhgjonmnaa
set_option linter.unusedVariables false

def P (p : CP) : Int × Int := (p.x, p.y)

theorem pAt_xy (ps : List CP) (i : Nat) : pAt (xy ps) i = P (ptAt ps i) := by
  unfold pAt xy ptAt
  rw [List.getD_eq_getElem?_getD, List.getD_eq_getElem?_getD, List.getElem?_map]
  cases ps[i]? <;> rfl

theorem crs_eq (p a b : CP) : crsI p a b = tI (P p) (P a) (P b) := rfl

theorem bd_P (p : CP) : Bd (P p) := by
  have := p.hx
  have := p.hy
  exact ⟨by show _ ≤ p.x; omega, by show p.x ≤ _; omega, by show _ ≤ p.y; omega, by show p.y ≤ _; omega⟩

theorem two_neg {A B C : Int} (h : A * B = C * C) (hs : A + B ≤ 0) : A ≤ 0 ∧ B ≤ 0 := by
  have hc := sq_nonneg C
  rw [← h] at hc
  constructor
  · apply Int.not_lt.1
    intro hA
    have := Int.mul_neg_of_pos_of_neg hA (show B < 0 by omega)
    omega
  · apply Int.not_lt.1
    intro hB
    have := Int.mul_neg_of_neg_of_pos (show A < 0 by omega) hB
    omega

theorem two_pos {A B C : Int} (h : A * B = C * C) (hs : 0 ≤ A + B) : 0 ≤ A ∧ 0 ≤ B := by
  have := two_neg (A := -A) (B := -B) (C := C) (by rw [Int.neg_mul_neg]; exact h) (by omega)
  omega

theorem cross_sq {u1 u2 v1 v2 : Int} (h : u1 * v2 - u2 * v1 = 0) : (u1 * v1) * (u2 * v2) = (u1 * v2) * (u1 * v2) := by
  have e : u1 * v2 = u2 * v1 := by omega
  have e2 : (u1 * v1) * (u2 * v2) = (u1 * v2) * (u2 * v1) := by
    rw [Int.mul_assoc, Int.mul_assoc]
    congr 1
    rw [← Int.mul_assoc, Int.mul_comm v1 u2, Int.mul_comm (u2 * v1) v2]
  rw [e2, ← e]

theorem holds_eq (e : CE) (p : CP) : holdsB e p = onI (P e.a) (P e.b) (P p) := by
  rw [Bool.eq_iff_iff, onI_iff]
  simp only [holdsB, Bool.and_eq_true, beq_iff_eq, decide_eq_true_eq]
  rw [crs_eq, show tI (P p) (P e.a) (P e.b) = tI (P e.a) (P e.b) (P p) from tI_cyc _ _ _]
  have hd : dotI p e.a e.b = (e.a.x - p.x) * (e.b.x - p.x) + (e.a.y - p.y) * (e.b.y - p.y) := rfl
  constructor
  · rintro ⟨h1, h2⟩
    refine ⟨h1, ?_⟩
    have h3 : (e.a.x - p.x) * (e.b.y - p.y) - (e.a.y - p.y) * (e.b.x - p.x) = 0 := by
      have : tI (P p) (P e.a) (P e.b) = 0 := (tI_cyc _ _ _).trans h1
      exact this
    exact two_neg (cross_sq h3) h2
  · rintro ⟨h1, h2, h3⟩
    refine ⟨h1, ?_⟩
    have h2' : (e.a.x - p.x) * (e.b.x - p.x) ≤ 0 := h2
    have h3' : (e.a.y - p.y) * (e.b.y - p.y) ≤ 0 := h3
    omega

theorem parts_eq (e f : CE) : partsB e f = decide (sgn (tI (P e.a) (P e.b) (P f.a)) * sgn (tI (P e.a) (P e.b) (P f.b)) < 0) := by
  unfold partsB
  rw [crs_eq, crs_eq, tI_cyc (P f.a) (P e.a) (P e.b), tI_cyc (P f.b) (P e.a) (P e.b)]
  rw [decide_eq_decide]
  exact (sgn_mul_neg _ _).symm

theorem meet_eq (e f : CE) : meetB e f = meetI (P e.a) (P e.b) (P f.a) (P f.b) := by
  unfold meetB meetI crossI
  rw [holds_eq, holds_eq, holds_eq, holds_eq, parts_eq, parts_eq]

theorem natAbs_cmp {u1 u2 v1 v2 : Int} (h : u1 * v2 - u2 * v1 = 0) : (v1.natAbs ≤ u1.natAbs ∧ v2.natAbs ≤ u2.natAbs) ∨ (u1.natAbs ≤ v1.natAbs ∧ u2.natAbs ≤ v2.natAbs) := by
  have e : u1.natAbs * v2.natAbs = u2.natAbs * v1.natAbs := by
    rw [← Int.natAbs_mul, ← Int.natAbs_mul]; congr 1; omega
  generalize u1.natAbs = a at *
  generalize u2.natAbs = b at *
  generalize v1.natAbs = c at *
  generalize v2.natAbs = d at *
  by_cases h1 : c ≤ a
  · by_cases h2 : d ≤ b
    · exact .inl ⟨h1, h2⟩
    · by_cases h3 : a ≤ c
      · exact .inr ⟨h3, by omega⟩
      · exfalso
        have k1 : (c + 1) * d ≤ a * d := Nat.mul_le_mul_right _ (by omega)
        have k2 : b * c ≤ d * c := Nat.mul_le_mul_right _ (by omega)
        rw [Nat.add_mul, Nat.one_mul, Nat.mul_comm c d] at k1
        omega
  · by_cases h2 : b ≤ d
    · exact .inr ⟨by omega, h2⟩
    · exfalso
      have k1 : a * d ≤ c * d := Nat.mul_le_mul_right _ (by omega)
      have k2 : (d + 1) * c ≤ b * c := Nat.mul_le_mul_right _ (by omega)
      rw [Nat.add_mul, Nat.one_mul, Nat.mul_comm d c] at k2
      omega

theorem between_of {u v : Int} (h : 0 ≤ u * v) (ha : v.natAbs ≤ u.natAbs) : v * (v - u) ≤ 0 := by
  rcases Int.lt_trichotomy v 0 with h1 | h1 | h1
  · have : u ≤ v := by
      apply Int.not_lt.1; intro hc
      have hu : 0 < u := by omega
      have := Int.mul_neg_of_pos_of_neg hu h1
      omega
    exact Int.mul_nonpos_of_nonpos_of_nonneg (by omega) (by omega)
  · subst h1; simp
  · have : v ≤ u := by
      apply Int.not_lt.1; intro hc
      have hu : u < 0 := by omega
      have := Int.mul_neg_of_neg_of_pos hu h1
      omega
    exact Int.mul_nonpos_of_nonneg_of_nonpos (by omega) (by omega)

theorem pos_of_between {u v : Int} (h : v * (v - u) ≤ 0) : 0 ≤ u * v := by
  have h1 := sq_nonneg v
  rw [Int.mul_sub] at h
  rw [Int.mul_comm u v]
  omega

/-- Two edges that follow one another: the way back lies on the way come. -/
theorem folds_iff (p q r : Int × Int) : (tI q p r = 0 ∧ 0 ≤ (p.1 - q.1) * (r.1 - q.1) + (p.2 - q.2) * (r.2 - q.2)) ↔ (onI p q r = true ∨ onI q r p = true) := by
  rw [onI_iff, onI_iff]
  have hz : tI p q r = - tI q p r := tI_neg q p r
  have hz2 : tI q r p = tI p q r := (tI_cyc p q r).symm
  have hx : (p.1 - r.1) * (q.1 - r.1) = (r.1 - q.1) * ((r.1 - q.1) - (p.1 - q.1)) := by
    have e1 : (r.1 - q.1) - (p.1 - q.1) = -(p.1 - r.1) := by omega
    have e2 : r.1 - q.1 = -(q.1 - r.1) := by omega
    rw [e1, e2, Int.neg_mul_neg, Int.mul_comm]
  have hy : (p.2 - r.2) * (q.2 - r.2) = (r.2 - q.2) * ((r.2 - q.2) - (p.2 - q.2)) := by
    have e1 : (r.2 - q.2) - (p.2 - q.2) = -(p.2 - r.2) := by omega
    have e2 : r.2 - q.2 = -(q.2 - r.2) := by omega
    rw [e1, e2, Int.neg_mul_neg, Int.mul_comm]
  have hx2 : (q.1 - p.1) * (r.1 - p.1) = (p.1 - q.1) * ((p.1 - q.1) - (r.1 - q.1)) := by
    have e1 : (p.1 - q.1) - (r.1 - q.1) = -(r.1 - p.1) := by omega
    have e2 : q.1 - p.1 = -(p.1 - q.1) := by omega
    rw [e1, e2, Int.neg_mul, Int.mul_neg]
  have hy2 : (q.2 - p.2) * (r.2 - p.2) = (p.2 - q.2) * ((p.2 - q.2) - (r.2 - q.2)) := by
    have e1 : (p.2 - q.2) - (r.2 - q.2) = -(r.2 - p.2) := by omega
    have e2 : q.2 - p.2 = -(p.2 - q.2) := by omega
    rw [e1, e2, Int.neg_mul, Int.mul_neg]
  rw [hx, hy, hx2, hy2]
  have ht : tI q p r = (p.1 - q.1) * (r.2 - q.2) - (p.2 - q.2) * (r.1 - q.1) := rfl
  generalize p.1 - q.1 = u1 at *
  generalize p.2 - q.2 = u2 at *
  generalize r.1 - q.1 = v1 at *
  generalize r.2 - q.2 = v2 at *
  constructor
  · rintro ⟨h1, h2⟩
    have hc : u1 * v2 - u2 * v1 = 0 := by rw [← ht]; exact h1
    obtain ⟨a1, a2⟩ := two_pos (cross_sq hc) h2
    rcases natAbs_cmp hc with ⟨b1, b2⟩ | ⟨b1, b2⟩
    · exact .inl ⟨by omega, between_of a1 b1, between_of a2 b2⟩
    · rw [Int.mul_comm] at a1 a2
      exact .inr ⟨by omega, between_of a1 b1, between_of a2 b2⟩
  · rintro (⟨h1, h2, h3⟩ | ⟨h1, h2, h3⟩)
    · have := pos_of_between h2
      have := pos_of_between h3
      exact ⟨by omega, by omega⟩
    · have k1 := pos_of_between h2
      have k2 := pos_of_between h3
      rw [Int.mul_comm] at k1 k2
      exact ⟨by omega, by omega⟩

theorem folds_eq (e f : CE) (h : P e.b = P f.a) : foldsB e f = (onI (P e.a) (P e.b) (P f.b) || onI (P e.b) (P f.b) (P e.a)) := by
  rw [Bool.eq_iff_iff, Bool.or_eq_true, ← folds_iff]
  simp only [foldsB, Bool.and_eq_true, beq_iff_eq, decide_eq_true_eq]
  rw [crs_eq]
  exact Iff.rfl

end Go.Proofs.Ytlicmfhgjonmnaa
