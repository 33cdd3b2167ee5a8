/- Plain geometry of whole points: turns, lines that meet, edges that are apart. It imports nothing of the program. Own work. -/
namespace Go.Proofs.Ytlicmfhgjonmnaa
set_option linter.unusedVariables false

def sgn (a : Int) : Int := if 0 < a then 1 else if a < 0 then -1 else 0
def tI (a b c : Int × Int) : Int := (b.1 - a.1) * (c.2 - a.2) - (b.2 - a.2) * (c.1 - a.1)
def onX (a b p : Int) : Bool := decide (min a b ≤ p) && decide (p ≤ max a b)
def onI (a b p : Int × Int) : Bool := tI a b p == 0 && (onX a.1 b.1 p.1 && onX a.2 b.2 p.2)
def crossI (a b c d : Int × Int) : Bool := decide (sgn (tI a b c) * sgn (tI a b d) < 0) && decide (sgn (tI c d a) * sgn (tI c d b) < 0)
def meetI (a b c d : Int × Int) : Bool := onI a b c || onI a b d || onI c d a || onI c d b || crossI a b c d
def nextI (n i : Nat) : Nat := (i + 1) % n
def pAt (l : List (Int × Int)) (i : Nat) : Int × Int := l.getD i (0, 0)

theorem next_lt {n i : Nat} (h : i + 1 < n) : nextI n i = i + 1 := Nat.mod_eq_of_lt h
theorem next_last {n i : Nat} (h : i + 1 = n) : nextI n i = 0 := by unfold nextI; rw [h, Nat.mod_self]

theorem tI_cyc (a b c : Int × Int) : tI a b c = tI b c a := by unfold tI; grind
theorem tI_neg (a b c : Int × Int) : tI b a c = - tI a b c := by unfold tI; grind
theorem tI_neg' (a b c : Int × Int) : tI a c b = - tI a b c := by unfold tI; grind
theorem tI_diff (a b p q : Int × Int) : tI a b p - tI a b q = tI p q b - tI p q a := by unfold tI; grind

theorem sq_nonneg (a : Int) : 0 ≤ a * a := by
  rcases Int.le_total 0 a with h | h
  · exact Int.mul_nonneg h h
  · exact Int.mul_nonneg_of_nonpos_of_nonpos h h

/-- Between: by the product of the ways. -/
theorem onX_iff (a b p : Int) : onX a b p = true ↔ (a - p) * (b - p) ≤ 0 := by
  simp only [onX, Bool.and_eq_true, decide_eq_true_eq]
  constructor
  · rintro ⟨h1, h2⟩
    rcases Int.le_total a b with h | h
    · exact Int.mul_nonpos_of_nonpos_of_nonneg (show a - p ≤ 0 by omega) (show 0 ≤ b - p by omega)
    · exact Int.mul_nonpos_of_nonneg_of_nonpos (show 0 ≤ a - p by omega) (show b - p ≤ 0 by omega)
  · intro h
    rcases Int.lt_trichotomy (a - p) 0 with h1 | h1 | h1 <;> rcases Int.lt_trichotomy (b - p) 0 with h2 | h2 | h2
    · have := Int.mul_pos_of_neg_of_neg h1 h2; omega
    all_goals first | omega | skip
    have := Int.mul_pos h1 h2; omega

theorem onI_iff (a b p : Int × Int) : onI a b p = true ↔ tI a b p = 0 ∧ (a.1 - p.1) * (b.1 - p.1) ≤ 0 ∧ (a.2 - p.2) * (b.2 - p.2) ≤ 0 := by
  simp only [onI, Bool.and_eq_true, beq_iff_eq, onX_iff]

theorem on_self (a b : Int × Int) : onI a b b = true := by
  rw [onI_iff]
  exact ⟨by unfold tI; grind, by simp, by simp⟩
theorem on_self' (a b : Int × Int) : onI a b a = true := by
  rw [onI_iff]
  exact ⟨by unfold tI; grind, by simp, by simp⟩

theorem onI_comm (a b p : Int × Int) : onI a b p = onI b a p := by
  rw [Bool.eq_iff_iff, onI_iff, onI_iff, tI_neg a b p, Int.mul_comm (a.1 - p.1), Int.mul_comm (a.2 - p.2)]
  constructor <;> rintro ⟨h1, h2, h3⟩ <;> exact ⟨by omega, h2, h3⟩

theorem sgn_mul_neg (a b : Int) : sgn a * sgn b < 0 ↔ a * b < 0 := by
  rcases Int.lt_trichotomy a 0 with h1 | h1 | h1 <;> rcases Int.lt_trichotomy b 0 with h2 | h2 | h2
  · have e1 : sgn a = -1 := by unfold sgn; rw [if_neg (by omega), if_pos h1]
    have e2 : sgn b = -1 := by unfold sgn; rw [if_neg (by omega), if_pos h2]
    have := Int.mul_pos_of_neg_of_neg h1 h2
    rw [e1, e2]; omega
  · subst h2; simp [sgn]
  · have e1 : sgn a = -1 := by unfold sgn; rw [if_neg (by omega), if_pos h1]
    have e2 : sgn b = 1 := by unfold sgn; rw [if_pos h2]
    have := Int.mul_neg_of_neg_of_pos h1 h2
    rw [e1, e2]; omega
  · subst h1; simp [sgn]
  · subst h1; simp [sgn]
  · subst h1; simp [sgn]
  · have e1 : sgn a = 1 := by unfold sgn; rw [if_pos h1]
    have e2 : sgn b = -1 := by unfold sgn; rw [if_neg (by omega), if_pos h2]
    have := Int.mul_neg_of_pos_of_neg h1 h2
    rw [e1, e2]; omega
  · subst h2; simp [sgn]
  · have e1 : sgn a = 1 := by unfold sgn; rw [if_pos h1]
    have e2 : sgn b = 1 := by unfold sgn; rw [if_pos h2]
    have := Int.mul_pos h1 h2
    rw [e1, e2]; omega

/-- What it is that two lines do not meet. -/
structure Off (p q a b : Int × Int) : Prop where
  pa : onI p q a = false
  pb : onI p q b = false
  ap : onI a b p = false
  aq : onI a b q = false
  cr : ¬ (tI p q a * tI p q b < 0 ∧ tI a b p * tI a b q < 0)

theorem off_of_meet {p q a b : Int × Int} (h : meetI p q a b = false) : Off p q a b := by
  simp only [meetI, crossI, Bool.or_eq_false_iff, Bool.and_eq_false_iff, decide_eq_false_iff_not, sgn_mul_neg] at h
  obtain ⟨⟨⟨⟨h1, h2⟩, h3⟩, h4⟩, h5⟩ := h
  exact ⟨h1, h2, h3, h4, fun hc => h5.elim (fun g => g hc.1) (fun g => g hc.2)⟩

theorem Off.swap {p q a b : Int × Int} (h : Off p q a b) : Off a b p q := ⟨h.ap, h.aq, h.pa, h.pb, fun hc => h.cr ⟨hc.2, hc.1⟩⟩
theorem Off.rev1 {p q a b : Int × Int} (h : Off p q a b) : Off q p a b :=
  ⟨by rw [onI_comm]; exact h.pa, by rw [onI_comm]; exact h.pb, h.aq, h.ap, fun hc => h.cr ⟨by rw [tI_neg p q a, tI_neg p q b, Int.neg_mul_neg] at hc; exact hc.1, by rw [Int.mul_comm]; exact hc.2⟩⟩
theorem Off.rev2 {p q a b : Int × Int} (h : Off p q a b) : Off p q b a := h.swap.rev1.swap

theorem not_on {a b p : Int × Int} (h : onI a b p = false) (ht : tI a b p = 0) : 0 < (a.1 - p.1) * (b.1 - p.1) ∨ 0 < (a.2 - p.2) * (b.2 - p.2) := by
  by_cases h1 : (a.1 - p.1) * (b.1 - p.1) ≤ 0
  · by_cases h2 : (a.2 - p.2) * (b.2 - p.2) ≤ 0
    · have := (onI_iff a b p).2 ⟨ht, h1, h2⟩
      rw [h] at this
      cases this
    · exact .inr (by omega)
  · exact .inl (by omega)

end Go.Proofs.Ytlicmfhgjonmnaa
