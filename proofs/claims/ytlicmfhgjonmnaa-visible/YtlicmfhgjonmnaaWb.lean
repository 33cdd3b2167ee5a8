/- Walks of the program's geometry: points as complex numbers. Own work. -/
import Derived.Test.YtlicmfhgjonmnaaWa
import Derived.Deep.QuietTactic
import Derived.BigQuiet
namespace Go.Proofs.Ytlicmfhgjonmnaa
open Go.RowKit
set_option linter.unusedVariables false

/-- A corner as the program holds it, with the whole numbers that its words stand for. -/
structure CP where
  re : Nat
  im : Nat
  x : Int
  y : Int
  hr : Rep re x
  hi : Rep im y
  hx : -999 ≤ x ∧ x ≤ 999
  hy : -999 ≤ y ∧ y ≤ 999

/-- Seen from p: the product of the ways to a and to b, and how they turn. -/
def dotI (p a b : CP) : Int := (a.x - p.x) * (b.x - p.x) + (a.y - p.y) * (b.y - p.y)
def crsI (p a b : CP) : Int := (a.x - p.x) * (b.y - p.y) - (a.y - p.y) * (b.x - p.x)

def turnBits (p a b : CP) : Option (Nat × Nat) :=
  (cSumBits .sub .f64 a.re a.im p.re p.im).bind fun u => (cSumBits .sub .f64 b.re b.im p.re p.im).bind fun v => cMulBits u.1 (Op.negFloat .f64 u.2) v.1 v.2

def tRe (p a b : CP) : Nat := ((turnBits p a b).getD (0, 0)).1
def tIm (p a b : CP) : Nat := ((turnBits p a b).getD (0, 0)).2

theorem natAbs_mul_bd {a b : Int} (ha : a.natAbs ≤ 1998) (hb : b.natAbs ≤ 1998) : (a * b).natAbs ≤ 1998 * 1998 := by
  rw [Int.natAbs_mul]; exact Nat.mul_le_mul ha hb

theorem small53 {n : Nat} (h : n ≤ 9007199254740991) : n < 2 ^ 53 := by
  have : (2 : Nat) ^ 53 = 9007199254740992 := by decide
  omega

theorem sub_bits (a p : CP) : ∃ u, cSumBits .sub .f64 a.re a.im p.re p.im = some u ∧ Rep u.1 (a.x - p.x) ∧ Rep u.2 (a.y - p.y) := by
  have := a.hx; have := a.hy; have := p.hx; have := p.hy
  obtain ⟨r, h1, k1⟩ := a.hr.sub p.hr (small53 (by omega))
  obtain ⟨i, h2, k2⟩ := a.hi.sub p.hi (small53 (by omega))
  exact ⟨(r, i), by simp [cSumBits, h1, h2], k1, k2⟩

theorem turn_bits (p a b : CP) : ∃ u v r, cSumBits .sub .f64 a.re a.im p.re p.im = some u ∧ cSumBits .sub .f64 b.re b.im p.re p.im = some v ∧ cMulBits u.1 (Op.negFloat .f64 u.2) v.1 v.2 = some r ∧ Rep r.1 (dotI p a b) ∧ Rep r.2 (crsI p a b) := by
  obtain ⟨u, hu, u1, u2⟩ := sub_bits a p
  obtain ⟨v, hv, v1, v2⟩ := sub_bits b p
  have := a.hx; have := a.hy; have := p.hx; have := p.hy; have := b.hx; have := b.hy
  have n2 := u2.neg
  have b1 := natAbs_mul_bd (a := a.x - p.x) (b := b.x - p.x) (by omega) (by omega)
  have b2 := natAbs_mul_bd (a := -(a.y - p.y)) (b := b.y - p.y) (by omega) (by omega)
  have b3 := natAbs_mul_bd (a := a.x - p.x) (b := b.y - p.y) (by omega) (by omega)
  have b4 := natAbs_mul_bd (a := -(a.y - p.y)) (b := b.x - p.x) (by omega) (by omega)
  obtain ⟨ac, h1, k1⟩ := u1.mul v1 (small53 (by omega))
  obtain ⟨bd, h2, k2⟩ := n2.mul v2 (small53 (by omega))
  obtain ⟨re, h3, k3⟩ := k1.sub k2 (small53 (by omega))
  obtain ⟨ad, h4, k4⟩ := u1.mul v2 (small53 (by omega))
  obtain ⟨bc, h5, k5⟩ := n2.mul v1 (small53 (by omega))
  obtain ⟨im, h6, k6⟩ := k4.add k5 (small53 (by omega))
  refine ⟨u, v, (re, im), hu, hv, by simp [cMulBits, h1, h2, h3, h4, h5, h6], ?_, ?_⟩
  · have e : (a.x - p.x) * (b.x - p.x) - -(a.y - p.y) * (b.y - p.y) = dotI p a b := by unfold dotI; rw [Int.neg_mul]; omega
    rw [← e]; exact k3
  · have e : (a.x - p.x) * (b.y - p.y) + -(a.y - p.y) * (b.x - p.x) = crsI p a b := by unfold crsI; rw [Int.neg_mul]; omega
    rw [← e]; exact k6

theorem t_rep (p a b : CP) : Rep (tRe p a b) (dotI p a b) ∧ Rep (tIm p a b) (crsI p a b) := by
  obtain ⟨u, v, r, hu, hv, hr, h1, h2⟩ := turn_bits p a b
  have : turnBits p a b = some r := by simp [turnBits, hu, hv, hr]
  simp only [tRe, tIm, this, Option.getD_some]
  exact ⟨h1, h2⟩

theorem bd_crs (p a b : CP) : (crsI p a b).natAbs ≤ 2 * (1998 * 1998) := by
  have := a.hx; have := a.hy; have := p.hx; have := p.hy; have := b.hx; have := b.hy
  have b3 := natAbs_mul_bd (a := a.x - p.x) (b := b.y - p.y) (by omega) (by omega)
  have b4 := natAbs_mul_bd (a := a.y - p.y) (b := b.x - p.x) (by omega) (by omega)
  unfold crsI
  omega

set_option maxHeartbeats 400000 in
theorem conj_any (a b : Nat) (w : World) :
    Calls Try.prog 66 #[.complex .f64 a b] w fun e w' => e = .returned (.complex .f64 a (Op.negFloat .f64 b)) ∧ w' = w := by
  have hn : ∀ (k : FloatKind) (n : Nat), Op.unary .neg (.float k n) = pure (.float k (Op.negFloat k n)) := fun _ _ => rfl
  go_enter Try.func66, Try.ntmps66
  go_wp2
  go_ret
  exact ⟨rfl, rfl⟩

set_option maxHeartbeats 400000 in
theorem turn_any (p a b : CP) (w : World) :
    Calls Try.prog 46 #[.complex .f64 p.re p.im, .complex .f64 a.re a.im, .complex .f64 b.re b.im] w fun e w' => e = .returned (.complex .f64 (tRe p a b) (tIm p a b)) ∧ w' = w := by
  obtain ⟨u, v, r, hu, hv, hr, h1, h2⟩ := turn_bits p a b
  have ht : turnBits p a b = some r := by simp [turnBits, hu, hv, hr]
  have e1 : tRe p a b = r.1 := by simp only [tRe, ht, Option.getD_some]
  have e2 : tIm p a b = r.2 := by simp only [tIm, ht, Option.getD_some]
  rw [e1, e2]
  clear e1 e2 ht h1 h2
  obtain ⟨u1, u2⟩ := u
  obtain ⟨v1, v2⟩ := v
  obtain ⟨r1, r2⟩ := r
  have s1 : ∀ (w : World) t, (binOp .sub t (.complex .f64 a.re a.im) (.complex .f64 p.re p.im)).run Try.prog w = .ok (.complex .f64 u1 u2) w := fun w t => run_complex_sum w .sub (.inr rfl) t _ _ _ _ _ _ _ hu
  have s2 : ∀ (w : World) t, (binOp .sub t (.complex .f64 b.re b.im) (.complex .f64 p.re p.im)).run Try.prog w = .ok (.complex .f64 v1 v2) w := fun w t => run_complex_sum w .sub (.inr rfl) t _ _ _ _ _ _ _ hv
  have s3 : ∀ (w : World) t, (binOp .mul t (.complex .f64 u1 (Op.negFloat .f64 u2)) (.complex .f64 v1 v2)).run Try.prog w = .ok (.complex .f64 r1 r2) w := fun w t => run_complex_mul w t _ _ _ _ _ _ hr
  clear hu hv hr
  go_enter Try.func46, Try.ntmps46
  go_wp2_with (go_at_call 66; refine (conj_any _ _ _).mono ?_; rintro e w' ⟨rfl, rfl⟩)
  go_ret
  exact ⟨rfl, rfl⟩

end Go.Proofs.Ytlicmfhgjonmnaa
