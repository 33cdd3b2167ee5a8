/- Points half way between corners: turns, looks. Own work. -/
import Derived.Test.YtlicmfhgjonmnaaPc
import Derived.Test.YtlicmfhgjonmnaaFh
namespace Go.Proofs.Ytlicmfhgjonmnaa
open Go.RowKit
set_option linter.unusedVariables false

/-- A point whose words stand for halves of whole numbers. -/
structure HP where
  re : Nat
  im : Nat
  x : Int
  y : Int
  hr : RepK 1 re x
  hi : RepK 1 im y
  hx : -1998 ≤ x ∧ x ≤ 1998
  hy : -1998 ≤ y ∧ y ≤ 1998

theorem lt52 {n : Nat} (h : n ≤ 999) : n < 2 ^ 52 := by
  have : (2 : Nat) ^ 52 = 4503599627370496 := by decide
  omega
theorem CP.rx (a : CP) : RepK 1 a.re (2 * a.x) := a.hr.twice (lt52 (by have := a.hx; omega))
theorem CP.ry (a : CP) : RepK 1 a.im (2 * a.y) := a.hi.twice (lt52 (by have := a.hy; omega))

def dotH (p : HP) (a b : CP) : Int := (2 * a.x - p.x) * (2 * b.x - p.x) + (2 * a.y - p.y) * (2 * b.y - p.y)
def crsH (p : HP) (a b : CP) : Int := (2 * a.x - p.x) * (2 * b.y - p.y) - (2 * a.y - p.y) * (2 * b.x - p.x)

def turnBitsH (p : HP) (a b : CP) : Option (Nat × Nat) :=
  (cSumBits .sub .f64 a.re a.im p.re p.im).bind fun u => (cSumBits .sub .f64 b.re b.im p.re p.im).bind fun v => cMulBits u.1 (Op.negFloat .f64 u.2) v.1 v.2
def tReH (p : HP) (a b : CP) : Nat := ((turnBitsH p a b).getD (0, 0)).1
def tImH (p : HP) (a b : CP) : Nat := ((turnBitsH p a b).getD (0, 0)).2

theorem natAbs_mul_bdH {a b : Int} (ha : a.natAbs ≤ 3996) (hb : b.natAbs ≤ 3996) : (a * b).natAbs ≤ 3996 * 3996 := by
  rw [Int.natAbs_mul]; exact Nat.mul_le_mul ha hb

theorem sub_bitsH (a : CP) (p : HP) : ∃ u, cSumBits .sub .f64 a.re a.im p.re p.im = some u ∧ RepK 1 u.1 (2 * a.x - p.x) ∧ RepK 1 u.2 (2 * a.y - p.y) := by
  have := a.hx; have := a.hy; have := p.hx; have := p.hy
  obtain ⟨r, h1, k1⟩ := a.rx.sub p.hr (small53 (by omega)) (by omega)
  obtain ⟨i, h2, k2⟩ := a.ry.sub p.hi (small53 (by omega)) (by omega)
  exact ⟨(r, i), by simp [cSumBits, h1, h2], k1, k2⟩

theorem turn_bitsH (p : HP) (a b : CP) : ∃ u v r, cSumBits .sub .f64 a.re a.im p.re p.im = some u ∧ cSumBits .sub .f64 b.re b.im p.re p.im = some v ∧ cMulBits u.1 (Op.negFloat .f64 u.2) v.1 v.2 = some r ∧ RepK 2 r.1 (dotH p a b) ∧ RepK 2 r.2 (crsH p a b) := by
  obtain ⟨u, hu, u1, u2⟩ := sub_bitsH a p
  obtain ⟨v, hv, v1, v2⟩ := sub_bitsH b p
  have := a.hx; have := a.hy; have := p.hx; have := p.hy; have := b.hx; have := b.hy
  have n2 := u2.neg
  have b1 := natAbs_mul_bdH (a := 2 * a.x - p.x) (b := 2 * b.x - p.x) (by omega) (by omega)
  have b2 := natAbs_mul_bdH (a := -(2 * a.y - p.y)) (b := 2 * b.y - p.y) (by omega) (by omega)
  have b3 := natAbs_mul_bdH (a := 2 * a.x - p.x) (b := 2 * b.y - p.y) (by omega) (by omega)
  have b4 := natAbs_mul_bdH (a := -(2 * a.y - p.y)) (b := 2 * b.x - p.x) (by omega) (by omega)
  obtain ⟨ac, h1, k1⟩ := u1.mul v1 (small53 (by omega)) (by omega)
  obtain ⟨bd, h2, k2⟩ := n2.mul v2 (small53 (by omega)) (by omega)
  obtain ⟨re, h3, k3⟩ := k1.sub k2 (small53 (by omega)) (by omega)
  obtain ⟨ad, h4, k4⟩ := u1.mul v2 (small53 (by omega)) (by omega)
  obtain ⟨bc, h5, k5⟩ := n2.mul v1 (small53 (by omega)) (by omega)
  obtain ⟨im, h6, k6⟩ := k4.add k5 (small53 (by omega)) (by omega)
  refine ⟨u, v, (re, im), hu, hv, by simp [cMulBits, h1, h2, h3, h4, h5, h6], ?_, ?_⟩
  · have e : (2 * a.x - p.x) * (2 * b.x - p.x) - -(2 * a.y - p.y) * (2 * b.y - p.y) = dotH p a b := by unfold dotH; rw [Int.neg_mul]; omega
    rw [← e]; exact k3
  · have e : (2 * a.x - p.x) * (2 * b.y - p.y) + -(2 * a.y - p.y) * (2 * b.x - p.x) = crsH p a b := by unfold crsH; rw [Int.neg_mul]; omega
    rw [← e]; exact k6

theorem t_repH (p : HP) (a b : CP) : RepK 2 (tReH p a b) (dotH p a b) ∧ RepK 2 (tImH p a b) (crsH p a b) := by
  obtain ⟨u, v, r, hu, hv, hr, h1, h2⟩ := turn_bitsH p a b
  have : turnBitsH p a b = some r := by simp [turnBitsH, hu, hv, hr]
  simp only [tReH, tImH, this, Option.getD_some]
  exact ⟨h1, h2⟩

set_option maxHeartbeats 400000 in
theorem turnH_any (p : HP) (a b : CP) (w : World) :
    Calls Try.prog 46 #[.complex .f64 p.re p.im, .complex .f64 a.re a.im, .complex .f64 b.re b.im] w fun e w' => e = .returned (.complex .f64 (tReH p a b) (tImH p a b)) ∧ w' = w := by
  obtain ⟨u, v, r, hu, hv, hr, h1, h2⟩ := turn_bitsH p a b
  have ht : turnBitsH p a b = some r := by simp [turnBitsH, hu, hv, hr]
  have e1 : tReH p a b = r.1 := by simp only [tReH, ht, Option.getD_some]
  have e2 : tImH p a b = r.2 := by simp only [tImH, ht, Option.getD_some]
  rw [e1, e2]
  clear e1 e2 ht h1 h2
  obtain ⟨u1, u2⟩ := u
  obtain ⟨v1, v2⟩ := v
  obtain ⟨r1, r2⟩ := r
  have s1 : ∀ (w : World) t, (binOp .sub t (.complex .f64 a.re a.im) (.complex .f64 p.re p.im)).run Try.prog w = .ok (.complex .f64 u1 u2) w := fun w t => run_complex_sum w .sub (.inr rfl) t _ _ _ _ _ _ _ hu
  have s2 : ∀ (w : World) t, (binOp .sub t (.complex .f64 b.re b.im) (.complex .f64 p.re p.im)).run Try.prog w = .ok (.complex .f64 v1 v2) w := fun w t => run_complex_sum w .sub (.inr rfl) t _ _ _ _ _ _ _ hv
  have s3 : ∀ (w : World) t, (binOp .mul t (.complex .f64 u1 (Op.negFloat .f64 u2)) (.complex .f64 v1 v2)).run Try.prog w = .ok (.complex .f64 r1 r2) w := fun w t => run_complex_mul w t _ _ _ _ _ _ hr
  clear hu hv hr
  go_enter Try.func46, Try.ntmps46
  go_wp2_with (go_at_call 66; refine (conj_any _ _ _).mono ?_; rintro e w' ⟨rfl, rfl⟩)
  go_ret
  exact ⟨rfl, rfl⟩

def holdsH (e : CE) (p : HP) : Bool := crsH p e.a e.b == 0 && decide (dotH p e.a e.b ≤ 0)

set_option maxHeartbeats 400000 in
theorem holdsH_any (e : CE) (p : HP) (w : World) :
    Calls Try.prog 69 #[.agg #[.int .i64 e.n, .int .i64 e.m, .complex .f64 e.a.re e.a.im, .complex .f64 e.b.re e.b.im], .complex .f64 p.re p.im] w
      fun r w' => r = .returned (.bool (holdsH e p)) ∧ Below w.heap.size w w' := by
  have o1 : (FloatKind.f64.format.order (tImH p e.a e.b) 0 == some .eq) = (crsH p e.a e.b == 0) := by rw [(t_repH p e.a e.b).2.order (RepK.zero 2 (by omega)), ord_eq]
  have o2 : (FloatKind.f64.format.order (tReH p e.a e.b) 0 == some .lt || FloatKind.f64.format.order (tReH p e.a e.b) 0 == some .eq) = decide (dotH p e.a e.b ≤ 0) := by rw [(t_repH p e.a e.b).1.order (RepK.zero 2 (by omega)), ord_le]
  cases hc : (crsH p e.a e.b == 0)
  · rw [show holdsH e p = false by simp only [holdsH, hc, Bool.false_and]]
    rw [hc] at o1
    go_enter Try.func69, Try.ntmps69
    go_wp2_with (go_at_call 46; refine (turnH_any _ _ _ _).mono ?_; rintro e w' ⟨rfl, rfl⟩)
    go_ret
    exact ⟨rfl, (Below.refl _ _).alloc (Nat.le_refl _) _⟩
  · rw [show holdsH e p = decide (dotH p e.a e.b ≤ 0) by simp only [holdsH, hc, Bool.true_and]]
    rw [hc] at o1
    rw [← o2]
    clear o2
    go_enter Try.func69, Try.ntmps69
    go_wp2_with (go_at_call 46; refine (turnH_any _ _ _ _).mono ?_; rintro e w' ⟨rfl, rfl⟩)
    go_ret
    exact ⟨rfl, (Below.refl _ _).alloc (Nat.le_refl _) _⟩

def eqH (a : CP) (p : HP) : Bool := 2 * a.x == p.x && 2 * a.y == p.y

set_option maxHeartbeats 400000 in
theorem corner1H_any (e : CE) (p : HP) (b : Nat) (w : World) (hlt : b < w.heap.size) (hc : w.cell? ⟨b, 0, none⟩ = some (.complex .f64 p.re p.im)) :
    Calls Try.prog 67 #[.agg #[.int .i64 e.n, .int .i64 e.m, .complex .f64 e.a.re e.a.im, .complex .f64 e.b.re e.b.im], .pointer (some ⟨b, 0, none⟩)] w fun r w' =>
      r = .returned (.bool (eqH e.a p)) ∧ Below w.heap.size w w' := by
  have hne : b ≠ w.heap.size := by omega
  have o1 : (FloatKind.f64.format.order e.a.re p.re == some .eq) = (2 * e.a.x == p.x) := by rw [e.a.rx.order p.hr, ord2_eq]
  have o2 : (FloatKind.f64.format.order e.a.im p.im == some .eq) = (2 * e.a.y == p.y) := by rw [e.a.ry.order p.hi, ord2_eq]
  have ho : eqH e.a p = ((FloatKind.f64.format.order e.a.re p.re == some .eq) && (FloatKind.f64.format.order e.a.im p.im == some .eq)) := by rw [o1, o2]; rfl
  rw [ho]
  clear o1 o2 ho
  go_enter Try.func67, Try.ntmps67
  go_wp2_with fail
  go_ret
  exact ⟨rfl, (Below.refl _ _).alloc (Nat.le_refl _) _⟩

set_option maxHeartbeats 400000 in
theorem edge1H_any (e : CE) (p : HP) (b : Nat) (w : World) (hlt : b < w.heap.size) (hc : w.cell? ⟨b, 0, none⟩ = some (.complex .f64 p.re p.im)) :
    Calls Try.prog 68 #[.agg #[.int .i64 e.n, .int .i64 e.m, .complex .f64 e.a.re e.a.im, .complex .f64 e.b.re e.b.im], .pointer (some ⟨b, 0, none⟩)] w fun r w' =>
      r = .returned (.bool (holdsH e p)) ∧ Below w.heap.size w w' := by
  have hne : b ≠ w.heap.size := by omega
  go_enter Try.func68, Try.ntmps68
  go_wp2_with fail
  refine (holdsH_any e p _).mono ?_
  rintro r w1 ⟨rfl, hb1⟩
  have Hb1 := hide hb1
  clear hb1
  go_wp2_with fail
  go_ret
  exact ⟨rfl, below_one Hb1.out⟩

def rightH (e : CE) (p : HP) : Bool := (decide (p.y < 2 * e.a.y) != decide (p.y < 2 * e.b.y)) && (decide (p.y < 2 * e.b.y) == decide (0 < crsH p e.a e.b))

set_option maxHeartbeats 1000000 in
theorem rightH_any (e : CE) (p : HP) (w : World) :
    Calls Try.prog 71 #[.agg #[.int .i64 e.n, .int .i64 e.m, .complex .f64 e.a.re e.a.im, .complex .f64 e.b.re e.b.im], .complex .f64 p.re p.im] w fun r w' =>
      r = .returned (.bool (rightH e p)) ∧ Below w.heap.size w w' := by
  have o1 : (FloatKind.f64.format.order e.a.im p.im == some .gt) = decide (p.y < 2 * e.a.y) := by rw [e.a.ry.order p.hi, ord2_gt]
  have o2 : (FloatKind.f64.format.order e.b.im p.im == some .gt) = decide (p.y < 2 * e.b.y) := by rw [e.b.ry.order p.hi, ord2_gt]
  have o3 : (FloatKind.f64.format.order (tImH p e.a e.b) 0 == some .gt) = decide (0 < crsH p e.a e.b) := by rw [(t_repH p e.a e.b).2.order (RepK.zero 2 (by omega)), ord2_gt]
  unfold rightH
  generalize decide (p.y < 2 * e.a.y) = A at *
  generalize decide (p.y < 2 * e.b.y) = B at *
  generalize decide (0 < crsH p e.a e.b) = C at *
  have Ht := hide (turnH_any p e.a e.b)
  cases A <;> cases B <;> cases C
  all_goals
    go_enter Try.func71, Try.ntmps71
    go_wp2_with fail
    go_quiet (fail)
    go_wp2_with fail
    refine (Ht.out _).mono ?_
    rintro r w1 ⟨rfl, rfl⟩
    go_wp2_with fail
    go_ret
    exact ⟨rfl, below_drewN ((Below.refl _ _).alloc (Nat.le_refl _) _) _⟩

def within1H (e : CE) (p : HP) : Int := if rightH e p then 1 else 0

set_option maxHeartbeats 1000000 in
theorem within1H_any (e : CE) (p : HP) (b : Nat) (w : World) (hlt : b < w.heap.size) (hc : w.cell? ⟨b, 0, none⟩ = some (.complex .f64 p.re p.im)) :
    Calls Try.prog 70 #[.agg #[.int .i64 e.n, .int .i64 e.m, .complex .f64 e.a.re e.a.im, .complex .f64 e.b.re e.b.im], .pointer (some ⟨b, 0, none⟩)] w fun r w' =>
      r = .returned (.int .i64 (within1H e p)) ∧ Below w.heap.size w w' := by
  have hne : b ≠ w.heap.size := by omega
  cases hR : rightH e p
  · rw [show within1H e p = 0 by simp [within1H, hR]]
    go_enter Try.func70, Try.ntmps70
    go_wp2_with fail
    refine (rightH_any e p _).mono ?_
    rintro r w1 ⟨rfl, hb1⟩
    rw [hR]
    have Hb1 := hide hb1
    clear hb1
    go_wp2_with fail
    go_ret
    exact ⟨rfl, below_one Hb1.out⟩
  · rw [show within1H e p = 1 by simp [within1H, hR]]
    go_enter Try.func70, Try.ntmps70
    go_wp2_with fail
    refine (rightH_any e p _).mono ?_
    rintro r w1 ⟨rfl, hb1⟩
    rw [hR]
    have Hb1 := hide hb1
    clear hb1
    go_wp2_with fail
    go_ret
    exact ⟨rfl, below_one Hb1.out⟩

def cornerH (ps : List CP) (p : HP) : Int := firstI (fun i => eqH (edgeOf ps i).a p) ps.length
def onEdgeH (ps : List CP) (p : HP) : Int := firstI (fun i => holdsH (edgeOf ps i) p) ps.length
def crossedH (ps : List CP) (p : HP) : Int := sumI (fun i => within1H (edgeOf ps i) p) ps.length

set_option maxHeartbeats 1000000 in
theorem cornersH_any (ps : List CP) (p : HP) (b cap : Nat) (w : World) (hn : ps.length ≤ 16) (hlt : b < w.heap.size) (hrow : RowC w b ps) :
    Calls Try.prog 48 #[.agg #[.slice (some ⟨b, 0, none⟩) ps.length cap], .complex .f64 p.re p.im] w fun r w' =>
      r = .returned (.tuple #[.agg #[.int .i64 3, .int .i64 (cornerH ps p)], .bool (cornerH ps p != -1)]) ∧ Below w.heap.size w w' := by
  have hb0 := below3 w (.cells #[.slice (some ⟨b, 0, none⟩) ps.length cap] 60) (.cells #[.complex .f64 p.re p.im] 70) (.cells #[.int .i64 0, .int .i64 0] 68)
  have HF := hide (firstEdge_any 67 (.pointer (some ⟨w.heap.size + 1, 0, none⟩)) (fun i => eqH (edgeOf ps i).a p) ps b cap _ hn (Nat.lt_of_lt_of_le hlt hb0.size) (hrow.below hb0 hlt) ent_corner
    (fun i hi w1 hb => corner1H_any (edgeOf ps i) p (w.heap.size + 1) w1 (point_cell hb).1 (point_cell hb).2))
  have Hb0 := hide hb0
  clear hb0 hrow
  generalize hG : cornerH ps p = F at *
  have HG := hide hG
  clear hG
  go_enter Try.func48, Try.ntmps48
  go_wp2_with fail
  refine HF.out.mono ?_
  rintro r w1 ⟨rfl, hb1⟩
  rw [show firstI (fun i => eqH (edgeOf ps i).a p) ps.length = F from HG.out]
  obtain ⟨hsz, hc2, hc3, hf2, hf3⟩ := spot_cells hb1
  have Hb1 := hide (below_next Hb0.out hb1)
  clear hb1
  go_wp2_with fail
  refine bodyPost_ret (v := .tuple #[.agg #[.int .i64 3, .int .i64 F], .bool (F != -1)]) (by simp [results, Try.results48, go_sem, hc2, hc3]) rfl ⟨rfl, ?_⟩
  exact (Hb1.out.setCell (by simp; omega) _).setCell (by simp; omega) _

set_option maxHeartbeats 1000000 in
theorem edgesH_any (ps : List CP) (p : HP) (b cap : Nat) (w : World) (hn : ps.length ≤ 16) (hlt : b < w.heap.size) (hrow : RowC w b ps) :
    Calls Try.prog 49 #[.agg #[.slice (some ⟨b, 0, none⟩) ps.length cap], .complex .f64 p.re p.im] w fun r w' =>
      r = .returned (.tuple #[.agg #[.int .i64 2, .int .i64 (onEdgeH ps p)], .bool (onEdgeH ps p != -1)]) ∧ Below w.heap.size w w' := by
  have hb0 := below3 w (.cells #[.slice (some ⟨b, 0, none⟩) ps.length cap] 60) (.cells #[.complex .f64 p.re p.im] 70) (.cells #[.int .i64 0, .int .i64 0] 68)
  have HF := hide (firstEdge_any 68 (.pointer (some ⟨w.heap.size + 1, 0, none⟩)) (fun i => holdsH (edgeOf ps i) p) ps b cap _ hn (Nat.lt_of_lt_of_le hlt hb0.size) (hrow.below hb0 hlt) ent_edge1
    (fun i hi w1 hb => edge1H_any (edgeOf ps i) p (w.heap.size + 1) w1 (point_cell hb).1 (point_cell hb).2))
  have Hb0 := hide hb0
  clear hb0 hrow
  generalize hG : onEdgeH ps p = F at *
  have HG := hide hG
  clear hG
  go_enter Try.func49, Try.ntmps49
  go_wp2_with fail
  refine HF.out.mono ?_
  rintro r w1 ⟨rfl, hb1⟩
  rw [show firstI (fun i => holdsH (edgeOf ps i) p) ps.length = F from HG.out]
  obtain ⟨hsz, hc2, hc3, hf2, hf3⟩ := spot_cells hb1
  have Hb1 := hide (below_next Hb0.out hb1)
  clear hb1
  go_wp2_with fail
  refine bodyPost_ret (v := .tuple #[.agg #[.int .i64 2, .int .i64 F], .bool (F != -1)]) (by simp [results, Try.results49, go_sem, hc2, hc3]) rfl ⟨rfl, ?_⟩
  exact (Hb1.out.setCell (by simp; omega) _).setCell (by simp; omega) _

theorem within1H_bd (e : CE) (p : HP) : 0 ≤ within1H e p ∧ within1H e p ≤ 1 := by unfold within1H; split <;> omega

set_option maxHeartbeats 1000000 in
theorem withinH_any (ps : List CP) (p : HP) (b cap : Nat) (w : World) (hn : ps.length ≤ 16) (hlt : b < w.heap.size) (hrow : RowC w b ps) :
    Calls Try.prog 50 #[.agg #[.slice (some ⟨b, 0, none⟩) ps.length cap], .complex .f64 p.re p.im] w fun r w' =>
      r = .returned (.tuple #[.agg #[.int .i64 1, .int .i64 0], .bool (crossedH ps p % 2 == 1)]) ∧ Below w.heap.size w w' := by
  have hb0 := below3 w (.cells #[.slice (some ⟨b, 0, none⟩) ps.length cap] 60) (.cells #[.complex .f64 p.re p.im] 70) (.cells #[.int .i64 0, .int .i64 0] 68)
  have HF := hide (sumEdges_gen 70 (.pointer (some ⟨w.heap.size + 1, 0, none⟩)) (fun i => within1H (edgeOf ps i) p) (fun i => by have := within1H_bd (edgeOf ps i) p; omega) ps b cap _ hn (Nat.lt_of_lt_of_le hlt hb0.size) (hrow.below hb0 hlt) ent_within
    (fun i hi w1 hb => within1H_any (edgeOf ps i) p (w.heap.size + 1) w1 (point_cell hb).1 (point_cell hb).2))
  have hbd : 0 ≤ crossedH ps p ∧ crossedH ps p ≤ (ps.length : Int) := sumI_01 _ (fun i => within1H_bd (edgeOf ps i) p) ps.length
  have Hb0 := hide hb0
  clear hb0 hrow
  generalize hG : crossedH ps p = F at *
  have HG := hide hG
  clear hG
  go_enter Try.func50, Try.ntmps50
  go_wp2_with fail
  refine HF.out.mono ?_
  rintro r w1 ⟨rfl, hb1⟩
  rw [show sumI (fun i => within1H (edgeOf ps i) p) ps.length = F from HG.out]
  obtain ⟨hsz, hc2, hc3, hf2, hf3⟩ := spot_cells hb1
  have Hb1 := hide (below_next Hb0.out hb1)
  obtain ⟨h0, h1⟩ := hbd
  have h2 : F ≤ 16 := by omega
  have ht : F.tmod 2 = F % 2 := Int.tmod_eq_emod_of_nonneg h0
  clear hb1 h1
  go_wp2_with fail
  refine bodyPost_ret (v := .tuple #[.agg #[.int .i64 1, .int .i64 0], .bool (F % 2 == 1)]) (by simp [results, Try.results50, go_sem, hc2, hc3]) rfl ⟨rfl, ?_⟩
  exact (Hb1.out.setCell (by simp; omega) _).setCell (by simp; omega) _

end Go.Proofs.Ytlicmfhgjonmnaa
