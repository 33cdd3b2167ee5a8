/- The program's places: where a point lies. Own work. -/
import Derived.Test.YtlicmfhgjonmnaaAr
namespace Go.Proofs.Ytlicmfhgjonmnaa
open Go.RowKit
set_option linter.unusedVariables false

def farB (x y : Int) : Bool := decide (x < -999) || decide (999 < x) || decide (y < -999) || decide (999 < y)

theorem farB_false {x y : Int} (h : farB x y = false) : (-999 ≤ x ∧ x ≤ 999) ∧ (-999 ≤ y ∧ y ≤ 999) := by
  simp only [farB, Bool.or_eq_false_iff, decide_eq_false_iff_not] at h
  omega

set_option maxHeartbeats 400000 in
theorem tooFar_any (x y : Int) (w : World) :
    Calls Try.prog 47 #[.agg #[.int .i64 x, .int .i64 y]] w fun r w' => r = .returned (.bool (farB x y)) ∧ Below w.heap.size w w' := by
  by_cases h1 : x < -999
  · rw [show farB x y = true by simp [farB, h1]]
    go_enter Try.func47, Try.ntmps47
    go_wp2
    go_ret
    exact ⟨rfl, (Below.refl _ _).alloc (Nat.le_refl _) _⟩
  · by_cases h2 : 999 < x
    · rw [show farB x y = true by simp [farB, h2]]
      go_enter Try.func47, Try.ntmps47
      go_wp2
      go_ret
      exact ⟨rfl, (Below.refl _ _).alloc (Nat.le_refl _) _⟩
    · by_cases h3 : y < -999
      · rw [show farB x y = true by simp [farB, h3]]
        go_enter Try.func47, Try.ntmps47
        go_wp2
        go_ret
        exact ⟨rfl, (Below.refl _ _).alloc (Nat.le_refl _) _⟩
      · by_cases h4 : 999 < y
        · rw [show farB x y = true by simp [farB, h4]]
          go_enter Try.func47, Try.ntmps47
          go_wp2
          go_ret
          exact ⟨by simp; done, (Below.refl _ _).alloc (Nat.le_refl _) _⟩
        · rw [show farB x y = false by simp [farB, h1, h2, h3, h4]]
          go_enter Try.func47, Try.ntmps47
          go_wp2
          go_ret
          exact ⟨by simp; done, (Below.refl _ _).alloc (Nat.le_refl _) _⟩

/-- The point as the program's complex number. -/
def mkCP (x y : Int) (hx : -999 ≤ x ∧ x ≤ 999) (hy : -999 ≤ y ∧ y ≤ 999) : CP :=
  ⟨floatOfInt .f64 x, floatOfInt .f64 y, x, y, Rep.ofInt (small53 (by omega)), Rep.ofInt (small53 (by omega)), hx, hy⟩

set_option maxHeartbeats 400000 in
theorem asComplex_any (x y : Int) (w : World) :
    Calls Try.prog 33 #[.agg #[.int .i64 x, .int .i64 y]] w fun r w' => r = .returned (.complex .f64 (floatOfInt .f64 x) (floatOfInt .f64 y)) ∧ Below w.heap.size w w' := by
  go_enter Try.func33, Try.ntmps33
  go_wp2
  go_ret
  exact ⟨rfl, (Below.refl _ _).alloc (Nat.le_refl _) _⟩

theorem ord2_eq {a b : Int} : ((some (compare a b) : Option Ordering) == some .eq) = (a == b) := by
  rcases Int.lt_trichotomy a b with h | h | h
  · rw [Int.compare_eq_lt.2 h]; simp; omega
  · subst h; simp
  · rw [Int.compare_eq_gt.2 h]; simp; omega
theorem ord2_gt {a b : Int} : ((some (compare a b) : Option Ordering) == some .gt) = decide (b < a) := by
  rcases Int.lt_trichotomy a b with h | h | h
  · rw [Int.compare_eq_lt.2 h]; simp; omega
  · subst h; simp
  · rw [Int.compare_eq_gt.2 h]; simp; omega

def eqB (a p : CP) : Bool := a.x == p.x && a.y == p.y

set_option maxHeartbeats 400000 in
theorem corner1_any (e : CE) (p : CP) (b : Nat) (w : World) (hlt : b < w.heap.size) (hc : w.cell? ⟨b, 0, none⟩ = some (.complex .f64 p.re p.im)) :
    Calls Try.prog 67 #[.agg #[.int .i64 e.n, .int .i64 e.m, .complex .f64 e.a.re e.a.im, .complex .f64 e.b.re e.b.im], .pointer (some ⟨b, 0, none⟩)] w fun r w' =>
      r = .returned (.bool (eqB e.a p)) ∧ Below w.heap.size w w' := by
  have hne : b ≠ w.heap.size := by omega
  have o1 : (FloatKind.f64.format.order e.a.re p.re == some .eq) = (e.a.x == p.x) := by rw [e.a.hr.order p.hr, ord2_eq]
  have o2 : (FloatKind.f64.format.order e.a.im p.im == some .eq) = (e.a.y == p.y) := by rw [e.a.hi.order p.hi, ord2_eq]
  have ho : eqB e.a p = ((FloatKind.f64.format.order e.a.re p.re == some .eq) && (FloatKind.f64.format.order e.a.im p.im == some .eq)) := by rw [o1, o2]; rfl
  rw [ho]
  clear o1 o2 ho
  go_enter Try.func67, Try.ntmps67
  go_wp2_with fail
  go_ret
  exact ⟨rfl, (Below.refl _ _).alloc (Nat.le_refl _) _⟩

set_option maxHeartbeats 400000 in
theorem edge1_any (e : CE) (p : CP) (b : Nat) (w : World) (hlt : b < w.heap.size) (hc : w.cell? ⟨b, 0, none⟩ = some (.complex .f64 p.re p.im)) :
    Calls Try.prog 68 #[.agg #[.int .i64 e.n, .int .i64 e.m, .complex .f64 e.a.re e.a.im, .complex .f64 e.b.re e.b.im], .pointer (some ⟨b, 0, none⟩)] w fun r w' =>
      r = .returned (.bool (holdsB e p)) ∧ Below w.heap.size w w' := by
  have hne : b ≠ w.heap.size := by omega
  go_enter Try.func68, Try.ntmps68
  go_wp2_with fail
  refine (holds_any e p _).mono ?_
  rintro r w1 ⟨rfl, hb1⟩
  have Hb1 := hide hb1
  clear hb1
  go_wp2_with fail
  go_ret
  exact ⟨rfl, below_one Hb1.out⟩

def rightB (e : CE) (p : CP) : Bool := (decide (p.y < e.a.y) != decide (p.y < e.b.y)) && (decide (p.y < e.b.y) == decide (0 < crsI p e.a e.b))

set_option maxHeartbeats 1000000 in
theorem right_any (e : CE) (p : CP) (w : World) :
    Calls Try.prog 71 #[.agg #[.int .i64 e.n, .int .i64 e.m, .complex .f64 e.a.re e.a.im, .complex .f64 e.b.re e.b.im], .complex .f64 p.re p.im] w fun r w' =>
      r = .returned (.bool (rightB e p)) ∧ Below w.heap.size w w' := by
  have o1 : (FloatKind.f64.format.order e.a.im p.im == some .gt) = decide (p.y < e.a.y) := by rw [e.a.hi.order p.hi, ord2_gt]
  have o2 : (FloatKind.f64.format.order e.b.im p.im == some .gt) = decide (p.y < e.b.y) := by rw [e.b.hi.order p.hi, ord2_gt]
  have o3 : (FloatKind.f64.format.order (tIm p e.a e.b) 0 == some .gt) = decide (0 < crsI p e.a e.b) := by rw [(t_rep p e.a e.b).2.order Rep.zero, ord2_gt]
  unfold rightB
  generalize decide (p.y < e.a.y) = A at *
  generalize decide (p.y < e.b.y) = B at *
  generalize decide (0 < crsI p e.a e.b) = C at *
  have Ht := hide (turn_any p e.a e.b)
  cases A <;> cases B <;> cases C
  all_goals
    go_enter Try.func71, Try.ntmps71
    go_wp2_with fail
    go_quiet (fail)
    go_wp2_with fail
    refine (Ht.out _).mono ?_
    rintro r w1 ⟨rfl, rfl⟩
    go_wp2_with fail
    go_ret
    exact ⟨rfl, below_drewN ((Below.refl _ _).alloc (Nat.le_refl _) _) _⟩

def within1 (e : CE) (p : CP) : Int := if rightB e p then 1 else 0

set_option maxHeartbeats 1000000 in
theorem within1_any (e : CE) (p : CP) (b : Nat) (w : World) (hlt : b < w.heap.size) (hc : w.cell? ⟨b, 0, none⟩ = some (.complex .f64 p.re p.im)) :
    Calls Try.prog 70 #[.agg #[.int .i64 e.n, .int .i64 e.m, .complex .f64 e.a.re e.a.im, .complex .f64 e.b.re e.b.im], .pointer (some ⟨b, 0, none⟩)] w fun r w' =>
      r = .returned (.int .i64 (within1 e p)) ∧ Below w.heap.size w w' := by
  have hne : b ≠ w.heap.size := by omega
  cases hR : rightB e p
  · rw [show within1 e p = 0 by simp [within1, hR]]
    go_enter Try.func70, Try.ntmps70
    go_wp2_with fail
    refine (right_any e p _).mono ?_
    rintro r w1 ⟨rfl, hb1⟩
    rw [hR]
    have Hb1 := hide hb1
    clear hb1
    go_wp2_with fail
    go_ret
    exact ⟨rfl, below_one Hb1.out⟩
  · rw [show within1 e p = 1 by simp [within1, hR]]
    go_enter Try.func70, Try.ntmps70
    go_wp2_with fail
    refine (right_any e p _).mono ?_
    rintro r w1 ⟨rfl, hb1⟩
    rw [hR]
    have Hb1 := hide hb1
    clear hb1
    go_wp2_with fail
    go_ret
    exact ⟨rfl, below_one Hb1.out⟩

end Go.Proofs.Ytlicmfhgjonmnaa
