/- Walks of the program's edges. Own work. -/
import Derived.Test.YtlicmfhgjonmnaaWb
namespace Go.Proofs.Ytlicmfhgjonmnaa
open Go.RowKit
set_option linter.unusedVariables false

/-- An edge as the program holds it. -/
structure CE where
  n : Int
  m : Int
  a : CP
  b : CP

def holdsB (e : CE) (p : CP) : Bool := crsI p e.a e.b == 0 && decide (dotI p e.a e.b ≤ 0)
def foldsB (e f : CE) : Bool := crsI e.b e.a f.b == 0 && decide (0 ≤ dotI e.b e.a f.b)
def partsB (e f : CE) : Bool := decide (crsI f.a e.a e.b * crsI f.b e.a e.b < 0)
def meetB (e f : CE) : Bool := holdsB e f.a || holdsB e f.b || holdsB f e.a || holdsB f e.b || (partsB e f && partsB f e)

theorem bcell {W w1 : World} (hb : Below W.heap.size W w1) : (∀ b o, b < W.heap.size → w1.cell? ⟨b, o, none⟩ = W.cell? ⟨b, o, none⟩) ∧ (∀ b o, b < W.heap.size → w1.frozen? ⟨b, o, none⟩ = W.frozen? ⟨b, o, none⟩) :=
  ⟨fun b o h => hb.cell (p := ⟨b, o, none⟩) h, fun b o h => hb.frozen (p := ⟨b, o, none⟩) h⟩

theorem ord_eq {a : Int} : ((some (compare a 0) : Option Ordering) == some .eq) = (a == 0) := by
  rcases Int.lt_trichotomy a 0 with h | h | h
  · rw [Int.compare_eq_lt.2 h]; simp; omega
  · subst h; rfl
  · rw [Int.compare_eq_gt.2 h]; simp; omega
theorem ord_le {a : Int} : ((some (compare a 0) : Option Ordering) == some .lt || (some (compare a 0) : Option Ordering) == some .eq) = decide (a ≤ 0) := by
  rcases Int.lt_trichotomy a 0 with h | h | h
  · rw [Int.compare_eq_lt.2 h]; simp; omega
  · subst h; rfl
  · rw [Int.compare_eq_gt.2 h]; simp; omega
theorem ord_ge {a : Int} : ((some (compare a 0) : Option Ordering) == some .gt || (some (compare a 0) : Option Ordering) == some .eq) = decide (0 ≤ a) := by
  rcases Int.lt_trichotomy a 0 with h | h | h
  · rw [Int.compare_eq_lt.2 h]; simp; omega
  · subst h; rfl
  · rw [Int.compare_eq_gt.2 h]; simp; omega
theorem ord_lt {a : Int} : ((some (compare a 0) : Option Ordering) == some .lt) = decide (a < 0) := by
  rcases Int.lt_trichotomy a 0 with h | h | h
  · rw [Int.compare_eq_lt.2 h]; simp; omega
  · subst h; rfl
  · rw [Int.compare_eq_gt.2 h]; simp; omega

set_option maxHeartbeats 400000 in
theorem holds_any (e : CE) (p : CP) (w : World) :
    Calls Try.prog 69 #[.agg #[.int .i64 e.n, .int .i64 e.m, .complex .f64 e.a.re e.a.im, .complex .f64 e.b.re e.b.im], .complex .f64 p.re p.im] w
      fun r w' => r = .returned (.bool (holdsB e p)) ∧ Below w.heap.size w w' := by
  have o1 : (FloatKind.f64.format.order (tIm p e.a e.b) 0 == some .eq) = (crsI p e.a e.b == 0) := by rw [(t_rep p e.a e.b).2.order Rep.zero, ord_eq]
  have o2 : (FloatKind.f64.format.order (tRe p e.a e.b) 0 == some .lt || FloatKind.f64.format.order (tRe p e.a e.b) 0 == some .eq) = decide (dotI p e.a e.b ≤ 0) := by rw [(t_rep p e.a e.b).1.order Rep.zero, ord_le]
  cases hc : (crsI p e.a e.b == 0)
  · rw [show holdsB e p = false by simp only [holdsB, hc, Bool.false_and]]
    rw [hc] at o1
    go_enter Try.func69, Try.ntmps69
    go_wp2_with (go_at_call 46; refine (turn_any _ _ _ _).mono ?_; rintro e w' ⟨rfl, rfl⟩)
    go_ret
    exact ⟨rfl, (Below.refl _ _).alloc (Nat.le_refl _) _⟩
  · rw [show holdsB e p = decide (dotI p e.a e.b ≤ 0) by simp only [holdsB, hc, Bool.true_and]]
    rw [hc] at o1
    rw [← o2]
    clear o2
    go_enter Try.func69, Try.ntmps69
    go_wp2_with (go_at_call 46; refine (turn_any _ _ _ _).mono ?_; rintro e w' ⟨rfl, rfl⟩)
    go_ret
    exact ⟨rfl, (Below.refl _ _).alloc (Nat.le_refl _) _⟩

set_option maxHeartbeats 400000 in
theorem folds_any (e f : CE) (w : World) :
    Calls Try.prog 79 #[.agg #[.int .i64 e.n, .int .i64 e.m, .complex .f64 e.a.re e.a.im, .complex .f64 e.b.re e.b.im], .agg #[.int .i64 f.n, .int .i64 f.m, .complex .f64 f.a.re f.a.im, .complex .f64 f.b.re f.b.im]] w
      fun r w' => r = .returned (.bool (foldsB e f)) ∧ Below w.heap.size w w' := by
  have o1 : (FloatKind.f64.format.order (tIm e.b e.a f.b) 0 == some .eq) = (crsI e.b e.a f.b == 0) := by rw [(t_rep e.b e.a f.b).2.order Rep.zero, ord_eq]
  have o2 : (FloatKind.f64.format.order (tRe e.b e.a f.b) 0 == some .gt || FloatKind.f64.format.order (tRe e.b e.a f.b) 0 == some .eq) = decide (0 ≤ dotI e.b e.a f.b) := by rw [(t_rep e.b e.a f.b).1.order Rep.zero, ord_ge]
  cases hc : (crsI e.b e.a f.b == 0)
  · rw [show foldsB e f = false by simp only [foldsB, hc, Bool.false_and]]
    rw [hc] at o1
    go_enter Try.func79, Try.ntmps79
    go_wp2_with (go_at_call 46; refine (turn_any _ _ _ _).mono ?_; rintro e w' ⟨rfl, rfl⟩)
    go_ret
    exact ⟨rfl, ((Below.refl _ _).alloc (Nat.le_refl _) _).alloc (by simp) _⟩
  · rw [show foldsB e f = decide (0 ≤ dotI e.b e.a f.b) by simp only [foldsB, hc, Bool.true_and]]
    rw [hc] at o1
    rw [← o2]
    clear o2
    go_enter Try.func79, Try.ntmps79
    go_wp2_with (go_at_call 46; refine (turn_any _ _ _ _).mono ?_; rintro e w' ⟨rfl, rfl⟩)
    go_ret
    exact ⟨rfl, ((Below.refl _ _).alloc (Nat.le_refl _) _).alloc (by simp) _⟩

set_option maxHeartbeats 400000 in
theorem parts_any (e f : CE) (w : World) :
    Calls Try.prog 103 #[.agg #[.int .i64 e.n, .int .i64 e.m, .complex .f64 e.a.re e.a.im, .complex .f64 e.b.re e.b.im], .agg #[.int .i64 f.n, .int .i64 f.m, .complex .f64 f.a.re f.a.im, .complex .f64 f.b.re f.b.im]] w
      fun r w' => r = .returned (.bool (partsB e f)) ∧ Below w.heap.size w w' := by
  have q1 := bd_crs f.a e.a e.b
  have q2 := bd_crs f.b e.a e.b
  have q3 : (crsI f.a e.a e.b * crsI f.b e.a e.b).natAbs ≤ (2 * (1998 * 1998)) * (2 * (1998 * 1998)) := by rw [Int.natAbs_mul]; exact Nat.mul_le_mul q1 q2
  obtain ⟨r, h1, k1⟩ := (t_rep f.a e.a e.b).2.mul (t_rep f.b e.a e.b).2 (small53 (by omega))
  have s3 : ∀ (w : World) t, (binOp .mul t (.float .f64 (tIm f.a e.a e.b)) (.float .f64 (tIm f.b e.a e.b))).run Try.prog w = .ok (.float .f64 r) w := fun w t => run_float_arith w .mul t _ _ _ _ h1
  have o1 : (FloatKind.f64.format.order r 0 == some .lt) = partsB e f := by rw [k1.order Rep.zero, ord_lt]; rfl
  clear q1 q2 q3 h1 k1
  go_enter Try.func103, Try.ntmps103
  go_wp2
  go_quiet ((go_at_call 46; exact Calls.quiet_of_same (turn_any _ _ _ _)))
  go_wp2
  go_ret
  exact ⟨rfl, below_drewN (((Below.refl _ _).alloc (Nat.le_refl _) _).alloc (by simp) _) _⟩

/-- Two boxes, then what a callee has laid. -/
theorem below_two {w w' : World} {o1 o2 : Obj} (h : Below ((w.alloc o1).alloc o2).heap.size ((w.alloc o1).alloc o2) w') : Below w.heap.size w w' :=
  (((Below.refl _ _).alloc (Nat.le_refl _) _).alloc (by simp) _).trans (h.mono (by simp; omega))

theorem below_one {w w' : World} {o1 : Obj} (h : Below (w.alloc o1).heap.size (w.alloc o1) w') : Below w.heap.size w w' :=
  ((Below.refl _ _).alloc (Nat.le_refl _) _).trans (h.mono (by simp))

theorem below_next {W w1 w2 : World} (h : Below W.heap.size W w1) (k : Below w1.heap.size w1 w2) : Below W.heap.size W w2 := h.trans (k.mono h.size)

def crossB (e f : CE) : Bool := partsB e f && partsB f e

set_option maxHeartbeats 1000000 in
theorem cross_any (e f : CE) (w : World) :
    Calls Try.prog 94 #[.agg #[.int .i64 e.n, .int .i64 e.m, .complex .f64 e.a.re e.a.im, .complex .f64 e.b.re e.b.im], .agg #[.int .i64 f.n, .int .i64 f.m, .complex .f64 f.a.re f.a.im, .complex .f64 f.b.re f.b.im]] w
      fun r w' => r = .returned (.bool (crossB e f)) ∧ Below w.heap.size w w' := by
  cases h5 : partsB e f
  · rw [show crossB e f = false by simp [crossB, h5]]
    go_enter Try.func94, Try.ntmps94
    go_wp2_with fail
    refine (parts_any e f _).mono ?_; rintro r w1 ⟨rfl, hb1⟩; rw [h5]; obtain ⟨hc, hf⟩ := bcell hb1
    go_wp2_with fail
    go_ret
    exact ⟨rfl, below_two hb1⟩
  · rw [show crossB e f = partsB f e by simp [crossB, h5]]
    go_enter Try.func94, Try.ntmps94
    go_wp2_with fail
    refine (parts_any e f _).mono ?_; rintro r w1 ⟨rfl, hb1⟩; rw [h5]; obtain ⟨hc, hf⟩ := bcell hb1
    go_wp2_with fail
    refine (parts_any f e _).mono ?_; rintro r w2 ⟨rfl, hb2⟩; have hb2 := below_next hb1 hb2; clear hc hf hb1; obtain ⟨hc, hf⟩ := bcell hb2
    go_wp2_with fail
    go_ret
    exact ⟨rfl, below_two hb2⟩

set_option maxHeartbeats 1000000 in
theorem meet_any (e f : CE) (w : World) :
    Calls Try.prog 80 #[.agg #[.int .i64 e.n, .int .i64 e.m, .complex .f64 e.a.re e.a.im, .complex .f64 e.b.re e.b.im], .agg #[.int .i64 f.n, .int .i64 f.m, .complex .f64 f.a.re f.a.im, .complex .f64 f.b.re f.b.im]] w
      fun r w' => r = .returned (.bool (meetB e f)) ∧ Below w.heap.size w w' := by
  cases h1 : holdsB e f.a
  · cases h2 : holdsB e f.b
    · cases h3 : holdsB f e.a
      · cases h4 : holdsB f e.b
        · rw [show meetB e f = crossB e f by simp [meetB, crossB, h1, h2, h3, h4]]
          go_enter Try.func80, Try.ntmps80
          go_wp2_with fail
          refine (holds_any e f.a _).mono ?_; rintro r w1 ⟨rfl, hb1⟩; rw [h1]; obtain ⟨hc, hf⟩ := bcell hb1
          go_wp2_with fail
          refine (holds_any e f.b _).mono ?_; rintro r w2 ⟨rfl, hb2⟩; rw [h2]; have hb2 := below_next hb1 hb2; clear hc hf hb1; obtain ⟨hc, hf⟩ := bcell hb2
          go_wp2_with fail
          refine (holds_any f e.a _).mono ?_; rintro r w3 ⟨rfl, hb3⟩; rw [h3]; have hb3 := below_next hb2 hb3; clear hc hf hb2; obtain ⟨hc, hf⟩ := bcell hb3
          go_wp2_with fail
          refine (holds_any f e.b _).mono ?_; rintro r w4 ⟨rfl, hb4⟩; rw [h4]; have hb4 := below_next hb3 hb4; clear hc hf hb3; obtain ⟨hc, hf⟩ := bcell hb4
          go_wp2_with fail
          refine (cross_any e f _).mono ?_; rintro r w5 ⟨rfl, hb5⟩; have hb5 := below_next hb4 hb5; clear hc hf hb4; obtain ⟨hc, hf⟩ := bcell hb5
          go_wp2_with fail
          go_ret
          exact ⟨rfl, below_two hb5⟩
        · rw [show meetB e f = true by simp [meetB, h4]]
          go_enter Try.func80, Try.ntmps80
          go_wp2_with fail
          refine (holds_any e f.a _).mono ?_; rintro r w1 ⟨rfl, hb1⟩; rw [h1]; obtain ⟨hc, hf⟩ := bcell hb1
          go_wp2_with fail
          refine (holds_any e f.b _).mono ?_; rintro r w2 ⟨rfl, hb2⟩; rw [h2]; have hb2 := below_next hb1 hb2; clear hc hf hb1; obtain ⟨hc, hf⟩ := bcell hb2
          go_wp2_with fail
          refine (holds_any f e.a _).mono ?_; rintro r w3 ⟨rfl, hb3⟩; rw [h3]; have hb3 := below_next hb2 hb3; clear hc hf hb2; obtain ⟨hc, hf⟩ := bcell hb3
          go_wp2_with fail
          refine (holds_any f e.b _).mono ?_; rintro r w4 ⟨rfl, hb4⟩; rw [h4]; have hb4 := below_next hb3 hb4; clear hc hf hb3; obtain ⟨hc, hf⟩ := bcell hb4
          go_wp2_with fail
          go_ret
          exact ⟨rfl, below_two hb4⟩
      · rw [show meetB e f = true by simp [meetB, h3]]
        go_enter Try.func80, Try.ntmps80
        go_wp2_with fail
        refine (holds_any e f.a _).mono ?_; rintro r w1 ⟨rfl, hb1⟩; rw [h1]; obtain ⟨hc, hf⟩ := bcell hb1
        go_wp2_with fail
        refine (holds_any e f.b _).mono ?_; rintro r w2 ⟨rfl, hb2⟩; rw [h2]; have hb2 := below_next hb1 hb2; clear hc hf hb1; obtain ⟨hc, hf⟩ := bcell hb2
        go_wp2_with fail
        refine (holds_any f e.a _).mono ?_; rintro r w3 ⟨rfl, hb3⟩; rw [h3]; have hb3 := below_next hb2 hb3; clear hc hf hb2; obtain ⟨hc, hf⟩ := bcell hb3
        go_wp2_with fail
        go_ret
        exact ⟨rfl, below_two hb3⟩
    · rw [show meetB e f = true by simp [meetB, h2]]
      go_enter Try.func80, Try.ntmps80
      go_wp2_with fail
      refine (holds_any e f.a _).mono ?_; rintro r w1 ⟨rfl, hb1⟩; rw [h1]; obtain ⟨hc, hf⟩ := bcell hb1
      go_wp2_with fail
      refine (holds_any e f.b _).mono ?_; rintro r w2 ⟨rfl, hb2⟩; rw [h2]; have hb2 := below_next hb1 hb2; clear hc hf hb1; obtain ⟨hc, hf⟩ := bcell hb2
      go_wp2_with fail
      go_ret
      exact ⟨rfl, below_two hb2⟩
  · rw [show meetB e f = true by simp [meetB, h1]]
    go_enter Try.func80, Try.ntmps80
    go_wp2_with fail
    refine (holds_any e f.a _).mono ?_; rintro r w1 ⟨rfl, hb1⟩; rw [h1]; obtain ⟨hc, hf⟩ := bcell hb1
    go_wp2_with fail
    go_ret
    exact ⟨rfl, below_two hb1⟩

end Go.Proofs.Ytlicmfhgjonmnaa
