/- The document's geometry. Own work. -/
import Derived.Test.YtlicmfhgjonmnaaRd
import Derived.Lib.QuietBelow
namespace Go.Proofs.Ytlicmfhgjonmnaa
open Go.RowKit Go.Sort
set_option linter.unusedVariables false

/-- A point within the range, and 27 times as far (Visible makes all greater by up to 27). -/
structure Bd (p : Int × Int) : Prop where
  x1 : -26973 ≤ p.1
  x2 : p.1 ≤ 26973
  y1 : -26973 ≤ p.2
  y2 : p.2 ≤ 26973

theorem prod_bd {a b : Int} (h1 : -53946 ≤ a) (h2 : a ≤ 53946) (h3 : -53946 ≤ b) (h4 : b ≤ 53946) : -2910170916 ≤ a * b ∧ a * b ≤ 2910170916 := by
  have : (a * b).natAbs ≤ 53946 * 53946 := by rw [Int.natAbs_mul]; exact Nat.mul_le_mul (by omega) (by omega)
  omega

set_option maxHeartbeats 1000000 in
theorem Turn_any (a b c : Int × Int) (ha : Bd a) (hb : Bd b) (hc : Bd c) (w : World) :
    Calls Try.prog 19 #[.agg #[.int .i64 a.1, .int .i64 a.2], .agg #[.int .i64 b.1, .int .i64 b.2], .agg #[.int .i64 c.1, .int .i64 c.2]] w fun e w' =>
      e = .returned (.int .i64 (tI a b c)) ∧ Below w.heap.size w w' := by
  obtain ⟨a1, a2⟩ := a
  obtain ⟨b1, b2⟩ := b
  obtain ⟨c1, c2⟩ := c
  obtain ⟨p1, p2, p3, p4⟩ := ha
  obtain ⟨q1, q2, q3, q4⟩ := hb
  obtain ⟨r1, r2, r3, r4⟩ := hc
  simp only at p1 p2 p3 p4 q1 q2 q3 q4 r1 r2 r3 r4
  obtain ⟨m1, m2⟩ := prod_bd (a := b1 - a1) (b := c2 - a2) (by omega) (by omega) (by omega) (by omega)
  obtain ⟨m3, m4⟩ := prod_bd (a := b2 - a2) (b := c1 - a1) (by omega) (by omega) (by omega) (by omega)
  go_enter Try.func19, Try.ntmps19
  go_wp2
  go_ret
  exact ⟨rfl, (((Below.refl _ _).alloc (Nat.le_refl _) _).alloc (by simp) _).alloc (by simp; omega) _⟩

theorem below_three {w w' : World} {o1 o2 o3 : Obj} (h : Below (((w.alloc o1).alloc o2).alloc o3).heap.size (((w.alloc o1).alloc o2).alloc o3) w') : Below w.heap.size w w' :=
  ((((Below.refl _ _).alloc (Nat.le_refl _) _).alloc (by simp) _).alloc (by simp; omega) _).trans (h.mono (by simp; omega))

set_option maxHeartbeats 8000000 in
theorem On_any (a b p : Int × Int) (ha : Bd a) (hb : Bd b) (hp : Bd p) (w : World) :
    Calls Try.prog 39 #[.agg #[.int .i64 a.1, .int .i64 a.2], .agg #[.int .i64 b.1, .int .i64 b.2], .agg #[.int .i64 p.1, .int .i64 p.2]] w fun e w' =>
      e = .returned (.bool (onI a b p)) ∧ Below w.heap.size w w' := by
  by_cases ht : tI a b p = 0
  · have g : (tI a b p != 0) = false := by rw [ht]; rfl
    have Ht := hide ht
    clear ht
    have hv : onI a b p = (onX a.1 b.1 p.1 && onX a.2 b.2 p.2) := by rw [onI, Ht.out]; simp
    rw [hv]
    clear hv
    simp only [onX]
    cases dx : decide (min a.1 b.1 ≤ p.1)
    · rw [Bool.false_and, Bool.false_and]
      cases dy : decide (min a.2 b.2 ≤ p.2)
      all_goals
        go_enter Try.func39, Try.ntmps39
        go_wp2_with fail
        refine (Turn_any a b p ha hb hp _).mono ?_
        rintro e w1 ⟨rfl, hb1⟩
        obtain ⟨hc, hf⟩ := bcell hb1
        have Hb1 := hide hb1
        clear hb1
        go_wp2_with fail
        go_quiet ((first | (go_at_call 55; exact Calls.quiet_of_same (least_any _ _ _)) | (go_at_call 56; exact Calls.quiet_of_same (most_any _ _ _))))
        go_wp2_with fail
        have Hb2 := hide (below_drewN Hb1.out nq)
        clear hc hf Hb1
        generalize w1.drewN nq = w2 at *
        obtain ⟨hc, hf⟩ := bcell Hb2.out
        go_quiet ((first | (go_at_call 55; exact Calls.quiet_of_same (least_any _ _ _)) | (go_at_call 56; exact Calls.quiet_of_same (most_any _ _ _))))
        go_wp2_with fail
        go_ret
        exact ⟨rfl, below_drewN (below_three Hb2.out) _⟩
    · rw [Bool.true_and]
      cases dx2 : decide (p.1 ≤ max a.1 b.1)
      · rw [Bool.false_and]
        cases dy : decide (min a.2 b.2 ≤ p.2)
        all_goals
          go_enter Try.func39, Try.ntmps39
          go_wp2_with fail
          refine (Turn_any a b p ha hb hp _).mono ?_
          rintro e w1 ⟨rfl, hb1⟩
          obtain ⟨hc, hf⟩ := bcell hb1
          have Hb1 := hide hb1
          clear hb1
          go_wp2_with fail
          go_quiet ((first | (go_at_call 55; exact Calls.quiet_of_same (least_any _ _ _)) | (go_at_call 56; exact Calls.quiet_of_same (most_any _ _ _))))
          go_wp2_with fail
          have Hb2 := hide (below_drewN Hb1.out nq)
          clear hc hf Hb1
          generalize w1.drewN nq = w2 at *
          obtain ⟨hc, hf⟩ := bcell Hb2.out
          go_quiet ((first | (go_at_call 55; exact Calls.quiet_of_same (least_any _ _ _)) | (go_at_call 56; exact Calls.quiet_of_same (most_any _ _ _))))
          go_wp2_with fail
          go_ret
          exact ⟨rfl, below_drewN (below_three Hb2.out) _⟩
      · rw [Bool.true_and]
        cases dy : decide (min a.2 b.2 ≤ p.2)
        · rw [Bool.false_and]
          go_enter Try.func39, Try.ntmps39
          go_wp2_with fail
          refine (Turn_any a b p ha hb hp _).mono ?_
          rintro e w1 ⟨rfl, hb1⟩
          obtain ⟨hc, hf⟩ := bcell hb1
          have Hb1 := hide hb1
          clear hb1
          go_wp2_with fail
          go_quiet ((first | (go_at_call 55; exact Calls.quiet_of_same (least_any _ _ _)) | (go_at_call 56; exact Calls.quiet_of_same (most_any _ _ _))))
          go_wp2_with fail
          have Hb2 := hide (below_drewN Hb1.out nq)
          clear hc hf Hb1
          generalize w1.drewN nq = w2 at *
          obtain ⟨hc, hf⟩ := bcell Hb2.out
          go_quiet ((first | (go_at_call 55; exact Calls.quiet_of_same (least_any _ _ _)) | (go_at_call 56; exact Calls.quiet_of_same (most_any _ _ _))))
          go_wp2_with fail
          go_ret
          exact ⟨rfl, below_drewN (below_three Hb2.out) _⟩
        · rw [Bool.true_and]
          go_enter Try.func39, Try.ntmps39
          go_wp2_with fail
          refine (Turn_any a b p ha hb hp _).mono ?_
          rintro e w1 ⟨rfl, hb1⟩
          obtain ⟨hc, hf⟩ := bcell hb1
          have Hb1 := hide hb1
          clear hb1
          go_wp2_with fail
          go_quiet ((first | (go_at_call 55; exact Calls.quiet_of_same (least_any _ _ _)) | (go_at_call 56; exact Calls.quiet_of_same (most_any _ _ _))))
          go_wp2_with fail
          have Hb2 := hide (below_drewN Hb1.out nq)
          clear hc hf Hb1
          generalize w1.drewN nq = w2 at *
          obtain ⟨hc, hf⟩ := bcell Hb2.out
          go_quiet ((first | (go_at_call 55; exact Calls.quiet_of_same (least_any _ _ _)) | (go_at_call 56; exact Calls.quiet_of_same (most_any _ _ _))))
          go_wp2_with fail
          go_ret
          exact ⟨rfl, below_drewN (below_three Hb2.out) _⟩
  · have g : (tI a b p != 0) = true := by rw [bne_iff_ne]; exact ht
    have hv : onI a b p = false := by rw [onI, beq_eq_false_iff_ne.2 ht, Bool.false_and]
    rw [hv]
    clear hv ht
    go_enter Try.func39, Try.ntmps39
    go_wp2_with fail
    refine (Turn_any a b p ha hb hp _).mono ?_
    rintro e w1 ⟨rfl, hb1⟩
    have Hb1 := hide hb1
    clear hb1
    go_wp2_with fail
    go_ret
    exact ⟨rfl, below_three Hb1.out⟩

end Go.Proofs.Ytlicmfhgjonmnaa
