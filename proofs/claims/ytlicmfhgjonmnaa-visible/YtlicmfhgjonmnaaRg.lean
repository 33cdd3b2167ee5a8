/- The document's Meet, where no end lies on the other line. Own work. -/
import Derived.Test.YtlicmfhgjonmnaaRf
namespace Go.Proofs.Ytlicmfhgjonmnaa
open Go.RowKit Go.Sort
set_option linter.unusedVariables false

set_option maxHeartbeats 1000000 in
theorem Meet_no (a b c d : Int × Int) (ha : Bd a) (hb : Bd b) (hc : Bd c) (hd : Bd d) (w : World) (h : (onI a b c || onI a b d || onI c d a || onI c d b) = false) :
    Calls Try.prog 23 #[.agg #[.int .i64 a.1, .int .i64 a.2], .agg #[.int .i64 b.1, .int .i64 b.2], .agg #[.int .i64 c.1, .int .i64 c.2], .agg #[.int .i64 d.1, .int .i64 d.2]] w fun e w' =>
      e = .returned (.bool (crossI a b c d)) ∧ Below w.heap.size w w' := by
  simp only [Bool.or_eq_false_iff] at h
  obtain ⟨⟨⟨o1, o2⟩, o3⟩, o4⟩ := h
  have O1 := hide o1; have O2 := hide o2; have O3 := hide o3; have O4 := hide o4
  clear o1 o2 o3 o4
  have mx := mixed
  obtain ⟨m1, m2⟩ := sgn_mul_bd (tI a b c) (tI a b d)
  obtain ⟨m3, m4⟩ := sgn_mul_bd (tI c d a) (tI c d b)
  rw [crossI]
  cases hg : decide (sgn (tI a b c) * sgn (tI a b d) < 0)
  · rw [Bool.false_and]
    go_enter Try.func23, Try.ntmps23
    go_wp2_with fail
    refine (On_any a b c ha hb hc _).mono ?_
    rintro e w1 ⟨rfl, hb1⟩
    rw [O1.out]
    obtain ⟨hk, hf⟩ := bcell hb1
    go_wp2_with fail
    refine (On_any a b d ha hb hd _).mono ?_
    rintro e w2 ⟨rfl, hb2⟩
    have hb2 := below_next hb1 hb2
    clear hk hf hb1
    rw [O2.out]
    obtain ⟨hk, hf⟩ := bcell hb2
    go_wp2_with fail
    refine (On_any c d a hc hd ha _).mono ?_
    rintro e w3 ⟨rfl, hb3⟩
    have hb3 := below_next hb2 hb3
    clear hk hf hb2
    rw [O3.out]
    obtain ⟨hk, hf⟩ := bcell hb3
    go_wp2_with fail
    refine (On_any c d b hc hd hb _).mono ?_
    rintro e w4 ⟨rfl, hb4⟩
    have hb4 := below_next hb3 hb4
    clear hk hf hb3
    rw [O4.out]
    obtain ⟨hk, hf⟩ := bcell hb4
    go_wp2_with fail
    have k0 := cell_regrown (show w4.cell? ⟨w.heap.size, 0, none⟩ = some (.int .i64 a.1) by rw [hk _ _ (by first | (simp; done) | (simp; omega))]; go_simp)
    have k1 := cell_regrown (show w4.cell? ⟨w.heap.size, 1, none⟩ = some (.int .i64 a.2) by rw [hk _ _ (by first | (simp; done) | (simp; omega))]; go_simp)
    have k2 := cell_regrown (show w4.cell? ⟨w.heap.size + 1, 0, none⟩ = some (.int .i64 b.1) by rw [hk _ _ (by first | (simp; done) | (simp; omega))]; go_simp)
    have k3 := cell_regrown (show w4.cell? ⟨w.heap.size + 1, 1, none⟩ = some (.int .i64 b.2) by rw [hk _ _ (by first | (simp; done) | (simp; omega))]; go_simp)
    have k4 := cell_regrown (show w4.cell? ⟨w.heap.size + 1 + 1, 0, none⟩ = some (.int .i64 c.1) by rw [hk _ _ (by first | (simp; done) | (simp; omega))]; go_simp)
    have k5 := cell_regrown (show w4.cell? ⟨w.heap.size + 1 + 1, 1, none⟩ = some (.int .i64 c.2) by rw [hk _ _ (by first | (simp; done) | (simp; omega))]; go_simp)
    have k6 := cell_regrown (show w4.cell? ⟨w.heap.size + 1 + 1 + 1, 0, none⟩ = some (.int .i64 d.1) by rw [hk _ _ (by first | (simp; done) | (simp; omega))]; go_simp)
    have k7 := cell_regrown (show w4.cell? ⟨w.heap.size + 1 + 1 + 1, 1, none⟩ = some (.int .i64 d.2) by rw [hk _ _ (by first | (simp; done) | (simp; omega))]; go_simp)
    clear hk hf
    have Hb4 := hide hb4
    clear hb4
    refine wp_region_quiet_below (by assumption) (by kernel_rfl) ?_
    repeat (first | go_big_quiet_step ((first | (go_at_call 19; exact turn_grown _ _ _ _ (by assumption) (by assumption) (by assumption) _ _) | (go_at_call 40; exact sign_grown _ _ _ _))) | quiet_step (first | (go_at_call 19; exact turn_grown _ _ _ _ (by assumption) (by assumption) (by assumption) _ _) | (go_at_call 40; exact sign_grown _ _ _ _)))
    refine wpQuiet_nil ?_
    intro _ hw'
    obtain ⟨⟨dq, osq⟩, hw''⟩ := hw'
    subst hw''
    go_wp2
    go_ret
    exact ⟨rfl, below_four (Hb4.out.trans ((below_regrown w4 dq osq).mono Hb4.out.size))⟩
  · rw [Bool.true_and]
    go_enter Try.func23, Try.ntmps23
    go_wp2_with fail
    refine (On_any a b c ha hb hc _).mono ?_
    rintro e w1 ⟨rfl, hb1⟩
    rw [O1.out]
    obtain ⟨hk, hf⟩ := bcell hb1
    go_wp2_with fail
    refine (On_any a b d ha hb hd _).mono ?_
    rintro e w2 ⟨rfl, hb2⟩
    have hb2 := below_next hb1 hb2
    clear hk hf hb1
    rw [O2.out]
    obtain ⟨hk, hf⟩ := bcell hb2
    go_wp2_with fail
    refine (On_any c d a hc hd ha _).mono ?_
    rintro e w3 ⟨rfl, hb3⟩
    have hb3 := below_next hb2 hb3
    clear hk hf hb2
    rw [O3.out]
    obtain ⟨hk, hf⟩ := bcell hb3
    go_wp2_with fail
    refine (On_any c d b hc hd hb _).mono ?_
    rintro e w4 ⟨rfl, hb4⟩
    have hb4 := below_next hb3 hb4
    clear hk hf hb3
    rw [O4.out]
    obtain ⟨hk, hf⟩ := bcell hb4
    go_wp2_with fail
    have k0 := cell_regrown (show w4.cell? ⟨w.heap.size, 0, none⟩ = some (.int .i64 a.1) by rw [hk _ _ (by first | (simp; done) | (simp; omega))]; go_simp)
    have k1 := cell_regrown (show w4.cell? ⟨w.heap.size, 1, none⟩ = some (.int .i64 a.2) by rw [hk _ _ (by first | (simp; done) | (simp; omega))]; go_simp)
    have k2 := cell_regrown (show w4.cell? ⟨w.heap.size + 1, 0, none⟩ = some (.int .i64 b.1) by rw [hk _ _ (by first | (simp; done) | (simp; omega))]; go_simp)
    have k3 := cell_regrown (show w4.cell? ⟨w.heap.size + 1, 1, none⟩ = some (.int .i64 b.2) by rw [hk _ _ (by first | (simp; done) | (simp; omega))]; go_simp)
    have k4 := cell_regrown (show w4.cell? ⟨w.heap.size + 1 + 1, 0, none⟩ = some (.int .i64 c.1) by rw [hk _ _ (by first | (simp; done) | (simp; omega))]; go_simp)
    have k5 := cell_regrown (show w4.cell? ⟨w.heap.size + 1 + 1, 1, none⟩ = some (.int .i64 c.2) by rw [hk _ _ (by first | (simp; done) | (simp; omega))]; go_simp)
    have k6 := cell_regrown (show w4.cell? ⟨w.heap.size + 1 + 1 + 1, 0, none⟩ = some (.int .i64 d.1) by rw [hk _ _ (by first | (simp; done) | (simp; omega))]; go_simp)
    have k7 := cell_regrown (show w4.cell? ⟨w.heap.size + 1 + 1 + 1, 1, none⟩ = some (.int .i64 d.2) by rw [hk _ _ (by first | (simp; done) | (simp; omega))]; go_simp)
    clear hk hf
    have Hb4 := hide hb4
    clear hb4
    refine wp_region_quiet_below (by assumption) (by kernel_rfl) ?_
    repeat (first | go_big_quiet_step ((first | (go_at_call 19; exact turn_grown _ _ _ _ (by assumption) (by assumption) (by assumption) _ _) | (go_at_call 40; exact sign_grown _ _ _ _))) | quiet_step (first | (go_at_call 19; exact turn_grown _ _ _ _ (by assumption) (by assumption) (by assumption) _ _) | (go_at_call 40; exact sign_grown _ _ _ _)))
    refine wpQuiet_nil ?_
    intro _ hw'
    obtain ⟨⟨dq, osq⟩, hw''⟩ := hw'
    subst hw''
    go_wp2
    go_ret
    exact ⟨rfl, below_four (Hb4.out.trans ((below_regrown w4 dq osq).mono Hb4.out.size))⟩

end Go.Proofs.Ytlicmfhgjonmnaa
