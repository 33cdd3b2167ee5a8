/- The document's look whether a point lies in a triangle. Own work. -/
import Derived.Test.YtlicmfhgjonmnaaPg
import Derived.Lib.QuietBelow
namespace Go.Proofs.Ytlicmfhgjonmnaa
open Go.RowKit
set_option linter.unusedVariables false

theorem below_dr' (w : World) : Below w.heap.size w w.drew := (Below.refl _ _).drew

theorem Turn_c (ax ay bx by' cx cy : Int) (W : World) (ha : Bd (ax, ay)) (hb : Bd (bx, by')) (hc : Bd (cx, cy)) :
    Calls Try.prog 19 #[.agg #[.int .i64 ax, .int .i64 ay], .agg #[.int .i64 bx, .int .i64 by'], .agg #[.int .i64 cx, .int .i64 cy]] W fun e w' =>
      e = .returned (.int .i64 (tI (ax, ay) (bx, by') (cx, cy))) ∧ Below W.heap.size W w' := Turn_any (ax, ay) (bx, by') (cx, cy) ha hb hc W

theorem turn_grown_c (W : World) (ax ay bx by' cx cy : Int) (ha : Bd (ax, ay)) (hb : Bd (bx, by')) (hc : Bd (cx, cy)) (d : Nat) (os : Array Obj) :
    Calls Try.prog 19 #[.agg #[.int .i64 ax, .int .i64 ay], .agg #[.int .i64 bx, .int .i64 by'], .agg #[.int .i64 cx, .int .i64 cy]] (Sort.grow (redrawn W d) os) fun e w'' => e = .returned (.int .i64 (tI (ax, ay) (bx, by') (cx, cy))) ∧ ∃ p : Regrown, w'' = Sort.grow (redrawn W p.d) p.os :=
  Calls.regrown_of (Turn_c ax ay bx by' cx cy _ ha hb hc)

/-- What Inside reads. -/
structure InCells (w : World) (H g : Nat) (a b c : Nat) (ax ay bx by' cx cy px py : Int) : Prop where
  t0 : w.cell? ⟨H, 0, none⟩ = some (.int .i64 a)
  t1 : w.cell? ⟨H, 1, none⟩ = some (.int .i64 b)
  t2 : w.cell? ⟨H, 2, none⟩ = some (.int .i64 c)
  p0 : w.cell? ⟨H + 1, 0, none⟩ = some (.int .i64 px)
  p1 : w.cell? ⟨H + 1, 1, none⟩ = some (.int .i64 py)
  a0 : w.cell? ⟨g, a * 2, none⟩ = some (.int .i64 ax)
  a1 : w.cell? ⟨g, a * 2 + 1, none⟩ = some (.int .i64 ay)
  b0 : w.cell? ⟨g, b * 2, none⟩ = some (.int .i64 bx)
  b1 : w.cell? ⟨g, b * 2 + 1, none⟩ = some (.int .i64 by')
  c0 : w.cell? ⟨g, c * 2, none⟩ = some (.int .i64 cx)
  c1 : w.cell? ⟨g, c * 2 + 1, none⟩ = some (.int .i64 cy)

theorem InCells.below {w w' : World} {H g a b c : Nat} {ax ay bx by' cx cy px py : Int} (h : InCells w H g a b c ax ay bx by' cx cy px py) (hb : Below w.heap.size w w') : InCells w' H g a b c ax ay bx by' cx cy px py := by
  have hH : H < w.heap.size := World.block_lt_of_cell? w _ h.t0
  have hH1 : H + 1 < w.heap.size := World.block_lt_of_cell? w _ h.p0
  have hg : g < w.heap.size := World.block_lt_of_cell? w _ h.a0
  exact ⟨(hb.cell (p := ⟨H, 0, none⟩) hH).trans h.t0, (hb.cell (p := ⟨H, 1, none⟩) hH).trans h.t1, (hb.cell (p := ⟨H, 2, none⟩) hH).trans h.t2,
    (hb.cell (p := ⟨H + 1, 0, none⟩) hH1).trans h.p0, (hb.cell (p := ⟨H + 1, 1, none⟩) hH1).trans h.p1,
    (hb.cell (p := ⟨g, a * 2, none⟩) hg).trans h.a0, (hb.cell (p := ⟨g, a * 2 + 1, none⟩) hg).trans h.a1,
    (hb.cell (p := ⟨g, b * 2, none⟩) hg).trans h.b0, (hb.cell (p := ⟨g, b * 2 + 1, none⟩) hg).trans h.b1,
    (hb.cell (p := ⟨g, c * 2, none⟩) hg).trans h.c0, (hb.cell (p := ⟨g, c * 2 + 1, none⟩) hg).trans h.c1⟩

set_option maxRecDepth 100000 in
set_option maxHeartbeats 8000000 in
theorem Inside_c (g cap n a b c : Nat) (ax ay bx by' cx cy px py : Int) (w : World) (la : a < n) (lb : b < n) (lc : c < n) (hn : n ≤ 16)
    (a0 : w.cell? ⟨g, a * 2, none⟩ = some (.int .i64 ax)) (a1 : w.cell? ⟨g, a * 2 + 1, none⟩ = some (.int .i64 ay))
    (b0 : w.cell? ⟨g, b * 2, none⟩ = some (.int .i64 bx)) (b1 : w.cell? ⟨g, b * 2 + 1, none⟩ = some (.int .i64 by'))
    (c0 : w.cell? ⟨g, c * 2, none⟩ = some (.int .i64 cx)) (c1 : w.cell? ⟨g, c * 2 + 1, none⟩ = some (.int .i64 cy))
    (hA : Bd (ax, ay)) (hB : Bd (bx, by')) (hC : Bd (cx, cy)) (hP : Bd (px, py)) :
    Calls Try.prog 25 #[.slice (some ⟨g, 0, none⟩) n cap, .agg #[.int .i64 a, .int .i64 b, .int .i64 c], .agg #[.int .i64 px, .int .i64 py]] w fun e w' =>
      e = .returned (.bool (decide (0 ≤ tI (ax, ay) (bx, by') (px, py)) && decide (0 ≤ tI (bx, by') (cx, cy) (px, py)) && decide (0 ≤ tI (cx, cy) (ax, ay) (px, py)))) ∧ Below w.heap.size w w' := by
  have hg : g < w.heap.size := World.block_lt_of_cell? w _ a0
  have hbW : Below w.heap.size w ((w.alloc (.cells #[.int .i64 (a : Int), .int .i64 (b : Int), .int .i64 (c : Int)] 56)).alloc (.cells #[.int .i64 px, .int .i64 py] 39)) := ((Below.refl _ _).alloc (Nat.le_refl _) _).alloc (by simp) _
  have hI : InCells ((w.alloc (.cells #[.int .i64 (a : Int), .int .i64 (b : Int), .int .i64 (c : Int)] 56)).alloc (.cells #[.int .i64 px, .int .i64 py] 39)) w.heap.size g a b c ax ay bx by' cx cy px py := by
    refine ⟨?_, ?_, ?_, ?_, ?_, ?_, ?_, ?_, ?_, ?_, ?_⟩
    · rw [cell_under _ _ _ (by simp), cell_last _ _ _ _ _ rfl]; rfl
    · rw [cell_under _ _ _ (by simp), cell_last _ _ _ _ _ rfl]; rfl
    · rw [cell_under _ _ _ (by simp), cell_last _ _ _ _ _ rfl]; rfl
    · rw [cell_last _ _ _ _ _ (by simp)]; rfl
    · rw [cell_last _ _ _ _ _ (by simp)]; rfl
    · exact (hbW.cell (p := ⟨g, a * 2, none⟩) hg).trans a0
    · exact (hbW.cell (p := ⟨g, a * 2 + 1, none⟩) hg).trans a1
    · exact (hbW.cell (p := ⟨g, b * 2, none⟩) hg).trans b0
    · exact (hbW.cell (p := ⟨g, b * 2 + 1, none⟩) hg).trans b1
    · exact (hbW.cell (p := ⟨g, c * 2, none⟩) hg).trans c0
    · exact (hbW.cell (p := ⟨g, c * 2 + 1, none⟩) hg).trans c1
  have ia : (a : Int) < (n : Int) := by omega
  have ib : (b : Int) < (n : Int) := by omega
  have ic : (c : Int) < (n : Int) := by omega
  have ia0 : (0 : Int) ≤ (a : Int) := by omega
  have ib0 : (0 : Int) ≤ (b : Int) := by omega
  have ic0 : (0 : Int) ≤ (c : Int) := by omega
  have mx := mixed
  clear a0 a1 b0 b1 c0 c1
  cases h1 : decide (0 ≤ tI (ax, ay) (bx, by') (px, py))
  · have hres : (false && decide (0 ≤ tI (bx, by') (cx, cy) (px, py)) && decide (0 ≤ tI (cx, cy) (ax, ay) (px, py))) = false := rfl
    rw [hres]
    clear hres
    go_enter Try.func25, Try.ntmps25
    go_wp2_with fail
    generalize (w.alloc (.cells #[.int .i64 (a : Int), .int .i64 (b : Int), .int .i64 (c : Int)] 56)).alloc (.cells #[.int .i64 px, .int .i64 py] 39) = W2 at *
    have k0 := cell_regrown hI.t0
    have k1 := cell_regrown hI.t1
    have k2 := cell_regrown hI.t2
    have k3 := cell_regrown hI.p0
    have k4 := cell_regrown hI.p1
    have k5 := cell_regrown hI.a0
    have k6 := cell_regrown hI.a1
    have k7 := cell_regrown hI.b0
    have k8 := cell_regrown hI.b1
    have k9 := cell_regrown hI.c0
    have k10 := cell_regrown hI.c1
    have HbW := hide hbW
    clear hbW hI
    refine wp_region_quiet_below (by assumption) (by kernel_rfl) ?_
    repeat (first | go_big_quiet_step ((first | (go_at_call 19; exact turn_grown_c _ _ _ _ _ _ _ (by assumption) (by assumption) (by assumption) _ _))) | quiet_step (first | (go_at_call 19; exact turn_grown_c _ _ _ _ _ _ _ (by assumption) (by assumption) (by assumption) _ _)))
    refine wpQuiet_nil ?_
    intro _ hw'
    obtain ⟨⟨dq, osq⟩, hw''⟩ := hw'
    subst hw''
    go_wp2
    go_ret
    exact ⟨rfl, below_next HbW.out (below_regrown W2 dq osq)⟩
  · cases h2 : decide (0 ≤ tI (bx, by') (cx, cy) (px, py))
    · have hres : (true && false && decide (0 ≤ tI (cx, cy) (ax, ay) (px, py))) = false := rfl
      rw [hres]
      clear hres
      go_enter Try.func25, Try.ntmps25
      go_wp2_with fail
      generalize (w.alloc (.cells #[.int .i64 (a : Int), .int .i64 (b : Int), .int .i64 (c : Int)] 56)).alloc (.cells #[.int .i64 px, .int .i64 py] 39) = W2 at *
      have k0 := cell_regrown hI.t0
      have k1 := cell_regrown hI.t1
      have k2 := cell_regrown hI.t2
      have k3 := cell_regrown hI.p0
      have k4 := cell_regrown hI.p1
      have k5 := cell_regrown hI.a0
      have k6 := cell_regrown hI.a1
      have k7 := cell_regrown hI.b0
      have k8 := cell_regrown hI.b1
      have k9 := cell_regrown hI.c0
      have k10 := cell_regrown hI.c1
      have HbW := hide hbW
      clear hbW hI
      refine wp_region_quiet_below (by assumption) (by kernel_rfl) ?_
      repeat (first | go_big_quiet_step ((first | (go_at_call 19; exact turn_grown_c _ _ _ _ _ _ _ (by assumption) (by assumption) (by assumption) _ _))) | quiet_step (first | (go_at_call 19; exact turn_grown_c _ _ _ _ _ _ _ (by assumption) (by assumption) (by assumption) _ _)))
      refine wpQuiet_nil ?_
      intro _ hw'
      obtain ⟨⟨dq, osq⟩, hw''⟩ := hw'
      subst hw''
      go_wp2
      go_ret
      exact ⟨rfl, below_next HbW.out (below_regrown W2 dq osq)⟩
    · have hres : (true && true && decide (0 ≤ tI (cx, cy) (ax, ay) (px, py))) = decide (0 ≤ tI (cx, cy) (ax, ay) (px, py)) := rfl
      rw [hres]
      clear hres
      go_enter Try.func25, Try.ntmps25
      go_wp2_with fail
      generalize (w.alloc (.cells #[.int .i64 (a : Int), .int .i64 (b : Int), .int .i64 (c : Int)] 56)).alloc (.cells #[.int .i64 px, .int .i64 py] 39) = W2 at *
      have k0 := cell_regrown hI.t0
      have k1 := cell_regrown hI.t1
      have k2 := cell_regrown hI.t2
      have k3 := cell_regrown hI.p0
      have k4 := cell_regrown hI.p1
      have k5 := cell_regrown hI.a0
      have k6 := cell_regrown hI.a1
      have k7 := cell_regrown hI.b0
      have k8 := cell_regrown hI.b1
      have k9 := cell_regrown hI.c0
      have k10 := cell_regrown hI.c1
      have HbW := hide hbW
      clear hbW hI
      refine wp_region_quiet_below (by assumption) (by kernel_rfl) ?_
      repeat (first | go_big_quiet_step ((first | (go_at_call 19; exact turn_grown_c _ _ _ _ _ _ _ (by assumption) (by assumption) (by assumption) _ _))) | quiet_step (first | (go_at_call 19; exact turn_grown_c _ _ _ _ _ _ _ (by assumption) (by assumption) (by assumption) _ _)))
      refine wpQuiet_nil ?_
      intro _ hw'
      obtain ⟨⟨dq, osq⟩, hw''⟩ := hw'
      subst hw''
      go_wp2
      go_ret
      exact ⟨rfl, below_next HbW.out (below_regrown W2 dq osq)⟩

end Go.Proofs.Ytlicmfhgjonmnaa
