/- The mesh's triangle, and the corner with the widest angle. Own work. -/
import Derived.Test.YtlicmfhgjonmnaaSa
import Derived.Test.YtlicmfhgjonmnaaIe
namespace Go.Proofs.Ytlicmfhgjonmnaa
open Go.RowKit
set_option linter.unusedVariables false

theorem angle_dot (ps : List CP) (i j k : Nat) : dotI (ptAt ps i) (ptAt ps j) (ptAt ps k) = dotP (pAt (xy ps) i) (pAt (xy ps) j) (pAt (xy ps) k) := by
  rw [pAt_xy, pAt_xy, pAt_xy]; rfl

theorem angle_crs (ps : List CP) (i j k : Nat) : (crsI (ptAt ps i) (ptAt ps j) (ptAt ps k)).natAbs = (tI (pAt (xy ps) j) (pAt (xy ps) i) (pAt (xy ps) k)).natAbs := by
  rw [pAt_xy, pAt_xy, pAt_xy, crs_eq, tI_neg, Int.natAbs_neg]

theorem tri_crs (ps : List CP) (i j k : Nat) : crsI (ptAt ps i) (ptAt ps j) (ptAt ps k) = tI (pAt (xy ps) i) (pAt (xy ps) j) (pAt (xy ps) k) := by
  rw [pAt_xy, pAt_xy, pAt_xy, crs_eq]

theorem below_al' (w : World) (o : Obj) : Below w.heap.size w (w.alloc o) := (Below.refl _ _).alloc (Nat.le_refl _) _

def triV (t : Nat × Nat × Nat) : List Value := [.int .i64 t.1, .int .i64 t.2.1, .int .i64 t.2.2]

set_option maxRecDepth 100000 in
set_option maxHeartbeats 2000000 in
theorem triangle_any (ps : List CP) (m b cap i j k : Nat) (w : World) (hn : ps.length ≤ 16) (hi : i < ps.length) (hj : j < ps.length) (hk : k < ps.length) (hm : MeshAt w m b cap ps) :
    Calls Try.prog 73 #[.pointer (some ⟨m, 0, none⟩), .int .i64 i, .int .i64 j, .int .i64 k] w fun r w' =>
      r = .returned (.agg #[.int .i64 (triI (xy ps) i j k).1, .int .i64 (triI (xy ps) i j k).2.1, .int .i64 (triI (xy ps) i j k).2.2]) ∧ Below w.heap.size w w' := by
  have c0 := hm.corners
  have ci := hm.row i hi
  have cj := hm.row j hj
  have ck := hm.row k hk
  have hlt := hm.lt
  have hblt := hm.blt
  have o3 : (FloatKind.f64.format.order (tIm (ptAt ps i) (ptAt ps j) (ptAt ps k)) 0 == some .gt) = decide (0 < crsI (ptAt ps i) (ptAt ps j) (ptAt ps k)) := by rw [(t_rep (ptAt ps i) (ptAt ps j) (ptAt ps k)).2.order Rep.zero, ord2_gt]
  rw [tri_crs] at o3
  have Ht := hide (turn_any (ptAt ps i) (ptAt ps j) (ptAt ps k))
  have hmw : m ≠ w.heap.size := by omega
  have hbw : b ≠ w.heap.size := by omega
  have i1 : (i : Int) < ps.length := by omega
  have i2 : (j : Int) < ps.length := by omega
  have i3 : (k : Int) < ps.length := by omega
  unfold triI
  generalize ptAt ps i = A at *
  generalize ptAt ps j = B at *
  generalize ptAt ps k = C at *
  generalize tRe A B C = R at *
  generalize tIm A B C = I at *
  clear hm
  by_cases hp : 0 < tI (pAt (xy ps) i) (pAt (xy ps) j) (pAt (xy ps) k)
  · rw [if_pos hp]
    rw [decide_eq_true hp] at o3
    clear hp
    generalize ps.length = n at *
    go_enter Try.func73, Try.ntmps73
    go_wp2_with fail
    go_quiet ((go_at_call 46; exact Calls.quiet_of_same (Ht.out _)))
    go_wp2_with fail
    refine bodyPost_ret (v := .agg #[.int .i64 i, .int .i64 j, .int .i64 k]) (by simp [results, Try.results73, go_sem]) rfl ⟨rfl, ?_⟩
    exact (((below_drewN (below_al' _ _) _).setCell (Nat.le_refl _) _).setCell (Nat.le_refl _) _).setCell (Nat.le_refl _) _
  · rw [if_neg hp]
    rw [decide_eq_false hp] at o3
    clear hp
    generalize ps.length = n at *
    go_enter Try.func73, Try.ntmps73
    go_wp2_with fail
    go_quiet ((go_at_call 46; exact Calls.quiet_of_same (Ht.out _)))
    go_wp2_with fail
    refine bodyPost_ret (v := .agg #[.int .i64 i, .int .i64 k, .int .i64 j]) (by simp [results, Try.results73, go_sem]) rfl ⟨rfl, ?_⟩
    exact (((below_drewN (below_al' _ _) _).setCell (Nat.le_refl _) _).setCell (Nat.le_refl _) _).setCell (Nat.le_refl _) _

end Go.Proofs.Ytlicmfhgjonmnaa
