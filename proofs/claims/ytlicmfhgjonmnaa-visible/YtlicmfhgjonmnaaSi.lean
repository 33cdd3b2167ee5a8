/- In which triangle a point lies. Own work. -/
import Derived.Test.YtlicmfhgjonmnaaSh
namespace Go.Proofs.Ytlicmfhgjonmnaa
open Go.RowKit
set_option linter.unusedVariables false

attribute [local go_sem ↓] Go.wp_at_zero Go.wp_at_succ

/-- A triangle's corners. -/
def three (ps : List CP) (t : Nat × Nat × Nat) : List CP := [ptAt ps t.1, ptAt ps t.2.1, ptAt ps t.2.2]

set_option maxRecDepth 100000 in
set_option maxHeartbeats 4000000 in
theorem outlineOf_any (ps : List CP) (m b cap i j k : Nat) (w : World) (hn : ps.length ≤ 16) (hi : i < ps.length) (hj : j < ps.length) (hk : k < ps.length) (hm : MeshAt w m b cap ps) :
    Calls Try.prog 59 #[.pointer (some ⟨m, 0, none⟩), .agg #[.int .i64 i, .int .i64 j, .int .i64 k]] w fun e w' => Below w.heap.size w w' ∧
      ∃ r, e = .returned (.agg #[.slice (some ⟨r, 0, none⟩) 3 3]) ∧ r < w'.heap.size ∧ w.heap.size ≤ r ∧ RowC w' r [ptAt ps i, ptAt ps j, ptAt ps k] := by
  have c0 := hm.corners
  have ci := hm.row i hi
  have cj := hm.row j hj
  have ck := hm.row k hk
  have hlt := hm.lt
  have hblt := hm.blt
  have i0 : (0 : Int) ≤ (i : Int) := by omega
  have j0 : (0 : Int) ≤ (j : Int) := by omega
  have k0 : (0 : Int) ≤ (k : Int) := by omega
  have i1 : (i : Int) < ps.length := by omega
  have i2 : (j : Int) < ps.length := by omega
  have i3 : (k : Int) < ps.length := by omega
  have hst : ∀ (ad : Addr) (x y : Nat) (m : Mode) (w : World), (store ad (.complex .f64 x y) m).run Try.prog w = stored Try.prog w ad (.complex .f64 x y) m := fun ad x y m w => run_store Try.prog w ad _ m rfl
  generalize hA : ptAt ps i = A at *
  generalize hB : ptAt ps j = B at *
  generalize hC : ptAt ps k = C at *
  generalize ps.length = n at *
  clear hm hA hB hC
  have hW : Below w.heap.size w ((w.alloc (.cells #[.int .i64 (i : Int), .int .i64 (j : Int), .int .i64 (k : Int)] 48)).alloc (.cells #[.slice none 0 0] 60)) := ((Below.refl _ _).alloc (Nat.le_refl _) _).alloc (by simp) _
  have hsz : ((w.alloc (.cells #[.int .i64 (i : Int), .int .i64 (j : Int), .int .i64 (k : Int)] 48)).alloc (.cells #[.slice none 0 0] 60)).heap.size = w.heap.size + 2 := by simp
  have t0 : ∀ x, ((w.alloc (.cells #[.int .i64 (i : Int), .int .i64 (j : Int), .int .i64 (k : Int)] 48)).alloc (.cells #[.slice none 0 0] 60)).cell? ⟨w.heap.size, x, none⟩ = #[.int .i64 (i : Int), .int .i64 (j : Int), .int .i64 (k : Int)][x]? := fun x => by
    rw [cell_under _ _ _ (by simp), cell_last _ _ _ _ _ rfl]
  have a0 : ((w.alloc (.cells #[.int .i64 (i : Int), .int .i64 (j : Int), .int .i64 (k : Int)] 48)).alloc (.cells #[.slice none 0 0] 60)).cell? ⟨w.heap.size + 1, 0, none⟩ = some (.slice none 0 0) := by
    rw [cell_last _ _ _ _ _ (by simp)]; rfl
  have z0 : ((w.alloc (.cells #[.int .i64 (i : Int), .int .i64 (j : Int), .int .i64 (k : Int)] 48)).alloc (.cells #[.slice none 0 0] 60)).frozen? ⟨w.heap.size + 1, 0, none⟩ = false := by
    rw [frozen_last _ _ _ _ _ (by simp)]
  go_enter Try.func59, Try.ntmps59
  go_wp2_with fail
  generalize (w.alloc (.cells #[.int .i64 (i : Int), .int .i64 (j : Int), .int .i64 (k : Int)] 48)).alloc (.cells #[.slice none 0 0] 60) = W2 at *
  have t1 : W2.cell? ⟨w.heap.size, 0, none⟩ = some (.int .i64 (i : Int)) := t0 0
  have t2 : W2.cell? ⟨w.heap.size, 1, none⟩ = some (.int .i64 (j : Int)) := t0 1
  have t3 : W2.cell? ⟨w.heap.size, 2, none⟩ = some (.int .i64 (k : Int)) := t0 2
  have e0 : W2.cell? ⟨m, 0, none⟩ = some (.slice (some ⟨b, 0, none⟩) n cap) := by rw [hW.cell (p := ⟨m, 0, none⟩) hlt]; exact c0
  have e1 : W2.cell? ⟨b, i, none⟩ = some (.complex .f64 A.re A.im) := by rw [hW.cell (p := ⟨b, i, none⟩) hblt]; exact ci
  have e2 : W2.cell? ⟨b, j, none⟩ = some (.complex .f64 B.re B.im) := by rw [hW.cell (p := ⟨b, j, none⟩) hblt]; exact cj
  have e3 : W2.cell? ⟨b, k, none⟩ = some (.complex .f64 C.re C.im) := by rw [hW.cell (p := ⟨b, k, none⟩) hblt]; exact ck
  have n1 := World.new_ne W2 _ t1
  have n2 := World.new_ne W2 _ e0
  have n3 := World.new_ne W2 _ e1
  have n4 := World.new_ne W2 _ a0
  have hbne : b ≠ w.heap.size + 1 := by omega
  have hmne : m ≠ w.heap.size + 1 := by omega
  have hbne' : w.heap.size + 1 ≠ b := by omega
  have hmne' : w.heap.size + 1 ≠ m := by omega
  have HW := hide hW
  clear t0 hW c0 ci cj ck
  go_region_held3 (fun w' => w'.cell? ⟨m, 0, none⟩ = some (.slice (some ⟨b, 0, none⟩) n cap) ∧ w'.cell? ⟨w.heap.size, 0, none⟩ = some (.int .i64 (i : Int)) ∧ w'.cell? ⟨w.heap.size, 1, none⟩ = some (.int .i64 (j : Int)) ∧ w'.cell? ⟨w.heap.size, 2, none⟩ = some (.int .i64 (k : Int)) ∧ w'.cell? ⟨b, i, none⟩ = some (.complex .f64 A.re A.im) ∧ w'.cell? ⟨b, j, none⟩ = some (.complex .f64 B.re B.im) ∧ w'.cell? ⟨b, k, none⟩ = some (.complex .f64 C.re C.im))
    (go_keep) (fail)
  have v4 : (((W2.setCell ⟨w.heap.size + 1, 0, none⟩ (.slice (some ⟨w.heap.size + 2, 0, none⟩) 3 3)).alloc (.cells #[.complex .f64 A.re A.im, .complex .f64 B.re B.im, .complex .f64 C.re C.im] 70)).drew).cell? ⟨w.heap.size + 1, 0, none⟩ = some (.slice (some ⟨w.heap.size + 2, 0, none⟩) 3 3) :=
    (cell_under (W2.setCell ⟨w.heap.size + 1, 0, none⟩ (.slice (some ⟨w.heap.size + 2, 0, none⟩) 3 3)) _ ⟨w.heap.size + 1, 0, none⟩ (by simp [hsz])).trans (World.cell?_setCell_same _ _ _ a0)
  have r4 : ∀ x, (((W2.setCell ⟨w.heap.size + 1, 0, none⟩ (.slice (some ⟨w.heap.size + 2, 0, none⟩) 3 3)).alloc (.cells #[.complex .f64 A.re A.im, .complex .f64 B.re B.im, .complex .f64 C.re C.im] 70)).drew).cell? ⟨w.heap.size + 2, x, none⟩ = #[.complex .f64 A.re A.im, .complex .f64 B.re B.im, .complex .f64 C.re C.im][x]? :=
    fun x => cell_last (W2.setCell ⟨w.heap.size + 1, 0, none⟩ (.slice (some ⟨w.heap.size + 2, 0, none⟩) 3 3)) _ _ _ _ (by simp [hsz])
  have hb4 : Below w.heap.size w (((W2.setCell ⟨w.heap.size + 1, 0, none⟩ (.slice (some ⟨w.heap.size + 2, 0, none⟩) 3 3)).alloc (.cells #[.complex .f64 A.re A.im, .complex .f64 B.re B.im, .complex .f64 C.re C.im] 70)).drew) :=
    ((HW.out.setCell (by show w.heap.size ≤ w.heap.size + 1; omega) _).alloc (by simp [hsz]) _).drew
  have s4 : w.heap.size + 2 < (((W2.setCell ⟨w.heap.size + 1, 0, none⟩ (.slice (some ⟨w.heap.size + 2, 0, none⟩) 3 3)).alloc (.cells #[.complex .f64 A.re A.im, .complex .f64 B.re B.im, .complex .f64 C.re C.im] 70)).drew).heap.size := by simp [hsz]
  generalize ((W2.setCell ⟨w.heap.size + 1, 0, none⟩ (.slice (some ⟨w.heap.size + 2, 0, none⟩) 3 3)).alloc (.cells #[.complex .f64 A.re A.im, .complex .f64 B.re B.im, .complex .f64 C.re C.im] 70)).drew = W4 at *
  have Hb4 := hide hb4
  have Hr4 := hide r4
  clear hb4 r4
  go_wp2_with fail
  refine bodyPost_ret (v := .agg #[.slice (some ⟨w.heap.size + 2, 0, none⟩) 3 3]) (by simp [results, Try.results59, go_sem, v4]) rfl ?_
  refine ⟨Hb4.out, w.heap.size + 2, rfl, s4, by omega, fun x hx => ?_⟩
  rw [Hr4.out x]
  match x, hx with
  | 0, _ => rfl
  | 1, _ => rfl
  | 2, _ => rfl

/-- Does the point lie in the triangle? -/
def holdB (ps : List CP) (p : CP) (t : Nat × Nat × Nat) : Bool := (spotI (three ps t) p).1 != 0

end Go.Proofs.Ytlicmfhgjonmnaa
