/- The program's places: the looks, and what Where answers. Own work. -/
import Derived.Test.YtlicmfhgjonmnaaPa
namespace Go.Proofs.Ytlicmfhgjonmnaa
open Go.RowKit
set_option linter.unusedVariables false

theorem ent_corner (args : Array Value) (w : World) : (callFunc 67 args).run Try.prog w = .ok (.enter 67 args) w := enters_of Try.func67 (by kernel_rfl) rfl args w
theorem ent_edge1 (args : Array Value) (w : World) : (callFunc 68 args).run Try.prog w = .ok (.enter 68 args) w := enters_of Try.func68 (by kernel_rfl) rfl args w
theorem ent_within (args : Array Value) (w : World) : (callFunc 70 args).run Try.prog w = .ok (.enter 70 args) w := enters_of Try.func70 (by kernel_rfl) rfl args w

set_option maxHeartbeats 1000000 in
theorem sumEdges_gen (f : Nat) (cv : Value) (F : Nat → Int) (hF : ∀ i, -1996002 ≤ F i ∧ F i ≤ 1996002) (ps : List CP) (b cap : Nat) (w : World) (hn : ps.length ≤ 16) (hlt : b < w.heap.size) (hrow : RowC w b ps)
    (hent : ∀ args w, (callFunc f args).run Try.prog w = .ok (.enter f args) w)
    (hcl : ∀ i, i < ps.length → ∀ w1 : World, Below w.heap.size w w1 → Calls Try.prog f #[.agg #[.int .i64 (edgeOf ps i).n, .int .i64 (edgeOf ps i).m, .complex .f64 (edgeOf ps i).a.re (edgeOf ps i).a.im, .complex .f64 (edgeOf ps i).b.re (edgeOf ps i).b.im], cv] w1 fun r w2 => r = .returned (.int .i64 (F i)) ∧ Below w1.heap.size w1 w2) :
    Calls Try.prog 44 #[.agg #[.slice (some ⟨b, 0, none⟩) ps.length cap], .func (.func f) #[] #[cv]] w fun r w' =>
      r = .returned (.int .i64 (sumI F ps.length)) ∧ Below w.heap.size w w' := by
  have Hcl := hide hcl
  clear hcl
  have Hrow := hide hrow
  clear hrow
  have HF := hide hF
  clear hF
  go_enter Try.func44, Try.ntmps44
  go_wp2_with fail
  go_loopw [5, 10] (fun sv i wr => ∃ k : Nat, k ≤ ps.length ∧ i = .int .i64 k ∧ sv = .int .i64 (sumI F k) ∧ Below (w.heap.size + 1) (w.alloc (.cells #[.slice (some ⟨b, 0, none⟩) ps.length cap] 60)) wr) (fun _ i _ => ps.length - (intOf i).toNat)
  case atStart => exact ⟨0, Nat.zero_le _, rfl, rfl, Below.refl _ _⟩
  case round =>
    obtain ⟨k, hk, rfl, rfl, hbel⟩ := hrel
    have hw : Below w.heap.size w wr := ((Below.refl _ _).alloc (Nat.le_refl _) _).trans (hbel.mono (by omega))
    have hsz : w.heap.size < wr.heap.size := by have := hbel.size; simp at this; omega
    have hc0 : wr.cell? ⟨w.heap.size, 0, none⟩ = some (.slice (some ⟨b, 0, none⟩) ps.length cap) := by
      rw [hbel.cell (p := ⟨w.heap.size, 0, none⟩) (by simp)]; simp
    have hs1 := sumI_bd F HF.out k
    have hs2 := HF.out k
    have s1 : -31936032 ≤ sumI F k := by omega
    have s2 : sumI F k ≤ 31936032 := by omega
    obtain ⟨s3, s4⟩ := hs2
    have hstep : sumI F (k + 1) = sumI F k + F k := rfl
    have Hstep := hide hstep
    have Hw := hide hw
    have Hbel := hide hbel
    clear hw hbel hs1 hstep
    by_cases hlt2 : k < ps.length
    · have hi : (k : Int) < (ps.length : Int) := by omega
      go_wp2_with fail
      refine (edge_any ps b cap k _ hn hlt2 (by omega) (Hrow.out.below Hw.out hlt)).mono ?_
      rintro r w1 ⟨rfl, hb1⟩
      have Hb1 := hide hb1
      clear hb1
      go_wp2_with fail
      refine (Hcl.out k hlt2 _ (below_next Hw.out Hb1.out)).mono ?_
      rintro r w2 ⟨rfl, hb2⟩
      have Hb2 := hide hb2
      clear hb2
      go_wp2_with fail
      go_roundw
      case rel => exact ⟨k + 1, by omega, by go_num, by rw [Hstep.out], Hbel.out.trans ((below_next Hb1.out Hb2.out).mono hsz)⟩
      case measure => simp [intOf]; omega
    · have hi : ¬ (k : Int) < (ps.length : Int) := by omega
      have hke : k = ps.length := by omega
      have Hke := hide hke
      clear hke
      go_wp2_with fail
      go_ret
      exact ⟨ret_int (by rw [Hke.out]), Hw.out⟩

def cornerI (ps : List CP) (p : CP) : Int := firstI (fun i => eqB (edgeOf ps i).a p) ps.length
def onEdgeI (ps : List CP) (p : CP) : Int := firstI (fun i => holdsB (edgeOf ps i) p) ps.length
def crossedI (ps : List CP) (p : CP) : Int := sumI (fun i => within1 (edgeOf ps i) p) ps.length

theorem below3 (w : World) (o1 o2 o3 : Obj) : Below w.heap.size w (((w.alloc o1).alloc o2).alloc o3) :=
  (((Below.refl _ _).alloc (Nat.le_refl _) _).alloc (by simp) _).alloc (by simp; omega) _

theorem cell_under (W : World) (o : Obj) (a : Addr) (h : a.block < W.heap.size) : (W.alloc o).cell? a = W.cell? a := ((Below.refl _ _).alloc (Nat.le_refl _) o).cell h
theorem frozen_under (W : World) (o : Obj) (a : Addr) (h : a.block < W.heap.size) : (W.alloc o).frozen? a = W.frozen? a := ((Below.refl _ _).alloc (Nat.le_refl _) o).frozen h
theorem cell_last (W : World) (cs : Array Value) (t : TypeId) (n i : Nat) (h : n = W.heap.size) : (W.alloc (.cells cs t)).cell? ⟨n, i, none⟩ = cs[i]? := by subst h; simp
theorem frozen_last (W : World) (cs : Array Value) (t : TypeId) (n i : Nat) (h : n = W.heap.size) : (W.alloc (.cells cs t)).frozen? ⟨n, i, none⟩ = false := by subst h; simp

/-- What stands behind the three boxes of a look: the spot's two cells. -/
theorem spot_cells {w w1 : World} {o1 o2 : Obj} {t : TypeId} (h : Below (((w.alloc o1).alloc o2).alloc (.cells #[.int .i64 0, .int .i64 0] t)).heap.size (((w.alloc o1).alloc o2).alloc (.cells #[.int .i64 0, .int .i64 0] t)) w1) :
    w.heap.size + 3 ≤ w1.heap.size ∧ w1.cell? ⟨w.heap.size + 1 + 1, 0, none⟩ = some (.int .i64 0) ∧ w1.cell? ⟨w.heap.size + 1 + 1, 1, none⟩ = some (.int .i64 0) ∧
      w1.frozen? ⟨w.heap.size + 1 + 1, 0, none⟩ = false ∧ w1.frozen? ⟨w.heap.size + 1 + 1, 1, none⟩ = false := by
  refine ⟨by have := h.size; simpa using this, ?_, ?_, ?_, ?_⟩
  · rw [h.cell (p := ⟨w.heap.size + 1 + 1, 0, none⟩) (by simp), cell_last _ _ _ _ _ (by simp)]; rfl
  · rw [h.cell (p := ⟨w.heap.size + 1 + 1, 1, none⟩) (by simp), cell_last _ _ _ _ _ (by simp)]; rfl
  · rw [h.frozen (p := ⟨w.heap.size + 1 + 1, 0, none⟩) (by simp), frozen_last _ _ _ _ _ (by simp)]
  · rw [h.frozen (p := ⟨w.heap.size + 1 + 1, 1, none⟩) (by simp), frozen_last _ _ _ _ _ (by simp)]

/-- The point's box stands. -/
theorem point_cell {w w1 : World} {o1 o3 : Obj} {t : TypeId} {v : Value} (h : Below (((w.alloc o1).alloc (.cells #[v] t)).alloc o3).heap.size (((w.alloc o1).alloc (.cells #[v] t)).alloc o3) w1) :
    w.heap.size + 1 < w1.heap.size ∧ w1.cell? ⟨w.heap.size + 1, 0, none⟩ = some v := by
  refine ⟨by have := h.size; simp at this; omega, ?_⟩
  rw [h.cell (p := ⟨w.heap.size + 1, 0, none⟩) (by simp), cell_under _ _ _ (by simp), cell_last _ _ _ _ _ (by simp)]; rfl

set_option maxHeartbeats 1000000 in
theorem corners_any (ps : List CP) (p : CP) (b cap : Nat) (w : World) (hn : ps.length ≤ 16) (hlt : b < w.heap.size) (hrow : RowC w b ps) :
    Calls Try.prog 48 #[.agg #[.slice (some ⟨b, 0, none⟩) ps.length cap], .complex .f64 p.re p.im] w fun r w' =>
      r = .returned (.tuple #[.agg #[.int .i64 3, .int .i64 (cornerI ps p)], .bool (cornerI ps p != -1)]) ∧ Below w.heap.size w w' := by
  have hb0 := below3 w (.cells #[.slice (some ⟨b, 0, none⟩) ps.length cap] 60) (.cells #[.complex .f64 p.re p.im] 70) (.cells #[.int .i64 0, .int .i64 0] 68)
  have HF := hide (firstEdge_any 67 (.pointer (some ⟨w.heap.size + 1, 0, none⟩)) (fun i => eqB (edgeOf ps i).a p) ps b cap _ hn (Nat.lt_of_lt_of_le hlt hb0.size) (hrow.below hb0 hlt) ent_corner
    (fun i hi w1 hb => corner1_any (edgeOf ps i) p (w.heap.size + 1) w1 (point_cell hb).1 (point_cell hb).2))
  have Hb0 := hide hb0
  clear hb0 hrow
  generalize hG : cornerI ps p = F at *
  have HG := hide hG
  clear hG
  go_enter Try.func48, Try.ntmps48
  go_wp2_with fail
  refine HF.out.mono ?_
  rintro r w1 ⟨rfl, hb1⟩
  rw [show firstI (fun i => eqB (edgeOf ps i).a p) ps.length = F from HG.out]
  obtain ⟨hsz, hc2, hc3, hf2, hf3⟩ := spot_cells hb1
  have Hb1 := hide (below_next Hb0.out hb1)
  clear hb1
  go_wp2_with fail
  refine bodyPost_ret (v := .tuple #[.agg #[.int .i64 3, .int .i64 F], .bool (F != -1)]) (by simp [results, Try.results48, go_sem, hc2, hc3]) rfl ⟨rfl, ?_⟩
  exact (Hb1.out.setCell (by simp; omega) _).setCell (by simp; omega) _

set_option maxHeartbeats 1000000 in
theorem edges_any (ps : List CP) (p : CP) (b cap : Nat) (w : World) (hn : ps.length ≤ 16) (hlt : b < w.heap.size) (hrow : RowC w b ps) :
    Calls Try.prog 49 #[.agg #[.slice (some ⟨b, 0, none⟩) ps.length cap], .complex .f64 p.re p.im] w fun r w' =>
      r = .returned (.tuple #[.agg #[.int .i64 2, .int .i64 (onEdgeI ps p)], .bool (onEdgeI ps p != -1)]) ∧ Below w.heap.size w w' := by
  have hb0 := below3 w (.cells #[.slice (some ⟨b, 0, none⟩) ps.length cap] 60) (.cells #[.complex .f64 p.re p.im] 70) (.cells #[.int .i64 0, .int .i64 0] 68)
  have HF := hide (firstEdge_any 68 (.pointer (some ⟨w.heap.size + 1, 0, none⟩)) (fun i => holdsB (edgeOf ps i) p) ps b cap _ hn (Nat.lt_of_lt_of_le hlt hb0.size) (hrow.below hb0 hlt) ent_edge1
    (fun i hi w1 hb => edge1_any (edgeOf ps i) p (w.heap.size + 1) w1 (point_cell hb).1 (point_cell hb).2))
  have Hb0 := hide hb0
  clear hb0 hrow
  generalize hG : onEdgeI ps p = F at *
  have HG := hide hG
  clear hG
  go_enter Try.func49, Try.ntmps49
  go_wp2_with fail
  refine HF.out.mono ?_
  rintro r w1 ⟨rfl, hb1⟩
  rw [show firstI (fun i => holdsB (edgeOf ps i) p) ps.length = F from HG.out]
  obtain ⟨hsz, hc2, hc3, hf2, hf3⟩ := spot_cells hb1
  have Hb1 := hide (below_next Hb0.out hb1)
  clear hb1
  go_wp2_with fail
  refine bodyPost_ret (v := .tuple #[.agg #[.int .i64 2, .int .i64 F], .bool (F != -1)]) (by simp [results, Try.results49, go_sem, hc2, hc3]) rfl ⟨rfl, ?_⟩
  exact (Hb1.out.setCell (by simp; omega) _).setCell (by simp; omega) _

theorem within1_bd (e : CE) (p : CP) : 0 ≤ within1 e p ∧ within1 e p ≤ 1 := by unfold within1; split <;> omega

theorem sumI_01 (F : Nat → Int) (h : ∀ i, 0 ≤ F i ∧ F i ≤ 1) : ∀ n : Nat, 0 ≤ sumI F n ∧ sumI F n ≤ (n : Int)
  | 0 => by simp [sumI]
  | n + 1 => by
    have h1 := sumI_01 F h n
    have h2 := h n
    simp only [sumI]
    omega

set_option maxHeartbeats 1000000 in
theorem within_any (ps : List CP) (p : CP) (b cap : Nat) (w : World) (hn : ps.length ≤ 16) (hlt : b < w.heap.size) (hrow : RowC w b ps) :
    Calls Try.prog 50 #[.agg #[.slice (some ⟨b, 0, none⟩) ps.length cap], .complex .f64 p.re p.im] w fun r w' =>
      r = .returned (.tuple #[.agg #[.int .i64 1, .int .i64 0], .bool (crossedI ps p % 2 == 1)]) ∧ Below w.heap.size w w' := by
  have hb0 := below3 w (.cells #[.slice (some ⟨b, 0, none⟩) ps.length cap] 60) (.cells #[.complex .f64 p.re p.im] 70) (.cells #[.int .i64 0, .int .i64 0] 68)
  have HF := hide (sumEdges_gen 70 (.pointer (some ⟨w.heap.size + 1, 0, none⟩)) (fun i => within1 (edgeOf ps i) p) (fun i => by have := within1_bd (edgeOf ps i) p; omega) ps b cap _ hn (Nat.lt_of_lt_of_le hlt hb0.size) (hrow.below hb0 hlt) ent_within
    (fun i hi w1 hb => within1_any (edgeOf ps i) p (w.heap.size + 1) w1 (point_cell hb).1 (point_cell hb).2))
  have hbd : 0 ≤ crossedI ps p ∧ crossedI ps p ≤ (ps.length : Int) := sumI_01 _ (fun i => within1_bd (edgeOf ps i) p) ps.length
  have Hb0 := hide hb0
  clear hb0 hrow
  generalize hG : crossedI ps p = F at *
  have HG := hide hG
  clear hG
  go_enter Try.func50, Try.ntmps50
  go_wp2_with fail
  refine HF.out.mono ?_
  rintro r w1 ⟨rfl, hb1⟩
  rw [show sumI (fun i => within1 (edgeOf ps i) p) ps.length = F from HG.out]
  obtain ⟨hsz, hc2, hc3, hf2, hf3⟩ := spot_cells hb1
  have Hb1 := hide (below_next Hb0.out hb1)
  obtain ⟨h0, h1⟩ := hbd
  have h2 : F ≤ 16 := by omega
  have ht : F.tmod 2 = F % 2 := Int.tmod_eq_emod_of_nonneg h0
  clear hb1 h1
  go_wp2_with fail
  refine bodyPost_ret (v := .tuple #[.agg #[.int .i64 1, .int .i64 0], .bool (F % 2 == 1)]) (by simp [results, Try.results50, go_sem, hc2, hc3]) rfl ⟨rfl, ?_⟩
  exact (Hb1.out.setCell (by simp; omega) _).setCell (by simp; omega) _

end Go.Proofs.Ytlicmfhgjonmnaa
