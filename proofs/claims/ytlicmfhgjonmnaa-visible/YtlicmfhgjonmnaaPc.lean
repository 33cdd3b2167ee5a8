/- The program's places: the list of looks, and what Where answers. Own work. -/
import Derived.Test.YtlicmfhgjonmnaaPb
namespace Go.Proofs.Ytlicmfhgjonmnaa
open Go.RowKit
set_option linter.unusedVariables false

/-- What is found first. -/
def spotI (ps : List CP) (p : CP) : Int × Int :=
  if cornerI ps p = -1 then (if onEdgeI ps p = -1 then (if crossedI ps p % 2 = 1 then (1, 0) else (0, 0)) else (2, onEdgeI ps p)) else (3, cornerI ps p)

theorem ent_c0 (args : Array Value) (w : World) : (callFunc 48 args).run Try.prog w = .ok (.enter 48 args) w := enters_of Try.func48 (by kernel_rfl) rfl args w
theorem ent_c1 (args : Array Value) (w : World) : (callFunc 49 args).run Try.prog w = .ok (.enter 49 args) w := enters_of Try.func49 (by kernel_rfl) rfl args w
theorem ent_c2 (args : Array Value) (w : World) : (callFunc 50 args).run Try.prog w = .ok (.enter 50 args) w := enters_of Try.func50 (by kernel_rfl) rfl args w

/-- The world behind the list of looks. -/
def lookW (w : World) (v : Value) : World := (((w.alloc (.cells #[v] 60)).alloc (.cells #[.int .i64 0, .int .i64 0] 68)).alloc (.cells #[.func (.func 48) #[] #[], .func (.func 49) #[] #[], .func (.func 50) #[] #[]] 91))

structure LookAt (w : World) (v : Value) (wr : World) : Prop where
  low : Below w.heap.size w wr
  size : w.heap.size + 3 ≤ wr.heap.size
  box : wr.cell? ⟨w.heap.size, 0, none⟩ = some v
  s0 : wr.cell? ⟨w.heap.size + 1, 0, none⟩ = some (.int .i64 0)
  s1 : wr.cell? ⟨w.heap.size + 1, 1, none⟩ = some (.int .i64 0)
  z0 : wr.frozen? ⟨w.heap.size + 1, 0, none⟩ = false
  z1 : wr.frozen? ⟨w.heap.size + 1, 1, none⟩ = false
  l0 : wr.cell? ⟨w.heap.size + 1 + 1, 0, none⟩ = some (.func (.func 48) #[] #[])
  l1 : wr.cell? ⟨w.heap.size + 1 + 1, 1, none⟩ = some (.func (.func 49) #[] #[])
  l2 : wr.cell? ⟨w.heap.size + 1 + 1, 2, none⟩ = some (.func (.func 50) #[] #[])

theorem lookAt_of {w wr : World} {v : Value} (h : Below (lookW w v).heap.size (lookW w v) wr) : LookAt w v wr := by
  unfold lookW at h
  have h0 := (below3 w (.cells #[v] 60) (.cells #[.int .i64 0, .int .i64 0] 68) (.cells #[.func (.func 48) #[] #[], .func (.func 49) #[] #[], .func (.func 50) #[] #[]] 91))
  refine ⟨below_next h0 h, by have := h.size; simpa using this, ?_, ?_, ?_, ?_, ?_, ?_, ?_, ?_⟩
  · rw [h.cell (p := ⟨w.heap.size, 0, none⟩) (by simp; omega), cell_under _ _ _ (by simp; omega), cell_under _ _ _ (by simp), cell_last _ _ _ _ _ rfl]; rfl
  · rw [h.cell (p := ⟨w.heap.size + 1, 0, none⟩) (by simp), cell_under _ _ _ (by simp), cell_last _ _ _ _ _ (by simp)]; rfl
  · rw [h.cell (p := ⟨w.heap.size + 1, 1, none⟩) (by simp), cell_under _ _ _ (by simp), cell_last _ _ _ _ _ (by simp)]; rfl
  · rw [h.frozen (p := ⟨w.heap.size + 1, 0, none⟩) (by simp), frozen_under _ _ _ (by simp), frozen_last _ _ _ _ _ (by simp)]
  · rw [h.frozen (p := ⟨w.heap.size + 1, 1, none⟩) (by simp), frozen_under _ _ _ (by simp), frozen_last _ _ _ _ _ (by simp)]
  · rw [h.cell (p := ⟨w.heap.size + 1 + 1, 0, none⟩) (by simp), cell_last _ _ _ _ _ (by simp)]; rfl
  · rw [h.cell (p := ⟨w.heap.size + 1 + 1, 1, none⟩) (by simp), cell_last _ _ _ _ _ (by simp)]; rfl
  · rw [h.cell (p := ⟨w.heap.size + 1 + 1, 2, none⟩) (by simp), cell_last _ _ _ _ _ (by simp)]; rfl

set_option maxHeartbeats 2000000 in
theorem spotOf_any (ps : List CP) (p : CP) (b cap : Nat) (w : World) (hn : ps.length ≤ 16) (hlt : b < w.heap.size) (hrow : RowC w b ps) :
    Calls Try.prog 32 #[.agg #[.slice (some ⟨b, 0, none⟩) ps.length cap], .complex .f64 p.re p.im] w fun r w' =>
      r = .returned (.agg #[.int .i64 (spotI ps p).1, .int .i64 (spotI ps p).2]) ∧ Below w.heap.size w w' := by
  have Hrow := hide hrow
  clear hrow
  have h0 := ent_c0
  have h1 := ent_c1
  have h2 := ent_c2
  go_enter Try.func32, Try.ntmps32
  go_wp2_with fail
  go_loopw [13] (fun i wr => ∃ k : Nat, k ≤ 3 ∧ i = .int .i64 k ∧ (0 < k → cornerI ps p = -1) ∧ (1 < k → onEdgeI ps p = -1) ∧ (2 < k → ¬ crossedI ps p % 2 = 1) ∧ Below (lookW w (.slice (some ⟨b, 0, none⟩) ps.length cap)).heap.size (lookW w (.slice (some ⟨b, 0, none⟩) ps.length cap)) wr) (fun i _ => 3 - (intOf i).toNat)
  case atStart => exact ⟨0, Nat.zero_le _, rfl, fun h => absurd h (by omega), fun h => absurd h (by omega), fun h => absurd h (by omega), Below.refl _ _⟩
  case round =>
    obtain ⟨k, hk, rfl, hA, hB, hC, hbel⟩ := hrel
    have hL := lookAt_of hbel
    obtain ⟨hlow, hsz, hbox, hs0, hs1, hz0, hz1, hl0, hl1, hl2⟩ := hL
    have hszL : (lookW w (.slice (some ⟨b, 0, none⟩) ps.length cap)).heap.size = w.heap.size + 3 := by simp [lookW]
    have Hbel := hide hbel
    have Hlow := hide hlow
    have HszL := hide hszL
    have HA := hide hA
    have HB := hide hB
    have HC := hide hC
    clear hbel hlow hA hB hC hszL
    obtain rfl | rfl | rfl | rfl : k = 0 ∨ k = 1 ∨ k = 2 ∨ k = 3 := by omega
    · have Hc := hide (corners_any ps p b cap wr hn (by omega) (Hrow.out.below Hlow.out hlt))
      generalize hG : cornerI ps p = F at *
      have HG := hide hG
      clear hG
      by_cases hF : F = -1
      · have g : (F != -1) = false := by rw [hF]; rfl
        have HF := hide hF
        clear hF
        go_wp2_with fail
        refine Hc.out.mono ?_
        rintro r w1 ⟨rfl, hb1⟩
        rw [g]
        have hb2 := below_next Hbel.out hb1
        have Hb2 := hide hb2
        clear hb1 hb2
        go_wp2_with fail
        go_roundw
        case rel => exact ⟨1, by omega, by go_num, fun _ => HF.out, fun h => absurd h (by omega), fun h => absurd h (by omega), Hb2.out.alloc Hb2.out.size _⟩
        case measure => simp [intOf]
      · have g : (F != -1) = true := by rw [bne_iff_ne]; exact hF
        have HF := hide hF
        clear hF
        go_wp2_with fail
        refine Hc.out.mono ?_
        rintro r w1 ⟨rfl, hb1⟩
        rw [g]
        have hb2 := below_next Hbel.out hb1
        obtain ⟨hlow1, hsz1, hbox1, hs01, hs11, hz01, hz11, _, _, _⟩ := lookAt_of hb2
        have Hlow1 := hide hlow1
        have q1 : ∀ o, (w1.alloc o).cell? ⟨w.heap.size + 1, 0, none⟩ = some (.int .i64 0) := fun o => (cell_under w1 o ⟨w.heap.size + 1, 0, none⟩ (by show w.heap.size + 1 < _; omega)).trans hs01
        have q2 : ∀ o, (w1.alloc o).cell? ⟨w.heap.size + 1, 1, none⟩ = some (.int .i64 0) := fun o => (cell_under w1 o ⟨w.heap.size + 1, 1, none⟩ (by show w.heap.size + 1 < _; omega)).trans hs11
        have q3 : ∀ o, (w1.alloc o).frozen? ⟨w.heap.size + 1, 0, none⟩ = false := fun o => (frozen_under w1 o ⟨w.heap.size + 1, 0, none⟩ (by show w.heap.size + 1 < _; omega)).trans hz01
        have q4 : ∀ o, (w1.alloc o).frozen? ⟨w.heap.size + 1, 1, none⟩ = false := fun o => (frozen_under w1 o ⟨w.heap.size + 1, 1, none⟩ (by show w.heap.size + 1 < _; omega)).trans hz11
        clear hb1 hb2 hlow1
        go_wp2_with fail
        refine bodyPost_ret (v := .agg #[.int .i64 3, .int .i64 F]) (by simp [results, Try.results32, go_sem, q1, q2]) rfl ⟨?_, ?_⟩
        · rw [show spotI ps p = (3, F) by unfold spotI; rw [HG.out, if_neg HF.out]]
        · exact ((Hlow1.out.alloc Hlow1.out.size _).setCell (by show _ ≤ w.heap.size + 1; omega) _).setCell (by show _ ≤ w.heap.size + 1; omega) _
    · have Hc := hide (edges_any ps p b cap wr hn (by omega) (Hrow.out.below Hlow.out hlt))
      generalize hG : onEdgeI ps p = F at *
      have HG := hide hG
      clear hG
      by_cases hF : F = -1
      · have g : (F != -1) = false := by rw [hF]; rfl
        have HF := hide hF
        clear hF
        go_wp2_with fail
        refine Hc.out.mono ?_
        rintro r w1 ⟨rfl, hb1⟩
        rw [g]
        have hb2 := below_next Hbel.out hb1
        have Hb2 := hide hb2
        clear hb1 hb2
        go_wp2_with fail
        go_roundw
        case rel => exact ⟨2, by omega, by go_num, fun _ => HA.out (by omega), fun _ => HF.out, fun h => absurd h (by omega), Hb2.out.alloc Hb2.out.size _⟩
        case measure => simp [intOf]
      · have g : (F != -1) = true := by rw [bne_iff_ne]; exact hF
        have HF := hide hF
        clear hF
        go_wp2_with fail
        refine Hc.out.mono ?_
        rintro r w1 ⟨rfl, hb1⟩
        rw [g]
        have hb2 := below_next Hbel.out hb1
        obtain ⟨hlow1, hsz1, hbox1, hs01, hs11, hz01, hz11, _, _, _⟩ := lookAt_of hb2
        have Hlow1 := hide hlow1
        have q1 : ∀ o, (w1.alloc o).cell? ⟨w.heap.size + 1, 0, none⟩ = some (.int .i64 0) := fun o => (cell_under w1 o ⟨w.heap.size + 1, 0, none⟩ (by show w.heap.size + 1 < _; omega)).trans hs01
        have q2 : ∀ o, (w1.alloc o).cell? ⟨w.heap.size + 1, 1, none⟩ = some (.int .i64 0) := fun o => (cell_under w1 o ⟨w.heap.size + 1, 1, none⟩ (by show w.heap.size + 1 < _; omega)).trans hs11
        have q3 : ∀ o, (w1.alloc o).frozen? ⟨w.heap.size + 1, 0, none⟩ = false := fun o => (frozen_under w1 o ⟨w.heap.size + 1, 0, none⟩ (by show w.heap.size + 1 < _; omega)).trans hz01
        have q4 : ∀ o, (w1.alloc o).frozen? ⟨w.heap.size + 1, 1, none⟩ = false := fun o => (frozen_under w1 o ⟨w.heap.size + 1, 1, none⟩ (by show w.heap.size + 1 < _; omega)).trans hz11
        clear hb1 hb2 hlow1
        go_wp2_with fail
        refine bodyPost_ret (v := .agg #[.int .i64 2, .int .i64 F]) (by simp [results, Try.results32, go_sem, q1, q2]) rfl ⟨?_, ?_⟩
        · rw [show spotI ps p = (2, F) by unfold spotI; rw [if_pos (HA.out (by omega)), HG.out, if_neg HF.out]]
        · exact ((Hlow1.out.alloc Hlow1.out.size _).setCell (by show _ ≤ w.heap.size + 1; omega) _).setCell (by show _ ≤ w.heap.size + 1; omega) _
    · have Hc := hide (within_any ps p b cap wr hn (by omega) (Hrow.out.below Hlow.out hlt))
      generalize hG : crossedI ps p = F at *
      have HG := hide hG
      clear hG
      by_cases hF : ¬ F % 2 = 1
      · have g : (F % 2 == 1) = false := by rw [beq_eq_false_iff_ne]; exact hF
        have HF := hide hF
        clear hF
        go_wp2_with fail
        refine Hc.out.mono ?_
        rintro r w1 ⟨rfl, hb1⟩
        rw [g]
        have hb2 := below_next Hbel.out hb1
        have Hb2 := hide hb2
        clear hb1 hb2
        go_wp2_with fail
        go_roundw
        case rel => exact ⟨3, by omega, by go_num, fun _ => HA.out (by omega), fun _ => HB.out (by omega), fun _ => HF.out, Hb2.out.alloc Hb2.out.size _⟩
        case measure => simp [intOf]
      · have g : (F % 2 == 1) = true := by rw [beq_iff_eq]; exact Decidable.not_not.1 hF
        have HF := hide hF
        clear hF
        go_wp2_with fail
        refine Hc.out.mono ?_
        rintro r w1 ⟨rfl, hb1⟩
        rw [g]
        have hb2 := below_next Hbel.out hb1
        obtain ⟨hlow1, hsz1, hbox1, hs01, hs11, hz01, hz11, _, _, _⟩ := lookAt_of hb2
        have Hlow1 := hide hlow1
        have q1 : ∀ o, (w1.alloc o).cell? ⟨w.heap.size + 1, 0, none⟩ = some (.int .i64 0) := fun o => (cell_under w1 o ⟨w.heap.size + 1, 0, none⟩ (by show w.heap.size + 1 < _; omega)).trans hs01
        have q2 : ∀ o, (w1.alloc o).cell? ⟨w.heap.size + 1, 1, none⟩ = some (.int .i64 0) := fun o => (cell_under w1 o ⟨w.heap.size + 1, 1, none⟩ (by show w.heap.size + 1 < _; omega)).trans hs11
        have q3 : ∀ o, (w1.alloc o).frozen? ⟨w.heap.size + 1, 0, none⟩ = false := fun o => (frozen_under w1 o ⟨w.heap.size + 1, 0, none⟩ (by show w.heap.size + 1 < _; omega)).trans hz01
        have q4 : ∀ o, (w1.alloc o).frozen? ⟨w.heap.size + 1, 1, none⟩ = false := fun o => (frozen_under w1 o ⟨w.heap.size + 1, 1, none⟩ (by show w.heap.size + 1 < _; omega)).trans hz11
        clear hb1 hb2 hlow1
        go_wp2_with fail
        refine bodyPost_ret (v := .agg #[.int .i64 1, .int .i64 0]) (by simp [results, Try.results32, go_sem, q1, q2]) rfl ⟨?_, ?_⟩
        · rw [show spotI ps p = (1, 0) by unfold spotI; rw [if_pos (HA.out (by omega)), if_pos (HB.out (by omega)), HG.out, if_pos (Decidable.not_not.1 HF.out)]]
        · exact ((Hlow1.out.alloc Hlow1.out.size _).setCell (by show _ ≤ w.heap.size + 1; omega) _).setCell (by show _ ≤ w.heap.size + 1; omega) _
    · have hs : spotI ps p = (0, 0) := by unfold spotI; rw [if_pos (HA.out (by omega)), if_pos (HB.out (by omega)), if_neg (HC.out (by omega))]
      have Hs := hide hs
      clear hs
      go_wp2_with fail
      refine bodyPost_ret (v := .agg #[.int .i64 0, .int .i64 0]) (by simp [results, Try.results32, go_sem, hs0, hs1]) rfl ⟨?_, ?_⟩
      · rw [Hs.out]
      · exact (Hlow.out.setCell (by show _ ≤ w.heap.size + 1; omega) _).setCell (by show _ ≤ w.heap.size + 1; omega) _

end Go.Proofs.Ytlicmfhgjonmnaa
