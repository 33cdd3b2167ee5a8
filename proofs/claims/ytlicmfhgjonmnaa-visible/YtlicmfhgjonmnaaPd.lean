/- What Where answers. Own work. -/
import Derived.Test.YtlicmfhgjonmnaaPc
import Derived.Test.YtlicmfhgjonmnaaPz
import Derived.Deep.RegionHeld3
namespace Go.Proofs.Ytlicmfhgjonmnaa
open Go.RowKit
set_option linter.unusedVariables false

theorem cell_set2 {W : World} {b o1 o2 : Nat} {x1 x2 : Value} {a : Addr} (h : a.block ≠ b) : ((W.setCell ⟨b, o1, none⟩ x1).setCell ⟨b, o2, none⟩ x2).cell? a = W.cell? a := by
  rw [World.cell?_of_block (Below.heap_setCell _ _ _ a.block h), World.cell?_of_block (Below.heap_setCell _ _ _ a.block h)]

theorem bla {w w' : World} {o : Obj} (h : Below w.heap.size w w') : Below w.heap.size w (w'.alloc o) := h.alloc h.size _

set_option maxHeartbeats 1000000 in
theorem Where_long (s : ByteArray) (x y : Int) (w : World) (hs : s.size ≤ maxLen) (h : 160 < s.size) :
    Calls Try.prog 15 #[.string s, .agg #[.int .i64 x, .int .i64 y]] w fun e w' => e = .returned (.tuple #[.int .i64 0, .int .i64 0, .int .i64 1, .int .i64 0]) ∧ Below w.heap.size w w' := by
  go_enter Try.func15, Try.ntmps15
  go_wp2_with fail
  refine (readForPoint_long s x y _ hs h).mono ?_
  rintro e w1 ⟨rfl, hb⟩
  have Hb := hide (below_one hb)
  clear hb
  go_wp2_with fail
  refine bodyPost_ret (v := .tuple #[.int .i64 0, .int .i64 0, .int .i64 1, .int .i64 0]) (by simp [results, Try.results15, go_sem]) rfl ⟨rfl, ?_⟩
  exact Hb.out.alloc Hb.out.size _

set_option maxHeartbeats 1000000 in
theorem Where_text (s : ByteArray) (x y : Int) (w : World) (hs : s.size ≤ 160) (p : Nat) (h : rdAll s 16 0 [] = .inl p) :
    Calls Try.prog 15 #[.string s, .agg #[.int .i64 x, .int .i64 y]] w fun e w' => e = .returned (.tuple #[.int .i64 0, .int .i64 0, .int .i64 2, .int .i64 p]) ∧ Below w.heap.size w w' := by
  have H := hide h
  clear h
  go_enter Try.func15, Try.ntmps15
  go_wp2_with fail
  refine (readForPoint_text s x y _ hs p H.out).mono ?_
  rintro e w1 ⟨rfl, hb⟩
  have Hb := hide (below_one hb)
  clear hb
  go_wp2_with fail
  refine bodyPost_ret (v := .tuple #[.int .i64 0, .int .i64 0, .int .i64 2, .int .i64 p]) (by simp [results, Try.results15, go_sem]) rfl ⟨rfl, ?_⟩
  exact Hb.out.alloc Hb.out.size _

set_option maxHeartbeats 2000000 in
theorem Where_meet (s : ByteArray) (x y : Int) (w : World) (hs : s.size ≤ 160) (l : List (Int × Int)) (h : rdAll s 16 0 [] = .inr l) :
    Calls Try.prog 15 #[.string s, .agg #[.int .i64 x, .int .i64 y]] w fun e w' => ∃ ps : List CP, xy ps = l ∧ Below w.heap.size w w' ∧
      (firstI (clashRow ps) ps.length ≠ -1 → e = .returned (.tuple #[.int .i64 0, .int .i64 0, .int .i64 3, .int .i64 (firstI (clashRow ps) ps.length)])) ∧
      (firstI (clashRow ps) ps.length = -1 → farB x y = true → e = .returned (.tuple #[.int .i64 0, .int .i64 0, .int .i64 4, .int .i64 0])) ∧
      (firstI (clashRow ps) ps.length = -1 → farB x y = false → ∃ p : CP, (p.x = x ∧ p.y = y) ∧ e = .returned (.tuple #[.int .i64 (spotI ps p).1, .int .i64 (spotI ps p).2, .int .i64 0, .int .i64 0])) := by
  have hlen := (rdAll_len s 16 0 [] l h (by simp)).2
  have H := hide h
  clear h
  go_enter Try.func15, Try.ntmps15
  go_wp2_with fail
  refine (readForPoint_meet s x y _ hs l H.out).mono ?_
  rintro e w1 ⟨ps, hxy, hb, h1, h2, h3⟩
  have hn : ps.length ≤ 16 := by rw [← hxy, xy_length] at hlen; exact hlen
  obtain ⟨hcb, hfb⟩ := bcell hb
  have hsz : w.heap.size + 1 ≤ w1.heap.size := by have := hb.size; simpa using this
  have hp0 : w1.cell? ⟨w.heap.size, 0, none⟩ = some (.int .i64 x) := by rw [hb.cell (p := ⟨w.heap.size, 0, none⟩) (by simp)]; simp
  have hp1 : w1.cell? ⟨w.heap.size, 1, none⟩ = some (.int .i64 y) := by rw [hb.cell (p := ⟨w.heap.size, 1, none⟩) (by simp)]; simp
  have Hb := hide (below_one hb)
  have Hxy := hide hxy
  clear hb hxy hcb hfb
  generalize hF : firstI (clashRow ps) ps.length = F at *
  have HFe := hide hF
  clear hF
  by_cases hm : F = -1
  · cases hfar : farB x y
    · obtain ⟨g, cap, rfl, hg, hrow⟩ := h3 hm hfar
      have Hm := hide hm
      have Hrow := hide hrow
      clear h1 h2 h3 hm hrow
      have hne : w.heap.size ≠ w1.heap.size := by omega
      go_wp2_with fail
      have hb2 : Below w1.heap.size w1 (w1.alloc (.cells #[.slice (some ⟨g, 0, none⟩) ps.length cap] 60)) := (Below.refl _ _).alloc (Nat.le_refl _) _
      have r2 := cell_last w1 #[.slice (some ⟨g, 0, none⟩) ps.length cap] 60 w1.heap.size 0 rfl
      have hsz2 : w1.heap.size + 1 ≤ (w1.alloc (.cells #[.slice (some ⟨g, 0, none⟩) ps.length cap] 60)).heap.size := by simp
      generalize w1.alloc (.cells #[.slice (some ⟨g, 0, none⟩) ps.length cap] 60) = w2 at *
      have r0 : w2.cell? ⟨w.heap.size, 0, none⟩ = some (.int .i64 x) := by rw [hb2.cell (p := ⟨w.heap.size, 0, none⟩) (by show w.heap.size < _; omega)]; exact hp0
      have r1 : w2.cell? ⟨w.heap.size, 1, none⟩ = some (.int .i64 y) := by rw [hb2.cell (p := ⟨w.heap.size, 1, none⟩) (by show w.heap.size < _; omega)]; exact hp1
      replace r2 : w2.cell? ⟨w1.heap.size, 0, none⟩ = some (.slice (some ⟨g, 0, none⟩) ps.length cap) := r2
      have hbd := farB_false hfar
      have Hb2 := hide hb2
      have Hrow2 := hide (Hrow.out.below Hb2.out hg)
      have Hsp : Hid (∀ w', Below w2.heap.size w2 w' → Calls Try.prog 32 #[.agg #[.slice (some ⟨g, 0, none⟩) ps.length cap], .complex .f64 (floatOfInt .f64 x) (floatOfInt .f64 y)] w' fun r w'' =>
          r = .returned (.agg #[.int .i64 (spotI ps (mkCP x y hbd.1 hbd.2)).1, .int .i64 (spotI ps (mkCP x y hbd.1 hbd.2)).2]) ∧ Below w'.heap.size w' w'') := fun w' hw' =>
        spotOf_any ps (mkCP x y hbd.1 hbd.2) g cap w' hn (Nat.lt_of_lt_of_le (by omega) hw'.size) (Hrow2.out.below hw' (by omega))
      have hcp : (mkCP x y hbd.1 hbd.2).x = x ∧ (mkCP x y hbd.1 hbd.2).y = y := ⟨rfl, rfl⟩
      generalize mkCP x y hbd.1 hbd.2 = cp at Hsp hcp
      have Hcp := hide hcp
      have Hfar := hide hfar
      clear hcp hfar
      clear hb2 hp0 hp1
      have a0 : ∀ o, (w2.alloc o).cell? ⟨w.heap.size, 0, none⟩ = some (.int .i64 x) := fun o => (cell_under w2 o ⟨w.heap.size, 0, none⟩ (by show w.heap.size < _; omega)).trans r0
      have a1 : ∀ o, (w2.alloc o).cell? ⟨w.heap.size, 1, none⟩ = some (.int .i64 y) := fun o => (cell_under w2 o ⟨w.heap.size, 1, none⟩ (by show w.heap.size < _; omega)).trans r1
      have a2 : ∀ o, (w2.alloc o).cell? ⟨w1.heap.size, 0, none⟩ = some (.slice (some ⟨g, 0, none⟩) ps.length cap) := fun o => (cell_under w2 o ⟨w1.heap.size, 0, none⟩ (by show w1.heap.size < _; omega)).trans r2
      go_region_held3 (fun w' => w'.cell? ⟨w.heap.size, 0, none⟩ = some (.int .i64 x) ∧ w'.cell? ⟨w.heap.size, 1, none⟩ = some (.int .i64 y) ∧ w'.cell? ⟨w1.heap.size, 0, none⟩ = some (.slice (some ⟨g, 0, none⟩) ps.length cap)) (first | go_keep | (exact ⟨by assumption, by assumption, by assumption⟩) | (exact ⟨j0 _, j1 _, j2 _⟩) | (exact ⟨k0 _, k1 _, k2 _⟩) | (exact ⟨(cell_set2 (by show w.heap.size ≠ _; omega)).trans i30, (cell_set2 (by show w.heap.size ≠ _; omega)).trans i31, (cell_set2 (by show w1.heap.size ≠ _; omega)).trans i32⟩) | (exact ⟨a0 _, a1 _, a2 _⟩)) (first
        | (go_at_call 33; refine (asComplex_any _ _ _).mono ?_; rintro r w3 ⟨rfl, hb3⟩
           have hs3 : w2.heap.size ≤ w3.heap.size := by have := hb3.size; simp at this; omega
           try (have t3 : w2.heap.size + 1 ≤ w3.heap.size := by (have := hb3.size; simp at this; omega))
           try (have c30 : w3.cell? ⟨w2.heap.size, 0, none⟩ = some (.int .i64 0) := by rw [hb3.cell (p := ⟨w2.heap.size, 0, none⟩) (by simp)]; simp)
           try (have c31 : w3.cell? ⟨w2.heap.size, 1, none⟩ = some (.int .i64 0) := by rw [hb3.cell (p := ⟨w2.heap.size, 1, none⟩) (by simp)]; simp)
           try (have f30 : w3.frozen? ⟨w2.heap.size, 0, none⟩ = false := by rw [hb3.frozen (p := ⟨w2.heap.size, 0, none⟩) (by simp)]; simp)
           try (have f31 : w3.frozen? ⟨w2.heap.size, 1, none⟩ = false := by rw [hb3.frozen (p := ⟨w2.heap.size, 1, none⟩) (by simp)]; simp)
           have Hb3 : Hid (Below w2.heap.size w2 w3) := by
             show Below w2.heap.size w2 w3
             refine below_next ?_ hb3; (repeat (first | exact Below.refl _ _ | refine Below.drew ?_ | refine bla ?_))
           have e30 : w3.cell? ⟨w.heap.size, 0, none⟩ = some (.int .i64 x) := by rw [Hb3.out.cell (p := ⟨w.heap.size, 0, none⟩) (by show w.heap.size < _; omega)]; exact r0
           have e31 : w3.cell? ⟨w.heap.size, 1, none⟩ = some (.int .i64 y) := by rw [Hb3.out.cell (p := ⟨w.heap.size, 1, none⟩) (by show w.heap.size < _; omega)]; exact r1
           have e32 : w3.cell? ⟨w1.heap.size, 0, none⟩ = some (.slice (some ⟨g, 0, none⟩) ps.length cap) := by rw [Hb3.out.cell (p := ⟨w1.heap.size, 0, none⟩) (by show w1.heap.size < _; omega)]; exact r2
           have j0 := fun o => (cell_under w3 o ⟨w.heap.size, 0, none⟩ (by show w.heap.size < _; omega)).trans e30
           have j1 := fun o => (cell_under w3 o ⟨w.heap.size, 1, none⟩ (by show w.heap.size < _; omega)).trans e31
           have j2 := fun o => (cell_under w3 o ⟨w1.heap.size, 0, none⟩ (by show w1.heap.size < _; omega)).trans e32)
        | (go_at_call 32; refine (Hsp.out _ (by (repeat (first | refine Below.drew ?_ | refine bla ?_)); exact Hb3.out)).mono ?_; rintro r w4 ⟨rfl, hb4⟩
           have Hb4 : Hid (Below w2.heap.size w2 w4) := by
             show Below w2.heap.size w2 w4
             refine below_next ?_ hb4
             (repeat (first | refine Below.drew ?_ | refine bla ?_)); exact Hb3.out
           have i30 : w4.cell? ⟨w.heap.size, 0, none⟩ = some (.int .i64 x) := by rw [Hb4.out.cell (p := ⟨w.heap.size, 0, none⟩) (by show w.heap.size < _; omega)]; exact r0
           have i31 : w4.cell? ⟨w.heap.size, 1, none⟩ = some (.int .i64 y) := by rw [Hb4.out.cell (p := ⟨w.heap.size, 1, none⟩) (by show w.heap.size < _; omega)]; exact r1
           have i32 : w4.cell? ⟨w1.heap.size, 0, none⟩ = some (.slice (some ⟨g, 0, none⟩) ps.length cap) := by rw [Hb4.out.cell (p := ⟨w1.heap.size, 0, none⟩) (by show w1.heap.size < _; omega)]; exact r2
           have hs4 := Hb4.out.size
           have k0 := fun o => (cell_under w4 o ⟨w.heap.size, 0, none⟩ (by show w.heap.size < _; omega)).trans i30
           have k1 := fun o => (cell_under w4 o ⟨w.heap.size, 1, none⟩ (by show w.heap.size < _; omega)).trans i31
           have k2 := fun o => (cell_under w4 o ⟨w1.heap.size, 0, none⟩ (by show w1.heap.size < _; omega)).trans i32
           try (have c40 : w4.cell? ⟨w2.heap.size, 0, none⟩ = some (.int .i64 0) := by rw [hb4.cell (p := ⟨w2.heap.size, 0, none⟩) (by simp; omega)]; simp [c30])
           try (have c41 : w4.cell? ⟨w2.heap.size, 1, none⟩ = some (.int .i64 0) := by rw [hb4.cell (p := ⟨w2.heap.size, 1, none⟩) (by simp; omega)]; simp [c31])
           try (have f40 : w4.frozen? ⟨w2.heap.size, 0, none⟩ = false := by rw [hb4.frozen (p := ⟨w2.heap.size, 0, none⟩) (by simp; omega)]; simp [f30])
           try (have f41 : w4.frozen? ⟨w2.heap.size, 1, none⟩ = false := by rw [hb4.frozen (p := ⟨w2.heap.size, 1, none⟩) (by simp; omega)]; simp [f31])
           try (have c50 : w4.cell? ⟨w3.heap.size, 0, none⟩ = some (.int .i64 0) := by rw [hb4.cell (p := ⟨w3.heap.size, 0, none⟩) (by simp)]; simp)
           try (have c51 : w4.cell? ⟨w3.heap.size, 1, none⟩ = some (.int .i64 0) := by rw [hb4.cell (p := ⟨w3.heap.size, 1, none⟩) (by simp)]; simp)
           try (have f50 : w4.frozen? ⟨w3.heap.size, 0, none⟩ = false := by rw [hb4.frozen (p := ⟨w3.heap.size, 0, none⟩) (by simp)]; simp)
           try (have f51 : w4.frozen? ⟨w3.heap.size, 1, none⟩ = false := by rw [hb4.frozen (p := ⟨w3.heap.size, 1, none⟩) (by simp)]; simp)))
      all_goals (
        have Hb4' := Hb4
        clear hb3 hb4 Hb3 Hb4 j0 j1 j2 k0 k1 k2 e30 e31 e32 i30 i31 i32 a0 a1 a2
        go_wp2_with fail
        go_quiet (fail)
        go_wp2_with fail
        refine bodyPost_ret (v := .tuple #[.int .i64 (spotI ps cp).1, .int .i64 (spotI ps cp).2, .int .i64 0, .int .i64 0]) (by simp [results, Try.results15, go_sem]) rfl ?_
        refine ⟨ps, Hxy.out, ?_, fun hn => absurd (HFe.out.trans Hm.out) hn, fun _ hf => absurd (Hfar.out.symm.trans hf) (by decide), fun _ _ => ⟨cp, Hcp.out, rfl⟩⟩
        refine below_next Hb.out (below_next Hb2.out ?_)
        first
          | exact below_drewN (bla Hb4'.out) _
          | exact below_drewN ((Hb4'.out.setCell (by first | exact Nat.le_refl _ | exact hs3) _).setCell (by first | exact Nat.le_refl _ | exact hs3) _) _)
    · obtain rfl := h2 hm hfar
      have Hm := hide hm
      have Hfar := hide hfar
      clear h1 h2 h3 hm hfar
      go_wp2_with fail
      refine bodyPost_ret (v := .tuple #[.int .i64 0, .int .i64 0, .int .i64 4, .int .i64 0]) (by simp [results, Try.results15, go_sem]) rfl ?_
      exact ⟨ps, Hxy.out, Hb.out.alloc Hb.out.size _, fun hn => absurd (HFe.out.trans Hm.out) hn, fun _ _ => rfl, fun _ hf => absurd (Hfar.out.symm.trans hf) (by decide)⟩
  · obtain rfl := h1 hm
    have Hm := hide hm
    clear h1 h2 h3 hm
    go_wp2_with fail
    refine bodyPost_ret (v := .tuple #[.int .i64 0, .int .i64 0, .int .i64 3, .int .i64 F]) (by simp [results, Try.results15, go_sem]) rfl ?_
    exact ⟨ps, Hxy.out, Hb.out.alloc Hb.out.size _, fun _ => by rw [HFe.out], fun hn => absurd (HFe.out.symm.trans hn) Hm.out, fun hn => absurd (HFe.out.symm.trans hn) Hm.out⟩

end Go.Proofs.Ytlicmfhgjonmnaa
