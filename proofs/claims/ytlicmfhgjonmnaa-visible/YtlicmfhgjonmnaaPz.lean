/- Where every call about one point begins. Own work. -/
import Derived.Test.YtlicmfhgjonmnaaPa
import Derived.Test.YtlicmfhgjonmnaaPb
namespace Go.Proofs.Ytlicmfhgjonmnaa
open Go.RowKit
set_option linter.unusedVariables false

theorem under_cell {W : World} {b i : Nat} {v : Value} (h : b < W.heap.size) (hc : W.cell? ⟨b, i, none⟩ = some v) : ∀ o, (W.alloc o).cell? ⟨b, i, none⟩ = some v := fun o => (cell_under W o ⟨b, i, none⟩ h).trans hc
theorem under_frozen {W : World} {b i : Nat} (h : b < W.heap.size) (hc : W.frozen? ⟨b, i, none⟩ = false) : ∀ o, (W.alloc o).frozen? ⟨b, i, none⟩ = false := fun o => (frozen_under W o ⟨b, i, none⟩ h).trans hc

set_option maxHeartbeats 1000000 in
theorem readForPoint_long (s : ByteArray) (x y : Int) (w : World) (hs : s.size ≤ maxLen) (h : 160 < s.size) :
    Calls Try.prog 31 #[.string s, .agg #[.int .i64 x, .int .i64 y]] w fun e w' => e = .returned (.tuple #[.agg #[.slice none 0 0], .int .i64 1, .int .i64 0]) ∧ Below w.heap.size w w' := by
  go_enter Try.func31, Try.ntmps31
  go_wp2_with fail
  refine (readPolygon_long s _ hs h).mono ?_
  rintro e w1 ⟨rfl, hb⟩
  have hsz : w.heap.size + 2 ≤ w1.heap.size := by have := hb.size; simp at this; omega
  have hc : w1.cell? ⟨w.heap.size + 1, 0, none⟩ = some (.slice none 0 0) := by rw [hb.cell (p := ⟨w.heap.size + 1, 0, none⟩) (by simp)]; simp
  have hf : w1.frozen? ⟨w.heap.size + 1, 0, none⟩ = false := by rw [hb.frozen (p := ⟨w.heap.size + 1, 0, none⟩) (by simp)]; simp
  have hne : w.heap.size + 1 ≠ w1.heap.size := by omega
  have qc := under_cell (by omega) hc
  have qf := under_frozen (by omega) hf
  have Hb := hide (below_two hb)
  clear hb
  go_wp2_with fail
  refine bodyPost_ret (v := .tuple #[.agg #[.slice none 0 0], .int .i64 1, .int .i64 0]) (by simp [results, Try.results31, go_sem, qc]) rfl ⟨rfl, ?_⟩
  exact (Hb.out.alloc Hb.out.size _).setCell (by simp) _

set_option maxHeartbeats 1000000 in
theorem readForPoint_text (s : ByteArray) (x y : Int) (w : World) (hs : s.size ≤ 160) (p : Nat) (h : rdAll s 16 0 [] = .inl p) :
    Calls Try.prog 31 #[.string s, .agg #[.int .i64 x, .int .i64 y]] w fun e w' => e = .returned (.tuple #[.agg #[.slice none 0 0], .int .i64 2, .int .i64 p]) ∧ Below w.heap.size w w' := by
  have H := hide h
  clear h
  go_enter Try.func31, Try.ntmps31
  go_wp2_with fail
  refine (readPolygon_text s _ hs p H.out).mono ?_
  rintro e w1 ⟨rfl, hb⟩
  have hsz : w.heap.size + 2 ≤ w1.heap.size := by have := hb.size; simp at this; omega
  have hc : w1.cell? ⟨w.heap.size + 1, 0, none⟩ = some (.slice none 0 0) := by rw [hb.cell (p := ⟨w.heap.size + 1, 0, none⟩) (by simp)]; simp
  have hf : w1.frozen? ⟨w.heap.size + 1, 0, none⟩ = false := by rw [hb.frozen (p := ⟨w.heap.size + 1, 0, none⟩) (by simp)]; simp
  have hne : w.heap.size + 1 ≠ w1.heap.size := by omega
  have qc := under_cell (by omega) hc
  have qf := under_frozen (by omega) hf
  have Hb := hide (below_two hb)
  clear hb
  go_wp2_with fail
  refine bodyPost_ret (v := .tuple #[.agg #[.slice none 0 0], .int .i64 2, .int .i64 p]) (by simp [results, Try.results31, go_sem, qc]) rfl ⟨rfl, ?_⟩
  exact (Hb.out.alloc Hb.out.size _).setCell (by simp) _

set_option maxHeartbeats 2000000 in
theorem readForPoint_meet (s : ByteArray) (x y : Int) (w : World) (hs : s.size ≤ 160) (l : List (Int × Int)) (h : rdAll s 16 0 [] = .inr l) :
    Calls Try.prog 31 #[.string s, .agg #[.int .i64 x, .int .i64 y]] w fun e w' => ∃ ps : List CP, xy ps = l ∧ Below w.heap.size w w' ∧
      (firstI (clashRow ps) ps.length ≠ -1 → e = .returned (.tuple #[.agg #[.slice none 0 0], .int .i64 3, .int .i64 (firstI (clashRow ps) ps.length)])) ∧
      (firstI (clashRow ps) ps.length = -1 → farB x y = true → e = .returned (.tuple #[.agg #[.slice none 0 0], .int .i64 4, .int .i64 0])) ∧
      (firstI (clashRow ps) ps.length = -1 → farB x y = false → ∃ g cap, e = .returned (.tuple #[.agg #[.slice (some ⟨g, 0, none⟩) ps.length cap], .int .i64 0, .int .i64 0]) ∧ g < w'.heap.size ∧ RowC w' g ps) := by
  have H := hide h
  clear h
  go_enter Try.func31, Try.ntmps31
  go_wp2_with fail
  refine (readPolygon_meet s _ hs l H.out).mono ?_
  rintro e w1 ⟨ps, hxy, hb, h1, h2⟩
  have hsz : w.heap.size + 2 ≤ w1.heap.size := by have := hb.size; simp at this; omega
  have hc : w1.cell? ⟨w.heap.size + 1, 0, none⟩ = some (.slice none 0 0) := by rw [hb.cell (p := ⟨w.heap.size + 1, 0, none⟩) (by simp)]; simp
  have hf : w1.frozen? ⟨w.heap.size + 1, 0, none⟩ = false := by rw [hb.frozen (p := ⟨w.heap.size + 1, 0, none⟩) (by simp)]; simp
  have hp0 : w1.cell? ⟨w.heap.size, 0, none⟩ = some (.int .i64 x) := by rw [hb.cell (p := ⟨w.heap.size, 0, none⟩) (by simp; omega)]; simp
  have hp1 : w1.cell? ⟨w.heap.size, 1, none⟩ = some (.int .i64 y) := by rw [hb.cell (p := ⟨w.heap.size, 1, none⟩) (by simp; omega)]; simp
  have hne : w.heap.size + 1 ≠ w1.heap.size := by omega
  have qc := under_cell (by omega) hc
  have qf := under_frozen (by omega) hf
  have hne0 : w.heap.size ≠ w1.heap.size := by omega
  have qp0 := under_cell (by omega) hp0
  have qp1 := under_cell (by omega) hp1
  have Hb := hide (below_two hb)
  have Hxy := hide hxy
  clear hb hxy
  generalize hF : firstI (clashRow ps) ps.length = F at *
  have HFe := hide hF
  clear hF
  by_cases hm : F = -1
  · obtain ⟨g, cap, rfl, hg, hrow⟩ := h2 hm
    have Hm := hide hm
    have Hrow := hide hrow
    clear h1 h2 hm hrow
    go_wp2_with fail
    refine (tooFar_any x y _).mono ?_
    rintro e w2 ⟨rfl, hb2⟩
    have hsz2 : w1.heap.size + 1 ≤ w2.heap.size := by have := hb2.size; simpa using this
    have d0 : w2.cell? ⟨w.heap.size + 1, 0, none⟩ = some (.slice none 0 0) := by rw [hb2.cell (p := ⟨w.heap.size + 1, 0, none⟩) (by simp; omega)]; exact (cell_under w1 _ ⟨w.heap.size + 1, 0, none⟩ (by show w.heap.size + 1 < _; omega)).trans hc
    have f0 : w2.frozen? ⟨w.heap.size + 1, 0, none⟩ = false := by rw [hb2.frozen (p := ⟨w.heap.size + 1, 0, none⟩) (by simp; omega)]; exact (frozen_under w1 _ ⟨w.heap.size + 1, 0, none⟩ (by show w.heap.size + 1 < _; omega)).trans hf
    have d1 : w2.cell? ⟨w1.heap.size, 0, none⟩ = some (.slice (some ⟨g, 0, none⟩) ps.length cap) := by rw [hb2.cell (p := ⟨w1.heap.size, 0, none⟩) (by simp), cell_last _ _ _ _ _ rfl]; rfl
    have Hb2 := hide (below_one hb2)
    have Hall : Hid (Below w.heap.size w w2) := below_next Hb.out Hb2.out
    clear hb2
    have Hrow2 : Hid (RowC w2 g ps) := Hrow.out.below Hb2.out hg
    cases hfar : farB x y
    · have Hfar := hide hfar
      clear hfar
      go_wp2_with fail
      refine bodyPost_ret (v := .tuple #[.agg #[.slice (some ⟨g, 0, none⟩) ps.length cap], .int .i64 0, .int .i64 0]) (by simp [results, Try.results31, go_sem, d0]) rfl ?_
      refine ⟨ps, Hxy.out, Hall.out.setCell (by show w.heap.size ≤ w.heap.size + 1; omega) _, fun hn => absurd (HFe.out.trans Hm.out) hn, fun _ hf => absurd (Hfar.out.symm.trans hf) (by decide), fun _ _ => ⟨g, cap, rfl, by simp [World.setCell]; omega, fun i hi => ?_⟩⟩
      by_cases hgn : g = w.heap.size + 1
      · exfalso
        have := Hrow2.out i hi
        rw [hgn] at this
        by_cases h0 : i = 0
        · subst h0; rw [d0] at this; cases this
        · have h0' := Hrow2.out 0 (by omega)
          rw [hgn, d0] at h0'
          cases h0'
      · rw [World.cell?_of_block (w := w2) (a := ⟨g, i, none⟩) (Below.heap_setCell w2 _ _ g hgn)]
        exact Hrow2.out i hi
    · have Hfar := hide hfar
      clear hfar
      go_wp2_with fail
      refine bodyPost_ret (v := .tuple #[.agg #[.slice none 0 0], .int .i64 4, .int .i64 0]) (by simp [results, Try.results31, go_sem, d0]) rfl ?_
      exact ⟨ps, Hxy.out, Hall.out.setCell (by show w.heap.size ≤ w.heap.size + 1; omega) _, fun hn => absurd (HFe.out.trans Hm.out) hn, fun _ _ => rfl, fun _ hf => absurd (Hfar.out.symm.trans hf) (by decide)⟩
  · obtain rfl := h1 hm
    have Hm := hide hm
    clear h1 h2 hm
    go_wp2_with fail
    refine bodyPost_ret (v := .tuple #[.agg #[.slice none 0 0], .int .i64 3, .int .i64 F]) (by simp [results, Try.results31, go_sem, qc]) rfl ?_
    exact ⟨ps, Hxy.out, (Hb.out.alloc Hb.out.size _).setCell (by show w.heap.size ≤ w.heap.size + 1; omega) _, fun _ => by rw [HFe.out], fun hn => absurd (HFe.out.symm.trans hn) Hm.out, fun hn => absurd (HFe.out.symm.trans hn) Hm.out⟩

end Go.Proofs.Ytlicmfhgjonmnaa
