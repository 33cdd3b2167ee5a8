/- The document's Where. Own work. -/
import Derived.Test.YtlicmfhgjonmnaaPf
namespace Go.Proofs.Ytlicmfhgjonmnaa
open Go.RowKit
set_option linter.unusedVariables false

set_option maxHeartbeats 1000000 in
theorem rWhere_long (s : ByteArray) (x y : Int) (w : World) (hs : s.size ≤ maxLen) (h : 160 < s.size) :
    Calls Try.prog 16 #[.string s, .agg #[.int .i64 x, .int .i64 y]] w fun e w' => e = .returned (.tuple #[.int .i64 0, .int .i64 0, .int .i64 1, .int .i64 0]) ∧ Below w.heap.size w w' := by
  go_enter Try.func16, Try.ntmps16
  go_wp2_with fail
  refine (rCheck_long s _ hs h).mono ?_
  rintro e w1 ⟨rfl, hb⟩
  have Hb := hide (below_one hb)
  clear hb
  go_wp2_with fail
  refine bodyPost_ret (v := .tuple #[.int .i64 0, .int .i64 0, .int .i64 1, .int .i64 0]) (by simp [results, Try.results16, go_sem]) rfl ⟨rfl, ?_⟩
  exact Hb.out

set_option maxHeartbeats 1000000 in
theorem rWhere_text (s : ByteArray) (x y : Int) (w : World) (hs : s.size ≤ 160) (p : Nat) (h : rdAll s 16 0 [] = .inl p) :
    Calls Try.prog 16 #[.string s, .agg #[.int .i64 x, .int .i64 y]] w fun e w' => e = .returned (.tuple #[.int .i64 0, .int .i64 0, .int .i64 2, .int .i64 p]) ∧ Below w.heap.size w w' := by
  have H := hide h
  clear h
  go_enter Try.func16, Try.ntmps16
  go_wp2_with fail
  refine (rCheck_text s _ hs p H.out).mono ?_
  rintro e w1 ⟨rfl, hb⟩
  have Hb := hide (below_one hb)
  clear hb
  go_wp2_with fail
  refine bodyPost_ret (v := .tuple #[.int .i64 0, .int .i64 0, .int .i64 2, .int .i64 p]) (by simp [results, Try.results16, go_sem]) rfl ⟨rfl, ?_⟩
  exact Hb.out

set_option maxHeartbeats 1000000 in
theorem rWhere_meet (s : ByteArray) (x y : Int) (w : World) (hs : s.size ≤ 160) (ps : List CP) (h : rdAll s 16 0 [] = .inr (xy ps)) :
    Calls Try.prog 16 #[.string s, .agg #[.int .i64 x, .int .i64 y]] w fun e w' => Below w.heap.size w w' ∧
      (firstI (badRow (xy ps)) (xy ps).length ≠ -1 → e = .returned (.tuple #[.int .i64 0, .int .i64 0, .int .i64 3, .int .i64 (firstI (badRow (xy ps)) (xy ps).length)])) ∧
      (firstI (badRow (xy ps)) (xy ps).length = -1 → farB x y = true → e = .returned (.tuple #[.int .i64 0, .int .i64 0, .int .i64 4, .int .i64 0])) ∧
      (firstI (badRow (xy ps)) (xy ps).length = -1 → farB x y = false → e = .returned (.tuple #[.int .i64 (placeI (xy ps) (x, y)).1, .int .i64 (placeI (xy ps) (x, y)).2, .int .i64 0, .int .i64 0])) := by
  have hlen := (rdAll_len s 16 0 [] _ h (by simp)).2
  have H := hide h
  clear h
  go_enter Try.func16, Try.ntmps16
  go_wp2_with fail
  refine (rCheck_meet s _ hs _ H.out (fun i => by rw [pAt_xy]; exact bd_P _)).mono ?_
  rintro e w1 ⟨hb, h1, h2⟩
  have hsz : w.heap.size + 1 ≤ w1.heap.size := by have := hb.size; simpa using this
  have hp0 : w1.cell? ⟨w.heap.size, 0, none⟩ = some (.int .i64 x) := by rw [hb.cell (p := ⟨w.heap.size, 0, none⟩) (by simp)]; simp
  have hp1 : w1.cell? ⟨w.heap.size, 1, none⟩ = some (.int .i64 y) := by rw [hb.cell (p := ⟨w.heap.size, 1, none⟩) (by simp)]; simp
  have Hb := hide (below_one hb)
  clear hb
  generalize hF : firstI (badRow (xy ps)) (xy ps).length = F at *
  have HFe := hide hF
  clear hF
  by_cases hm : F = -1
  · obtain rfl := h2 hm
    have Hm := hide hm
    clear h1 h2 hm
    go_wp2_with fail
    refine (Fits_any x y _).mono ?_
    rintro e w2 ⟨rfl, hb2⟩
    have hsz2 : w1.heap.size ≤ w2.heap.size := hb2.size
    have r0 : w2.cell? ⟨w.heap.size, 0, none⟩ = some (.int .i64 x) := by rw [hb2.cell (p := ⟨w.heap.size, 0, none⟩) hsz]; exact hp0
    have r1 : w2.cell? ⟨w.heap.size, 1, none⟩ = some (.int .i64 y) := by rw [hb2.cell (p := ⟨w.heap.size, 1, none⟩) hsz]; exact hp1
    have Hb2 := hide (below_next Hb.out hb2)
    clear hb2
    cases hfar : farB x y
    · have hbd := farB_false hfar
      have Hbd : Hid (Bd (x, y)) := ⟨by show _ ≤ x; omega, by show x ≤ _; omega, by show _ ≤ y; omega, by show y ≤ _; omega⟩
      have Hfar := hide hfar
      clear hfar hbd
      rw [show (!false) = true from rfl]
      go_wp2_with fail
      refine (Read_any s _ hs).mono ?_
      rintro e w3 ⟨v2, v3, rfl, hb3, hr⟩
      rw [H.out] at hr
      obtain ⟨g, cap, rfl, rfl, hg, hrow⟩ := hr
      have s0 : w3.cell? ⟨w.heap.size, 0, none⟩ = some (.int .i64 x) := by rw [hb3.cell (p := ⟨w.heap.size, 0, none⟩) (Nat.le_trans hsz hsz2)]; exact r0
      have s1 : w3.cell? ⟨w.heap.size, 1, none⟩ = some (.int .i64 y) := by rw [hb3.cell (p := ⟨w.heap.size, 1, none⟩) (Nat.le_trans hsz hsz2)]; exact r1
      have HT := hide (Place_any (xy ps) hlen (fun i => by rw [pAt_xy]; exact bd_P _) x y Hbd.out g cap w3 hg hrow)
      have Hb3 := hide (below_next Hb2.out hb3)
      clear hb3 hrow
      go_wp2_with fail
      refine HT.out.mono ?_
      rintro e w4 ⟨rfl, hb4⟩
      have Hb4 := hide hb4
      clear hb4
      go_wp2_with fail
      refine bodyPost_ret (v := .tuple #[.int .i64 (placeI (xy ps) (x, y)).1, .int .i64 (placeI (xy ps) (x, y)).2, .int .i64 0, .int .i64 0]) (by simp [results, Try.results16, go_sem]) rfl ?_
      exact ⟨below_next Hb3.out Hb4.out, fun hn => absurd (HFe.out.trans Hm.out) hn, fun _ hf => absurd (Hfar.out.symm.trans hf) (by decide), fun _ _ => rfl⟩
    · have Hfar := hide hfar
      clear hfar
      rw [show (!true) = false from rfl]
      go_wp2_with fail
      refine bodyPost_ret (v := .tuple #[.int .i64 0, .int .i64 0, .int .i64 4, .int .i64 0]) (by simp [results, Try.results16, go_sem]) rfl ?_
      exact ⟨Hb2.out, fun hn => absurd (HFe.out.trans Hm.out) hn, fun _ _ => rfl, fun _ hf => absurd (Hfar.out.symm.trans hf) (by decide)⟩
  · obtain rfl := h1 hm
    have Hm := hide hm
    clear h1 h2 hm
    go_wp2_with fail
    refine bodyPost_ret (v := .tuple #[.int .i64 0, .int .i64 0, .int .i64 3, .int .i64 F]) (by simp [results, Try.results16, go_sem]) rfl ?_
    exact ⟨Hb.out, fun _ => by rw [HFe.out], fun hn => absurd (HFe.out.symm.trans hn) Hm.out, fun hn => absurd (HFe.out.symm.trans hn) Hm.out⟩

end Go.Proofs.Ytlicmfhgjonmnaa
