/- The walk of Sums. Own work. -/
import Derived.Test.YtlicmfhgjonmnaaUa
namespace Go.Proofs.Ytlicmfhgjonmnaa
open Go.RowKit
set_option linter.unusedVariables false

attribute [local go_sem ↓] Go.wp_at_zero Go.wp_at_succ

/-- What the laws read of the triangle of number k and of its corners. -/
structure TriCells (w : World) (r g : Nat) (l : List (Int × Int)) (T : List (Nat × Nat × Nat)) (k a b c : Nat) : Prop where
  t0 : w.cell? ⟨r, k * 3, none⟩ = some (.int .i64 a)
  t1 : w.cell? ⟨r, k * 3 + 1, none⟩ = some (.int .i64 b)
  t2 : w.cell? ⟨r, k * 3 + 2, none⟩ = some (.int .i64 c)
  a0 : w.cell? ⟨g, a * 2, none⟩ = some (.int .i64 (pAt l a).1)
  a1 : w.cell? ⟨g, a * 2 + 1, none⟩ = some (.int .i64 (pAt l a).2)
  b0 : w.cell? ⟨g, b * 2, none⟩ = some (.int .i64 (pAt l b).1)
  b1 : w.cell? ⟨g, b * 2 + 1, none⟩ = some (.int .i64 (pAt l b).2)
  c0 : w.cell? ⟨g, c * 2, none⟩ = some (.int .i64 (pAt l c).1)
  c1 : w.cell? ⟨g, c * 2 + 1, none⟩ = some (.int .i64 (pAt l c).2)
  la : a < l.length
  lb : b < l.length
  lc : c < l.length

theorem triCells {w : World} {r g : Nat} {l : List (Int × Int)} (h3 : 3 ≤ l.length) (hT : RowT w r (cutT l)) (hP : RowP w g l) {k : Nat} (hk : k < (cutT l).length) : TriCells w r g l (cutT l) k (tAt (cutT l) k).1 (tAt (cutT l) k).2.1 (tAt (cutT l) k).2.2 := by
  obtain ⟨h1, h2, h4⟩ := hT k hk
  obtain ⟨l1, l2, l4⟩ := cutT_range h3 _ (tAt_mem hk)
  exact ⟨h1, h2, h4, (hP _ l1).1, (hP _ l1).2, (hP _ l2).1, (hP _ l2).2, (hP _ l4).1, (hP _ l4).2, l1, l2, l4⟩

set_option maxRecDepth 100000 in
set_option maxHeartbeats 4000000 in
theorem sums_ok (s : ByteArray) (w : World) (hs : s.size ≤ 160) (l : List (Int × Int)) (h : rdAll s 16 0 [] = .inr l) (hF : badF l = -1) :
    Calls Try.prog 6 #[.string s] w fun e w' => e = .returned (.bool true) ∧ Below w.heap.size w w' := by
  obtain ⟨h3, h16⟩ := len3 h
  have hsim : Simple l := simple_of_check h3 hF
  obtain ⟨hpos, hsum, hA0⟩ := sums_plain hsim
  have hTl := cutT_length h3
  have H := hide h
  have HF := hide hF
  clear h hF
  go_enter Try.func6, Try.ntmps6
  go_wp2_with fail
  refine (Area_l s _ hs l H.out).mono ?_
  rintro e w1 ⟨hrng, hb1, -, k1⟩
  obtain rfl := k1 HF.out
  have Hrng := hide hrng
  have Hb1 := hide hb1
  clear hb1 k1 hrng
  go_wp2_with fail
  refine (Cut_l s _ hs l H.out).mono ?_
  rintro e w2 ⟨-, hb2, -, k2⟩
  obtain ⟨r, cc, rfl, hr, hrow⟩ := k2 HF.out
  have Hb2 := hide hb2
  have Hrow := hide hrow
  clear hb2 k2 hrow
  go_wp2_with fail
  refine (rCheck_l s _ hs l H.out Hrng.out).mono ?_
  rintro e w3 ⟨hb3, -, k3⟩
  obtain rfl := k3 HF.out
  have Hb3 := hide hb3
  clear hb3 k3
  go_wp2_with fail
  refine (num_any _ _).mono ?_
  rintro e w' ⟨rfl, rfl⟩
  go_wp2_with fail
  refine (num_any _ _).mono ?_
  rintro e w' ⟨rfl, rfl⟩
  go_wp2_with fail
  refine (Read_l s _ hs l H.out).mono ?_
  rintro e w4 ⟨g, cap, rfl, hb4, hg, hP⟩
  have hr4 : r < w4.heap.size := by have := Hb3.out.size; have := hb4.size; omega
  have hrow4 : RowT w4 r (cutT l) := (Hrow.out.below Hb3.out hr).below hb4 (Nat.lt_of_lt_of_le hr Hb3.out.size)
  have Hall := hide (below_next Hb1.out (below_next Hb2.out (below_next Hb3.out hb4)))
  have HP := hide hP
  have HT := hide hrow4
  have Hpos := hide hpos
  have Hsum := hide hsum
  clear hb4 hP hrow4 Hb1 Hb2 Hb3 Hrow hpos hsum
  go_wp2_with fail
  go_loopw [13, 14] (fun sv i wr => ∃ k : Nat, k ≤ (cutT l).length ∧ i = .int .i64 k ∧ sv = .int .i64 (sumI (trE l (cutT l)) k) ∧ Below w4.heap.size w4 wr) (fun _ i _ => (cutT l).length - (intOf i).toNat)
  case atStart => exact ⟨0, Nat.zero_le _, rfl, rfl, Below.refl _ _⟩
  case round =>
    obtain ⟨k, hk, rfl, rfl, hbel⟩ := hrel
    have hs1 := sumI_bd2 (trE l (cutT l)) (trE_bd Hrng.out (cutT l)) k
    have s1 : -127744128 ≤ sumI (trE l (cutT l)) k := by omega
    have s2 : sumI (trE l (cutT l)) k ≤ 127744128 := by omega
    clear hs1
    have Hw := hide hbel
    by_cases hlt2 : k < (cutT l).length
    · have hi : (k : Int) < ((l.length - 2 : Nat) : Int) := by omega
      have hi0 : (0 : Int) ≤ (k : Int) := by omega
      have tc := triCells h3 (HT.out.below hbel hr4) (HP.out.below hbel hg) hlt2
      have hstep : sumI (trE l (cutT l)) (k + 1) = sumI (trE l (cutT l)) k + trE l (cutT l) k := rfl
      have hp := Hpos.out k hlt2
      have hb := trE_bd Hrng.out (cutT l) k
      have htr : trE l (cutT l) k = tI (pAt l (tAt (cutT l) k).1) (pAt l (tAt (cutT l) k).2.1) (pAt l (tAt (cutT l) k).2.2) := rfl
      have HTn := hide (fun W => Turn_any (pAt l (tAt (cutT l) k).1) (pAt l (tAt (cutT l) k).2.1) (pAt l (tAt (cutT l) k).2.2) (Hrng.out.bd _) (Hrng.out.bd _) (Hrng.out.bd _) W)
      rw [← htr] at HTn
      generalize trE l (cutT l) k = tv at *
      generalize sumI (trE l (cutT l)) k = sv at *
      have Hstep := hide hstep
      clear hstep htr hbel
      generalize (tAt (cutT l) k).1 = a at *
      generalize (tAt (cutT l) k).2.1 = b at *
      generalize (tAt (cutT l) k).2.2 = c at *
      obtain ⟨t0, t1, t2, a0, a1, b0, b1, c0, c1, la, lb, lc⟩ := tc
      generalize (pAt l a).1 = ax at *
      generalize (pAt l a).2 = ay at *
      generalize (pAt l b).1 = bx at *
      generalize (pAt l b).2 = by' at *
      generalize (pAt l c).1 = cx' at *
      generalize (pAt l c).2 = cy at *
      have ia : (a : Int) < (l.length : Int) := by omega
      have ib : (b : Int) < (l.length : Int) := by omega
      have ic : (c : Int) < (l.length : Int) := by omega
      have ia0 : (0 : Int) ≤ (a : Int) := by omega
      have ib0 : (0 : Int) ≤ (b : Int) := by omega
      have ic0 : (0 : Int) ≤ (c : Int) := by omega
      have np : ¬ tv ≤ 0 := by omega
      go_wp2_with fail
      have hrw := World.block_lt_of_cell? wr _ t0
      have hgw := World.block_lt_of_cell? wr _ a0
      simp only at hrw hgw
      go_region_held3 (fun w' => w'.cell? ⟨r, k * 3, none⟩ = some (.int .i64 a) ∧ w'.cell? ⟨r, k * 3 + 1, none⟩ = some (.int .i64 b) ∧ w'.cell? ⟨r, k * 3 + 2, none⟩ = some (.int .i64 c) ∧ w'.cell? ⟨g, a * 2, none⟩ = some (.int .i64 ax) ∧ w'.cell? ⟨g, a * 2 + 1, none⟩ = some (.int .i64 ay) ∧ w'.cell? ⟨g, b * 2, none⟩ = some (.int .i64 bx) ∧ w'.cell? ⟨g, b * 2 + 1, none⟩ = some (.int .i64 by') ∧ w'.cell? ⟨g, c * 2, none⟩ = some (.int .i64 cx') ∧ w'.cell? ⟨g, c * 2 + 1, none⟩ = some (.int .i64 cy))
        (first | go_keep | (exact ⟨f0, f1, f2, f3, f4, f5, f6, f7, f8⟩))
        (first
          | (go_at_call 19; refine (HTn.out _).mono ?_; rintro e w6 ⟨rfl, hb6⟩
             have hb6' : Below wr.heap.size wr w6 := by first | exact hb6 | exact below_next (below_dr _) hb6
             have f0 := (hb6'.cell (p := ⟨r, k * 3, none⟩) hrw).trans t0
             have f1 := (hb6'.cell (p := ⟨r, k * 3 + 1, none⟩) hrw).trans t1
             have f2 := (hb6'.cell (p := ⟨r, k * 3 + 2, none⟩) hrw).trans t2
             have f3 := (hb6'.cell (p := ⟨g, a * 2, none⟩) hgw).trans a0
             have f4 := (hb6'.cell (p := ⟨g, a * 2 + 1, none⟩) hgw).trans a1
             have f5 := (hb6'.cell (p := ⟨g, b * 2, none⟩) hgw).trans b0
             have f6 := (hb6'.cell (p := ⟨g, b * 2 + 1, none⟩) hgw).trans b1
             have f7 := (hb6'.cell (p := ⟨g, c * 2, none⟩) hgw).trans c0
             have f8 := (hb6'.cell (p := ⟨g, c * 2 + 1, none⟩) hgw).trans c1
             have H6 := hide (below_next Hw.out hb6')
             clear hb6 hb6'))
      all_goals (
        go_wp2_with fail
        go_roundw
        case rel => exact ⟨k + 1, by omega, by go_num, by rw [Hstep.out], H6.out⟩
        case measure => simp [intOf]; omega)
    · have hke : k = (cutT l).length := by omega
      have hi : ¬ (k : Int) < ((l.length - 2 : Nat) : Int) := by omega
      have hsv : sumI (trE l (cutT l)) k = (tw l).natAbs := by rw [hke]; exact Hsum.out
      have hbt : (tw l).natAbs ≤ 127744128 := by omega
      clear hbel s1 s2
      rw [hsv]
      clear hsv
      by_cases hneg : tw l < 0
      · have e1 : ((tw l).natAbs : Int) = - tw l := by omega
        have e2 : (0 : Int) < - tw l := by omega
        have e3 : -127744128 ≤ tw l := by omega
        rw [e1]
        clear e1 hbt hA0 Hsum
        generalize tw l = A at *
        go_wp2_with fail
        go_ret
        exact ⟨by simp; done, below_next Hall.out Hw.out⟩
      · have e1 : ((tw l).natAbs : Int) = tw l := by omega
        have e2 : (0 : Int) < tw l := by omega
        have e3 : tw l ≤ 127744128 := by omega
        rw [e1]
        clear e1 hbt hA0 Hsum
        generalize tw l = A at *
        go_wp2_with fail
        go_ret
        exact ⟨by simp; done, below_next Hall.out Hw.out⟩

end Go.Proofs.Ytlicmfhgjonmnaa
