/- The walk of Covered. Own work. -/
import Derived.Test.YtlicmfhgjonmnaaUd
namespace Go.Proofs.Ytlicmfhgjonmnaa
open Go.RowKit
set_option linter.unusedVariables false

theorem firstI_succ (F : Nat → Bool) (k : Nat) : firstI F (k + 1) = if firstI F k = -1 then (if F k then (k : Int) else -1) else firstI F k := by
  rcases firstI_cases F k with ⟨h1, h2⟩ | ⟨j, hj, h1, h2, h3⟩
  · rw [if_pos h1]
    cases q : F k with
    | true => rw [if_pos rfl]; exact firstI_some (by omega) q h2
    | false =>
      rw [if_neg (by simp)]
      refine firstI_none fun i hi => ?_
      by_cases e : i = k
      · rw [e]; exact q
      · exact h2 i (by omega)
  · rw [if_neg (by omega), h1]
    exact firstI_some (by omega) h2 h3

theorem firstI_ge (F : Nat → Bool) (k : Nat) : -1 ≤ firstI F k ∧ firstI F k ≤ k := by
  rcases firstI_cases F k with ⟨h1, _⟩ | ⟨j, hj, h1, _⟩ <;> omega

/-- The first of the first k triangles that holds the point. -/
def fstI (l : List (Int × Int)) (p : Int × Int) (k : Nat) : Int := firstI (fun i => inB l p (tAt (cutT l) i)) k

theorem fst_keep {l : List (Int × Int)} {p : Int × Int} {k : Nat} (h : inB l p (tAt (cutT l) k) = false ∨ ¬ fstI l p k < 0) : fstI l p (k + 1) = fstI l p k := by
  unfold fstI at *
  rw [firstI_succ]
  rcases h with h | h
  · simp only [h, Bool.false_eq_true, if_false]
    by_cases e : firstI (fun i => inB l p (tAt (cutT l) i)) k = -1
    · rw [if_pos e, e]
    · rw [if_neg e]
  · rw [if_neg (by omega)]

theorem fst_new {l : List (Int × Int)} {p : Int × Int} {k : Nat} (h : inB l p (tAt (cutT l) k) = true) (h2 : fstI l p k < 0) : fstI l p (k + 1) = k := by
  unfold fstI at *
  have := firstI_ge (fun i => inB l p (tAt (cutT l) i)) k
  rw [firstI_succ, if_pos (by omega)]
  simp only [h, if_true]

theorem cnt_keep {l : List (Int × Int)} {p : Int × Int} {k : Nat} (h : stB l p (tAt (cutT l) k) = false) : cntI l p (k + 1) = cntI l p k := by
  unfold cntI
  simp only [sumI, h, Bool.false_eq_true, if_false]
  omega

theorem cnt_new {l : List (Int × Int)} {p : Int × Int} {k : Nat} (h : stB l p (tAt (cutT l) k) = true) : cntI l p (k + 1) = cntI l p k + 1 := by
  unfold cntI
  simp only [sumI, h, if_true]

theorem cnt_bd (l : List (Int × Int)) (p : Int × Int) (k : Nat) : 0 ≤ cntI l p k ∧ cntI l p k ≤ k := sumI_01 _ (fun i => by split <;> omega) k

set_option maxRecDepth 100000 in
set_option maxHeartbeats 8000000 in
theorem covered_ok (s : ByteArray) (x y : Int) (w : World) (hs : s.size ≤ 160) (l : List (Int × Int)) (h : rdAll s 16 0 [] = .inr l) (hF : badF l = -1) (hfar : farB x y = false) :
    Calls Try.prog 9 #[.string s, .int .i64 x, .int .i64 y] w fun e w' => e = .returned (.bool true) ∧ Below w.heap.size w w' := by
  obtain ⟨h3, h16⟩ := len3 h
  have hsim : Simple l := simple_of_check h3 hF
  have hfi := find_in hsim (x, y)
  have hout := out_first hsim (x, y)
  have hcnt := cnt_end hsim (x, y)
  have hTl := cutT_length h3
  have hbd := farB_false hfar
  have hP : Bd (x, y) := ⟨by show _ ≤ x; omega, by show x ≤ _; omega, by show _ ≤ y; omega, by show y ≤ _; omega⟩
  have mx := mixed
  have H := hide h
  have HF := hide hF
  have Hfar := hide hfar
  have HF2 : Hid (findI l (x, y) = firstIn l (x, y)) := hfi
  have Hout : Hid ((placeI l (x, y)).1 = 0 ↔ firstIn l (x, y) = -1) := hout
  have Hcnt := hide hcnt
  clear h hF hfar hfi hout hcnt
  go_enter Try.func9, Try.ntmps9
  go_wp2_with fail
  refine (Where_l s _ hs l H.out x y).mono ?_
  rintro e w1 ⟨hrng, hb1, -, -, k1⟩
  obtain rfl := k1 HF.out Hfar.out
  have Hrng := hide hrng
  have Hb1 := hide hb1
  clear hb1 k1 hrng
  go_wp2_with fail
  refine (Cut_l s _ hs l H.out).mono ?_
  rintro e w2 ⟨-, hb2, -, k2⟩
  obtain ⟨r, cc, rfl, hr, hrow⟩ := k2 HF.out
  have Hb2 := hide hb2
  have Hrow := hide hrow
  clear hb2 k2 hrow
  go_wp2_with fail
  refine (Find_l s _ hs l H.out x y).mono ?_
  rintro e w3 ⟨-, hb3, -, -, k3⟩
  obtain rfl := k3 HF.out Hfar.out
  rw [HF2.out]
  have Hb3 := hide hb3
  clear hb3 k3
  go_wp2_with fail
  refine (rCheck_l s _ hs l H.out Hrng.out).mono ?_
  rintro e w4 ⟨hb4, -, k4⟩
  obtain rfl := k4 HF.out
  have hsz1 := Hb1.out.size
  have hall4 := below_next Hb1.out (below_next Hb2.out (below_next Hb3.out hb4))
  have p0 : w4.cell? ⟨w.heap.size, 0, none⟩ = some (.int .i64 x) := by rw [hall4.cell (p := ⟨w.heap.size, 0, none⟩) (by simp), cell_last _ _ _ _ _ rfl]; rfl
  have p1 : w4.cell? ⟨w.heap.size, 1, none⟩ = some (.int .i64 y) := by rw [hall4.cell (p := ⟨w.heap.size, 1, none⟩) (by simp), cell_last _ _ _ _ _ rfl]; rfl
  have hrow4 : RowT w4 r (cutT l) := (Hrow.out.below Hb3.out hr).below hb4 (Nat.lt_of_lt_of_le hr Hb3.out.size)
  have hr4 : r < w4.heap.size := by have := Hb3.out.size; have := hb4.size; omega
  have hs4 : w.heap.size < w4.heap.size := by have := hall4.size; simp at this; omega
  have H4 := hide (below_one hall4)
  have Hrow4 := hide hrow4
  clear hb4 k4 hall4 hrow4 Hb1 Hb2 Hb3 Hrow hr hsz1
  go_wp2_with fail
  refine (Fits_any x y _).mono ?_
  rintro e w5 ⟨rfl, hb5⟩
  rw [Hfar.out]
  have u0 : w5.cell? ⟨w.heap.size, 0, none⟩ = some (.int .i64 x) := (hb5.cell (p := ⟨w.heap.size, 0, none⟩) hs4).trans p0
  have u1 : w5.cell? ⟨w.heap.size, 1, none⟩ = some (.int .i64 y) := (hb5.cell (p := ⟨w.heap.size, 1, none⟩) hs4).trans p1
  have hs5 : w.heap.size < w5.heap.size := Nat.lt_of_lt_of_le hs4 hb5.size
  have hr5 : r < w5.heap.size := Nat.lt_of_lt_of_le hr4 hb5.size
  have Hrow5 := hide (Hrow4.out.below hb5 hr4)
  have H5 := hide (below_next H4.out hb5)
  clear hb5 p0 p1 hs4 hr4 Hrow4 H4
  go_wp2_with fail
  refine (num_any _ _).mono ?_
  rintro e w' ⟨rfl, rfl⟩
  go_wp2_with fail
  refine (num_any _ _).mono ?_
  rintro e w' ⟨rfl, rfl⟩
  go_wp2_with fail
  refine (num_any _ _).mono ?_
  rintro e w' ⟨rfl, rfl⟩
  go_wp2_with fail
  refine (Read_l s _ hs l H.out).mono ?_
  rintro e w6 ⟨g, cap, rfl, hb6, hg, hPr⟩
  have q0 : w6.cell? ⟨w.heap.size, 0, none⟩ = some (.int .i64 x) := (hb6.cell (p := ⟨w.heap.size, 0, none⟩) hs5).trans u0
  have q1 : w6.cell? ⟨w.heap.size, 1, none⟩ = some (.int .i64 y) := (hb6.cell (p := ⟨w.heap.size, 1, none⟩) hs5).trans u1
  have hs6 : w.heap.size < w6.heap.size := Nat.lt_of_lt_of_le hs5 hb6.size
  have hr6 : r < w6.heap.size := Nat.lt_of_lt_of_le hr5 hb6.size
  have HT := hide (Hrow5.out.below hb6 hr5)
  have HPr := hide hPr
  have Hall := hide (below_next H5.out hb6)
  clear hb6 hPr u0 u1 hs5 hr5 Hrow5 H5
  generalize hkd : (placeI l (x, y)).1 = kd at *
  generalize hN : firstIn l (x, y) = N at *
  have HN := hide hN
  have Hkd := hide hkd
  clear hN hkd HF2
  go_wp2_with fail
  go_loopw [22, 23, 24] (fun fv sv i wr => ∃ k : Nat, k ≤ (cutT l).length ∧ i = .int .i64 k ∧ fv = .int .i64 (fstI l (x, y) k) ∧ sv = .int .i64 (cntI l (x, y) k) ∧ Below w6.heap.size w6 wr) (fun _ _ i _ => (cutT l).length - (intOf i).toNat)
  case atStart => exact ⟨0, Nat.zero_le _, rfl, rfl, rfl, Below.refl _ _⟩
  case round =>
    obtain ⟨k, hk, rfl, rfl, rfl, hbel⟩ := hrel
    have hf1 := firstI_ge (fun i => inB l (x, y) (tAt (cutT l) i)) k
    have f1 : -1 ≤ fstI l (x, y) k := hf1.1
    have f2 : fstI l (x, y) k ≤ 16 := by have : fstI l (x, y) k ≤ k := hf1.2; omega
    have hc1 := cnt_bd l (x, y) k
    have g1 : 0 ≤ cntI l (x, y) k := hc1.1
    have g2 : cntI l (x, y) k ≤ 16 := by have := hc1.2; omega
    clear hf1 hc1
    have Hbr := hide hbel
    by_cases hlt2 : k < (cutT l).length
    · have hi : (k : Int) < ((l.length - 2 : Nat) : Int) := by omega
      have hi0 : (0 : Int) ≤ (k : Int) := by omega
      have tc := triCells h3 (HT.out.below hbel hr6) (HPr.out.below hbel hg) hlt2
      have p0 : wr.cell? ⟨w.heap.size, 0, none⟩ = some (.int .i64 x) := (hbel.cell (p := ⟨w.heap.size, 0, none⟩) hs6).trans q0
      have p1 : wr.cell? ⟨w.heap.size, 1, none⟩ = some (.int .i64 y) := (hbel.cell (p := ⟨w.heap.size, 1, none⟩) hs6).trans q1
      clear hbel
      have hA := Hrng.out.bd (tAt (cutT l) k).1
      have hB := Hrng.out.bd (tAt (cutT l) k).2.1
      have hC := Hrng.out.bd (tAt (cutT l) k).2.2
      have fk : (inB l (x, y) (tAt (cutT l) k) = false ∨ ¬ fstI l (x, y) k < 0) → fstI l (x, y) (k + 1) = fstI l (x, y) k := fst_keep
      have fn : inB l (x, y) (tAt (cutT l) k) = true → fstI l (x, y) k < 0 → fstI l (x, y) (k + 1) = k := fst_new
      have ck : stB l (x, y) (tAt (cutT l) k) = false → cntI l (x, y) (k + 1) = cntI l (x, y) k := cnt_keep
      have cn : stB l (x, y) (tAt (cutT l) k) = true → cntI l (x, y) (k + 1) = cntI l (x, y) k + 1 := cnt_new
      unfold inB at fk fn
      unfold stB at ck cn
      generalize (tAt (cutT l) k).1 = a at *
      generalize (tAt (cutT l) k).2.1 = b at *
      generalize (tAt (cutT l) k).2.2 = c at *
      obtain ⟨t0, t1, t2, a0, a1, b0, b1, c0, c1, la, lb, lc⟩ := tc
      generalize pAt l a = A at *
      generalize pAt l b = B at *
      generalize pAt l c = C at *
      obtain ⟨ax, ay⟩ := A
      obtain ⟨bx, by'⟩ := B
      obtain ⟨cx', cy⟩ := C
      simp only at a0 a1 b0 b1 c0 c1
      have Fk := hide fk
      have Fn := hide fn
      have Ck := hide ck
      have Cn := hide cn
      clear fk fn ck cn
      generalize fstI l (x, y) k = fv at *
      generalize cntI l (x, y) k = sv at *
      have ia : (a : Int) < (l.length : Int) := by omega
      have ib : (b : Int) < (l.length : Int) := by omega
      have ic : (c : Int) < (l.length : Int) := by omega
      have ia0 : (0 : Int) ≤ (a : Int) := by omega
      have ib0 : (0 : Int) ≤ (b : Int) := by omega
      have ic0 : (0 : Int) ≤ (c : Int) := by omega
      go_wp2_with fail
      have k0 := cell_regrown t0
      have k1 := cell_regrown t1
      have k2 := cell_regrown t2
      have k3 := cell_regrown p0
      have k4 := cell_regrown p1
      have k5 := cell_regrown a0
      have k6 := cell_regrown a1
      have k7 := cell_regrown b0
      have k8 := cell_regrown b1
      have k9 := cell_regrown c0
      have k10 := cell_regrown c1
      refine wp_region_quiet_below (by assumption) (by kernel_rfl) ?_
      repeat (first | go_big_quiet_step ((first | (go_at_call 19; exact turn_grown_c _ _ _ _ _ _ _ (by assumption) (by assumption) (by assumption) _ _))) | quiet_step (first | (go_at_call 19; exact turn_grown_c _ _ _ _ _ _ _ (by assumption) (by assumption) (by assumption) _ _)))
      refine wpQuiet_nil ?_
      intro w7 hw'
      have hb7 : Below wr.heap.size wr w7 := by
        obtain ⟨⟨dq, osq⟩, hw''⟩ := hw'
        rw [hw'']; exact below_regrown _ dq osq
      clear hw' k0 k1 k2 k3 k4 k5 k6 k7 k8 k9 k10
      have hrw7 := World.block_lt_of_cell? _ _ t0
      have hgw7 := World.block_lt_of_cell? _ _ a0
      have hpw7 := World.block_lt_of_cell? _ _ p0
      simp only at hrw7 hgw7 hpw7
      have t07 := (hb7.cell (p := ⟨r, k * 3, none⟩) hrw7).trans t0
      have t17 := (hb7.cell (p := ⟨r, k * 3 + 1, none⟩) hrw7).trans t1
      have t27 := (hb7.cell (p := ⟨r, k * 3 + 2, none⟩) hrw7).trans t2
      have p07 := (hb7.cell (p := ⟨w.heap.size, 0, none⟩) hpw7).trans p0
      have p17 := (hb7.cell (p := ⟨w.heap.size, 1, none⟩) hpw7).trans p1
      have a07 := (hb7.cell (p := ⟨g, a * 2, none⟩) hgw7).trans a0
      have a17 := (hb7.cell (p := ⟨g, a * 2 + 1, none⟩) hgw7).trans a1
      have b07 := (hb7.cell (p := ⟨g, b * 2, none⟩) hgw7).trans b0
      have b17 := (hb7.cell (p := ⟨g, b * 2 + 1, none⟩) hgw7).trans b1
      have c07 := (hb7.cell (p := ⟨g, c * 2, none⟩) hgw7).trans c0
      have c17 := (hb7.cell (p := ⟨g, c * 2 + 1, none⟩) hgw7).trans c1
      have Hb7 := hide (below_next Hbr.out hb7)
      clear hb7 hrw7 hgw7 hpw7 t0 t1 t2 p0 p1 a0 a1 b0 b1 c0 c1
      go_wp2_with fail
      have k0 := cell_regrown t07
      have k1 := cell_regrown t17
      have k2 := cell_regrown t27
      have k3 := cell_regrown p07
      have k4 := cell_regrown p17
      have k5 := cell_regrown a07
      have k6 := cell_regrown a17
      have k7 := cell_regrown b07
      have k8 := cell_regrown b17
      have k9 := cell_regrown c07
      have k10 := cell_regrown c17
      refine wp_region_quiet_below (by assumption) (by kernel_rfl) ?_
      repeat (first | go_big_quiet_step ((first | (go_at_call 19; exact turn_grown_c _ _ _ _ _ _ _ (by assumption) (by assumption) (by assumption) _ _))) | quiet_step (first | (go_at_call 19; exact turn_grown_c _ _ _ _ _ _ _ (by assumption) (by assumption) (by assumption) _ _)))
      refine wpQuiet_nil ?_
      intro w8 hw'
      have hb8 : Below w7.heap.size w7 w8 := by
        obtain ⟨⟨dq, osq⟩, hw''⟩ := hw'
        rw [hw'']; exact below_regrown _ dq osq
      clear hw' k0 k1 k2 k3 k4 k5 k6 k7 k8 k9 k10
      have hrw8 := World.block_lt_of_cell? _ _ t07
      have hgw8 := World.block_lt_of_cell? _ _ a07
      have hpw8 := World.block_lt_of_cell? _ _ p07
      simp only at hrw8 hgw8 hpw8
      have t08 := (hb8.cell (p := ⟨r, k * 3, none⟩) hrw8).trans t07
      have t18 := (hb8.cell (p := ⟨r, k * 3 + 1, none⟩) hrw8).trans t17
      have t28 := (hb8.cell (p := ⟨r, k * 3 + 2, none⟩) hrw8).trans t27
      have p08 := (hb8.cell (p := ⟨w.heap.size, 0, none⟩) hpw8).trans p07
      have p18 := (hb8.cell (p := ⟨w.heap.size, 1, none⟩) hpw8).trans p17
      have a08 := (hb8.cell (p := ⟨g, a * 2, none⟩) hgw8).trans a07
      have a18 := (hb8.cell (p := ⟨g, a * 2 + 1, none⟩) hgw8).trans a17
      have b08 := (hb8.cell (p := ⟨g, b * 2, none⟩) hgw8).trans b07
      have b18 := (hb8.cell (p := ⟨g, b * 2 + 1, none⟩) hgw8).trans b17
      have c08 := (hb8.cell (p := ⟨g, c * 2, none⟩) hgw8).trans c07
      have c18 := (hb8.cell (p := ⟨g, c * 2 + 1, none⟩) hgw8).trans c17
      have Hb8 := hide (below_next Hb7.out hb8)
      clear hb8 hrw8 hgw8 hpw8 t07 t17 t27 p07 p17 a07 a17 b07 b17 c07 c17
      go_wp2_with fail
      have k0 := cell_regrown t08
      have k1 := cell_regrown t18
      have k2 := cell_regrown t28
      have k3 := cell_regrown p08
      have k4 := cell_regrown p18
      have k5 := cell_regrown a08
      have k6 := cell_regrown a18
      have k7 := cell_regrown b08
      have k8 := cell_regrown b18
      have k9 := cell_regrown c08
      have k10 := cell_regrown c18
      refine wp_region_quiet_below (by assumption) (by kernel_rfl) ?_
      repeat (first | go_big_quiet_step ((first | (go_at_call 19; exact turn_grown_c _ _ _ _ _ _ _ (by assumption) (by assumption) (by assumption) _ _))) | quiet_step (first | (go_at_call 19; exact turn_grown_c _ _ _ _ _ _ _ (by assumption) (by assumption) (by assumption) _ _)))
      refine wpQuiet_nil ?_
      intro w9 hw'
      have hb9 : Below w8.heap.size w8 w9 := by
        obtain ⟨⟨dq, osq⟩, hw''⟩ := hw'
        rw [hw'']; exact below_regrown _ dq osq
      clear hw' k0 k1 k2 k3 k4 k5 k6 k7 k8 k9 k10
      have hrw9 := World.block_lt_of_cell? _ _ t08
      have hgw9 := World.block_lt_of_cell? _ _ a08
      have hpw9 := World.block_lt_of_cell? _ _ p08
      simp only at hrw9 hgw9 hpw9
      have t09 := (hb9.cell (p := ⟨r, k * 3, none⟩) hrw9).trans t08
      have t19 := (hb9.cell (p := ⟨r, k * 3 + 1, none⟩) hrw9).trans t18
      have t29 := (hb9.cell (p := ⟨r, k * 3 + 2, none⟩) hrw9).trans t28
      have p09 := (hb9.cell (p := ⟨w.heap.size, 0, none⟩) hpw9).trans p08
      have p19 := (hb9.cell (p := ⟨w.heap.size, 1, none⟩) hpw9).trans p18
      have a09 := (hb9.cell (p := ⟨g, a * 2, none⟩) hgw9).trans a08
      have a19 := (hb9.cell (p := ⟨g, a * 2 + 1, none⟩) hgw9).trans a18
      have b09 := (hb9.cell (p := ⟨g, b * 2, none⟩) hgw9).trans b08
      have b19 := (hb9.cell (p := ⟨g, b * 2 + 1, none⟩) hgw9).trans b18
      have c09 := (hb9.cell (p := ⟨g, c * 2, none⟩) hgw9).trans c08
      have c19 := (hb9.cell (p := ⟨g, c * 2 + 1, none⟩) hgw9).trans c18
      have Hb9 := hide (below_next Hb8.out hb9)
      clear hb9 hrw9 hgw9 hpw9 t08 t18 t28 p08 p18 a08 a18 b08 b18 c08 c18
      clear t09 t19 t29 p09 p19 a09 a19 b09 b19 c09 c19
      generalize tI (ax, ay) (bx, by') (x, y) = v1 at *
      generalize tI (bx, by') (cx', cy) (x, y) = v2 at *
      generalize tI (cx', cy) (ax, ay) (x, y) = v3 at *
      rcases Int.lt_trichotomy v1 0 with h1' | h1' | h1'
      · skip
        have q1 : ¬ 0 ≤ v1 := by omega
        have r1 : ¬ 0 < v1 := by omega
        have hin : (decide (0 ≤ v1) && decide (0 ≤ v2) && decide (0 ≤ v3)) = false := by simp [q1]
        have hst : (decide (0 < v1) && decide (0 < v2) && decide (0 < v3)) = false := by simp [r1]
        have He := hide (And.intro hin hst)
        have hfe : fstI l (x, y) (k + 1) = fv := Fk.out (.inl hin)
        have hse : cntI l (x, y) (k + 1) = sv := Ck.out hst
        have Hfe := hide hfe
        have Hse := hide hse
        clear hin hst hfe hse Fk Fn Ck Cn
        go_wp2_with fail
        go_roundw
        case rel => exact ⟨k + 1, by omega, by go_num, by rw [Hfe.out], by rw [Hse.out], Hb9.out⟩
        case measure => simp [intOf]; omega
      · skip
        by_cases h2' : v2 < 0
        · skip
          have q1 : 0 ≤ v1 := by omega
          have r1 : ¬ 0 < v1 := by omega
          have q2 : ¬ 0 ≤ v2 := by omega
          have r2 : ¬ 0 < v2 := by omega
          have hin : (decide (0 ≤ v1) && decide (0 ≤ v2) && decide (0 ≤ v3)) = false := by simp [q1, q2]
          have hst : (decide (0 < v1) && decide (0 < v2) && decide (0 < v3)) = false := by simp [r1, r2]
          have He := hide (And.intro hin hst)
          have hfe : fstI l (x, y) (k + 1) = fv := Fk.out (.inl hin)
          have hse : cntI l (x, y) (k + 1) = sv := Ck.out hst
          have Hfe := hide hfe
          have Hse := hide hse
          clear hin hst hfe hse Fk Fn Ck Cn
          go_wp2_with fail
          go_roundw
          case rel => exact ⟨k + 1, by omega, by go_num, by rw [Hfe.out], by rw [Hse.out], Hb9.out⟩
          case measure => simp [intOf]; omega
        · skip
          by_cases h3' : v3 < 0
          · skip
            have q1 : 0 ≤ v1 := by omega
            have r1 : ¬ 0 < v1 := by omega
            have q2 : 0 ≤ v2 := by omega
            have q3 : ¬ 0 ≤ v3 := by omega
            have r3 : ¬ 0 < v3 := by omega
            have hin : (decide (0 ≤ v1) && decide (0 ≤ v2) && decide (0 ≤ v3)) = false := by simp [q1, q2, q3]
            have hst : (decide (0 < v1) && decide (0 < v2) && decide (0 < v3)) = false := by simp [r1, r3]
            have He := hide (And.intro hin hst)
            have hfe : fstI l (x, y) (k + 1) = fv := Fk.out (.inl hin)
            have hse : cntI l (x, y) (k + 1) = sv := Ck.out hst
            have Hfe := hide hfe
            have Hse := hide hse
            clear hin hst hfe hse Fk Fn Ck Cn
            go_wp2_with fail
            go_roundw
            case rel => exact ⟨k + 1, by omega, by go_num, by rw [Hfe.out], by rw [Hse.out], Hb9.out⟩
            case measure => simp [intOf]; omega
          · skip
            by_cases hfv : fv < 0
            · skip
              have q1 : 0 ≤ v1 := by omega
              have r1 : ¬ 0 < v1 := by omega
              have q2 : 0 ≤ v2 := by omega
              have q3 : 0 ≤ v3 := by omega
              have hin : (decide (0 ≤ v1) && decide (0 ≤ v2) && decide (0 ≤ v3)) = true := by simp [q1, q2, q3]
              have hst : (decide (0 < v1) && decide (0 < v2) && decide (0 < v3)) = false := by simp [r1]
              have He := hide (And.intro hin hst)
              have hfe : fstI l (x, y) (k + 1) = (k : Int) := Fn.out hin hfv
              have hse : cntI l (x, y) (k + 1) = sv := Ck.out hst
              have Hfe := hide hfe
              have Hse := hide hse
              clear hin hst hfe hse Fk Fn Ck Cn
              go_wp2_with fail
              go_roundw
              case rel => exact ⟨k + 1, by omega, by go_num, by rw [Hfe.out], by rw [Hse.out], Hb9.out⟩
              case measure => simp [intOf]; omega
            · skip
              have q1 : 0 ≤ v1 := by omega
              have r1 : ¬ 0 < v1 := by omega
              have q2 : 0 ≤ v2 := by omega
              have q3 : 0 ≤ v3 := by omega
              have hin : (decide (0 ≤ v1) && decide (0 ≤ v2) && decide (0 ≤ v3)) = true := by simp [q1, q2, q3]
              have hst : (decide (0 < v1) && decide (0 < v2) && decide (0 < v3)) = false := by simp [r1]
              have He := hide (And.intro hin hst)
              have hfe : fstI l (x, y) (k + 1) = fv := Fk.out (.inr (by omega))
              have hse : cntI l (x, y) (k + 1) = sv := Ck.out hst
              have Hfe := hide hfe
              have Hse := hide hse
              clear hin hst hfe hse Fk Fn Ck Cn
              go_wp2_with fail
              go_roundw
              case rel => exact ⟨k + 1, by omega, by go_num, by rw [Hfe.out], by rw [Hse.out], Hb9.out⟩
              case measure => simp [intOf]; omega
      · skip
        rcases Int.lt_trichotomy v2 0 with h2' | h2' | h2'
        · skip
          have q1 : 0 ≤ v1 := by omega
          have r1 : 0 < v1 := by omega
          have q2 : ¬ 0 ≤ v2 := by omega
          have r2 : ¬ 0 < v2 := by omega
          have hin : (decide (0 ≤ v1) && decide (0 ≤ v2) && decide (0 ≤ v3)) = false := by simp [q1, q2]
          have hst : (decide (0 < v1) && decide (0 < v2) && decide (0 < v3)) = false := by simp [r1, r2]
          have He := hide (And.intro hin hst)
          have hfe : fstI l (x, y) (k + 1) = fv := Fk.out (.inl hin)
          have hse : cntI l (x, y) (k + 1) = sv := Ck.out hst
          have Hfe := hide hfe
          have Hse := hide hse
          clear hin hst hfe hse Fk Fn Ck Cn
          go_wp2_with fail
          go_roundw
          case rel => exact ⟨k + 1, by omega, by go_num, by rw [Hfe.out], by rw [Hse.out], Hb9.out⟩
          case measure => simp [intOf]; omega
        · skip
          by_cases h3' : v3 < 0
          · skip
            have q1 : 0 ≤ v1 := by omega
            have r1 : 0 < v1 := by omega
            have q2 : 0 ≤ v2 := by omega
            have r2 : ¬ 0 < v2 := by omega
            have q3 : ¬ 0 ≤ v3 := by omega
            have r3 : ¬ 0 < v3 := by omega
            have hin : (decide (0 ≤ v1) && decide (0 ≤ v2) && decide (0 ≤ v3)) = false := by simp [q1, q2, q3]
            have hst : (decide (0 < v1) && decide (0 < v2) && decide (0 < v3)) = false := by simp [r1, r2, r3]
            have He := hide (And.intro hin hst)
            have hfe : fstI l (x, y) (k + 1) = fv := Fk.out (.inl hin)
            have hse : cntI l (x, y) (k + 1) = sv := Ck.out hst
            have Hfe := hide hfe
            have Hse := hide hse
            clear hin hst hfe hse Fk Fn Ck Cn
            go_wp2_with fail
            go_roundw
            case rel => exact ⟨k + 1, by omega, by go_num, by rw [Hfe.out], by rw [Hse.out], Hb9.out⟩
            case measure => simp [intOf]; omega
          · skip
            by_cases hfv : fv < 0
            · skip
              have q1 : 0 ≤ v1 := by omega
              have r1 : 0 < v1 := by omega
              have q2 : 0 ≤ v2 := by omega
              have r2 : ¬ 0 < v2 := by omega
              have q3 : 0 ≤ v3 := by omega
              have hin : (decide (0 ≤ v1) && decide (0 ≤ v2) && decide (0 ≤ v3)) = true := by simp [q1, q2, q3]
              have hst : (decide (0 < v1) && decide (0 < v2) && decide (0 < v3)) = false := by simp [r1, r2]
              have He := hide (And.intro hin hst)
              have hfe : fstI l (x, y) (k + 1) = (k : Int) := Fn.out hin hfv
              have hse : cntI l (x, y) (k + 1) = sv := Ck.out hst
              have Hfe := hide hfe
              have Hse := hide hse
              clear hin hst hfe hse Fk Fn Ck Cn
              go_wp2_with fail
              go_roundw
              case rel => exact ⟨k + 1, by omega, by go_num, by rw [Hfe.out], by rw [Hse.out], Hb9.out⟩
              case measure => simp [intOf]; omega
            · skip
              have q1 : 0 ≤ v1 := by omega
              have r1 : 0 < v1 := by omega
              have q2 : 0 ≤ v2 := by omega
              have r2 : ¬ 0 < v2 := by omega
              have q3 : 0 ≤ v3 := by omega
              have hin : (decide (0 ≤ v1) && decide (0 ≤ v2) && decide (0 ≤ v3)) = true := by simp [q1, q2, q3]
              have hst : (decide (0 < v1) && decide (0 < v2) && decide (0 < v3)) = false := by simp [r1, r2]
              have He := hide (And.intro hin hst)
              have hfe : fstI l (x, y) (k + 1) = fv := Fk.out (.inr (by omega))
              have hse : cntI l (x, y) (k + 1) = sv := Ck.out hst
              have Hfe := hide hfe
              have Hse := hide hse
              clear hin hst hfe hse Fk Fn Ck Cn
              go_wp2_with fail
              go_roundw
              case rel => exact ⟨k + 1, by omega, by go_num, by rw [Hfe.out], by rw [Hse.out], Hb9.out⟩
              case measure => simp [intOf]; omega
        · skip
          rcases Int.lt_trichotomy v3 0 with h3' | h3' | h3'
          · skip
            have q1 : 0 ≤ v1 := by omega
            have r1 : 0 < v1 := by omega
            have q2 : 0 ≤ v2 := by omega
            have r2 : 0 < v2 := by omega
            have q3 : ¬ 0 ≤ v3 := by omega
            have r3 : ¬ 0 < v3 := by omega
            have hin : (decide (0 ≤ v1) && decide (0 ≤ v2) && decide (0 ≤ v3)) = false := by simp [q1, q2, q3]
            have hst : (decide (0 < v1) && decide (0 < v2) && decide (0 < v3)) = false := by simp [r1, r2, r3]
            have He := hide (And.intro hin hst)
            have hfe : fstI l (x, y) (k + 1) = fv := Fk.out (.inl hin)
            have hse : cntI l (x, y) (k + 1) = sv := Ck.out hst
            have Hfe := hide hfe
            have Hse := hide hse
            clear hin hst hfe hse Fk Fn Ck Cn
            go_wp2_with fail
            go_roundw
            case rel => exact ⟨k + 1, by omega, by go_num, by rw [Hfe.out], by rw [Hse.out], Hb9.out⟩
            case measure => simp [intOf]; omega
          · skip
            by_cases hfv : fv < 0
            · skip
              have q1 : 0 ≤ v1 := by omega
              have r1 : 0 < v1 := by omega
              have q2 : 0 ≤ v2 := by omega
              have r2 : 0 < v2 := by omega
              have q3 : 0 ≤ v3 := by omega
              have r3 : ¬ 0 < v3 := by omega
              have hin : (decide (0 ≤ v1) && decide (0 ≤ v2) && decide (0 ≤ v3)) = true := by simp [q1, q2, q3]
              have hst : (decide (0 < v1) && decide (0 < v2) && decide (0 < v3)) = false := by simp [r1, r2, r3]
              have He := hide (And.intro hin hst)
              have hfe : fstI l (x, y) (k + 1) = (k : Int) := Fn.out hin hfv
              have hse : cntI l (x, y) (k + 1) = sv := Ck.out hst
              have Hfe := hide hfe
              have Hse := hide hse
              clear hin hst hfe hse Fk Fn Ck Cn
              go_wp2_with fail
              go_roundw
              case rel => exact ⟨k + 1, by omega, by go_num, by rw [Hfe.out], by rw [Hse.out], Hb9.out⟩
              case measure => simp [intOf]; omega
            · skip
              have q1 : 0 ≤ v1 := by omega
              have r1 : 0 < v1 := by omega
              have q2 : 0 ≤ v2 := by omega
              have r2 : 0 < v2 := by omega
              have q3 : 0 ≤ v3 := by omega
              have r3 : ¬ 0 < v3 := by omega
              have hin : (decide (0 ≤ v1) && decide (0 ≤ v2) && decide (0 ≤ v3)) = true := by simp [q1, q2, q3]
              have hst : (decide (0 < v1) && decide (0 < v2) && decide (0 < v3)) = false := by simp [r1, r2, r3]
              have He := hide (And.intro hin hst)
              have hfe : fstI l (x, y) (k + 1) = fv := Fk.out (.inr (by omega))
              have hse : cntI l (x, y) (k + 1) = sv := Ck.out hst
              have Hfe := hide hfe
              have Hse := hide hse
              clear hin hst hfe hse Fk Fn Ck Cn
              go_wp2_with fail
              go_roundw
              case rel => exact ⟨k + 1, by omega, by go_num, by rw [Hfe.out], by rw [Hse.out], Hb9.out⟩
              case measure => simp [intOf]; omega
          · skip
            by_cases hfv : fv < 0
            · skip
              have q1 : 0 ≤ v1 := by omega
              have r1 : 0 < v1 := by omega
              have q2 : 0 ≤ v2 := by omega
              have r2 : 0 < v2 := by omega
              have q3 : 0 ≤ v3 := by omega
              have r3 : 0 < v3 := by omega
              have hin : (decide (0 ≤ v1) && decide (0 ≤ v2) && decide (0 ≤ v3)) = true := by simp [q1, q2, q3]
              have hst : (decide (0 < v1) && decide (0 < v2) && decide (0 < v3)) = true := by simp [r1, r2, r3]
              have He := hide (And.intro hin hst)
              have hfe : fstI l (x, y) (k + 1) = (k : Int) := Fn.out hin hfv
              have hse : cntI l (x, y) (k + 1) = sv + 1 := Cn.out hst
              have Hfe := hide hfe
              have Hse := hide hse
              clear hin hst hfe hse Fk Fn Ck Cn
              go_wp2_with fail
              go_roundw
              case rel => exact ⟨k + 1, by omega, by go_num, by rw [Hfe.out], by rw [Hse.out], Hb9.out⟩
              case measure => simp [intOf]; omega
            · skip
              have q1 : 0 ≤ v1 := by omega
              have r1 : 0 < v1 := by omega
              have q2 : 0 ≤ v2 := by omega
              have r2 : 0 < v2 := by omega
              have q3 : 0 ≤ v3 := by omega
              have r3 : 0 < v3 := by omega
              have hin : (decide (0 ≤ v1) && decide (0 ≤ v2) && decide (0 ≤ v3)) = true := by simp [q1, q2, q3]
              have hst : (decide (0 < v1) && decide (0 < v2) && decide (0 < v3)) = true := by simp [r1, r2, r3]
              have He := hide (And.intro hin hst)
              have hfe : fstI l (x, y) (k + 1) = fv := Fk.out (.inr (by omega))
              have hse : cntI l (x, y) (k + 1) = sv + 1 := Cn.out hst
              have Hfe := hide hfe
              have Hse := hide hse
              clear hin hst hfe hse Fk Fn Ck Cn
              go_wp2_with fail
              go_roundw
              case rel => exact ⟨k + 1, by omega, by go_num, by rw [Hfe.out], by rw [Hse.out], Hb9.out⟩
              case measure => simp [intOf]; omega
    · have hke : k = (cutT l).length := by omega
      have hi : ¬ (k : Int) < ((l.length - 2 : Nat) : Int) := by omega
      have hfN : fstI l (x, y) k = N := by rw [hke]; exact HN.out
      rw [hfN]
      rw [hfN] at f1 f2
      have hcnt := Hcnt.out
      rw [← hke] at hcnt
      clear hbel hfN
      have Hw := hide (below_next Hall.out Hbr.out)
      generalize cntI l (x, y) k = sv at *
      obtain ⟨hc1, hc2⟩ := hcnt
      have ho := Hout.out
      by_cases hkd0 : kd = 0
      · have hN1 : N = -1 := ho.1 hkd0
        have hs0 : sv = 0 := by
          rcases hc1 with q | q
          · exact q
          · have := hc2 (by omega); omega
        subst hkd0 hN1 hs0
        clear hc1 hc2 ho g1 g2 f1 f2 HN Hkd Hcnt Hout
        go_wp2_with fail
        go_ret
        exact ⟨by simp, Hw.out⟩
      · have hN0 : ¬ N < 0 := fun q => hkd0 (ho.2 (by omega))
        have gk : (kd == 0) = false := by rw [beq_eq_false_iff_ne]; exact hkd0
        by_cases hs0 : sv = 0
        · subst hs0
          clear hc1 hc2 ho g1 g2 HN Hkd Hcnt Hout hkd0
          go_wp2_with fail
          go_ret
          exact ⟨by simp, Hw.out⟩
        · have hs1 : sv = 1 := by rcases hc1 with q | q; exact absurd q hs0; exact q
          have hkd1 := hc2 hs0
          subst hs1 hkd1
          clear hc1 hc2 ho g1 g2 HN Hkd Hcnt Hout hkd0 hs0
          go_wp2_with fail
          go_ret
          exact ⟨by simp, Hw.out⟩

end Go.Proofs.Ytlicmfhgjonmnaa
