/- The walk of Finds. Own work. -/
import Derived.Test.YtlicmfhgjonmnaaUi
import Derived.Test.YtlicmfhgjonmnaaUc
import Derived.Test.YtlicmfhgjonmnaaUb
namespace Go.Proofs.Ytlicmfhgjonmnaa
open Go.RowKit
set_option linter.unusedVariables false

theorem ps_of : ∀ l : List (Int × Int), (∀ p ∈ l, (-999 ≤ p.1 ∧ p.1 ≤ 999) ∧ (-999 ≤ p.2 ∧ p.2 ≤ 999)) → ∃ ps : List CP, xy ps = l
  | [], _ => ⟨[], rfl⟩
  | p :: l, h => by
    obtain ⟨ps, e⟩ := ps_of l fun q hq => h q (by simp [hq])
    have hp := h p (by simp)
    exact ⟨mkCP p.1 p.2 hp.1 hp.2 :: ps, by simp only [xy, List.map_cons] at e ⊢; rw [e]; rfl⟩

theorem Rng.ps {l : List (Int × Int)} (h : Rng l) : ∃ ps : List CP, xy ps = l := by
  refine ps_of l fun p hp => ?_
  obtain ⟨k, _, rfl⟩ := mem_pAt hp
  exact h k

theorem rWhere_l (s : ByteArray) (w : World) (hs : s.size ≤ 160) (l : List (Int × Int)) (h : rdAll s 16 0 [] = .inr l) (hr : Rng l) (x y : Int) :
    Calls Try.prog 16 #[.string s, .agg #[.int .i64 x, .int .i64 y]] w fun e w' => Below w.heap.size w w' ∧
      (badF l ≠ -1 → e = .returned (.tuple #[.int .i64 0, .int .i64 0, .int .i64 3, .int .i64 (badF l)])) ∧
      (badF l = -1 → farB x y = true → e = .returned (.tuple #[.int .i64 0, .int .i64 0, .int .i64 4, .int .i64 0])) ∧
      (badF l = -1 → farB x y = false → e = .returned (.tuple #[.int .i64 (placeI l (x, y)).1, .int .i64 (placeI l (x, y)).2, .int .i64 0, .int .i64 0])) := by
  obtain ⟨ps, rfl⟩ := hr.ps
  exact rWhere_meet s x y w hs ps h

theorem Inside_t {w : World} {r g : Nat} {l : List (Int × Int)} {k : Nat} (cap : Nat) (x y : Int) (hr : Rng l) (h16 : l.length ≤ 16) (hP : Bd (x, y)) (tc : TriCells w r g l (cutT l) k (tAt (cutT l) k).1 (tAt (cutT l) k).2.1 (tAt (cutT l) k).2.2) :
    Calls Try.prog 25 #[.slice (some ⟨g, 0, none⟩) l.length cap, .agg #[.int .i64 ((tAt (cutT l) k).1 : Int), .int .i64 ((tAt (cutT l) k).2.1 : Int), .int .i64 ((tAt (cutT l) k).2.2 : Int)], .agg #[.int .i64 x, .int .i64 y]] w fun e w' =>
      e = .returned (.bool (inB l (x, y) (tAt (cutT l) k))) ∧ Below w.heap.size w w' :=
  Inside_c g cap l.length _ _ _ _ _ _ _ _ _ x y w tc.la tc.lb tc.lc h16 tc.a0 tc.a1 tc.b0 tc.b1 tc.c0 tc.c1 (hr.bd _) (hr.bd _) (hr.bd _) hP

set_option maxRecDepth 100000 in
set_option maxHeartbeats 4000000 in
theorem finds_ok (s : ByteArray) (x y : Int) (w : World) (hs : s.size ≤ 160) (l : List (Int × Int)) (h : rdAll s 16 0 [] = .inr l) (hF : badF l = -1) (hfar : farB x y = false) :
    Calls Try.prog 8 #[.string s, .int .i64 x, .int .i64 y] w fun e w' => e = .returned (.bool true) ∧ Below w.heap.size w w' := by
  obtain ⟨h3, h16⟩ := len3 h
  have hsim : Simple l := simple_of_check h3 hF
  have hfi := find_in hsim (x, y)
  have hout := out_first hsim (x, y)
  have hTl := cutT_length h3
  have hbd := farB_false hfar
  have hPB : Bd (x, y) := ⟨by show _ ≤ x; omega, by show x ≤ _; omega, by show _ ≤ y; omega, by show y ≤ _; omega⟩
  have H := hide h
  have HF := hide hF
  have Hfar := hide hfar
  have HPB := hide hPB
  clear h hF hfar hPB
  have HF2 : Hid (findI l (x, y) = firstIn l (x, y)) := hfi
  have Hout : Hid ((placeI l (x, y)).1 = 0 ↔ firstIn l (x, y) = -1) := hout
  clear hfi hout
  go_enter Try.func8, Try.ntmps8
  go_wp2_with fail
  refine (Find_l s _ hs l H.out x y).mono ?_
  rintro e w1 ⟨hrng, hb1, -, -, k1⟩
  obtain rfl := k1 HF.out Hfar.out
  rw [HF2.out]
  have Hrng := hide hrng
  have Hb1 := hide hb1
  clear hb1 k1 hrng
  go_wp2_with fail
  refine (rWhere_l s _ hs l H.out Hrng.out x y).mono ?_
  rintro e w2 ⟨hb2, -, -, k2⟩
  obtain rfl := k2 HF.out Hfar.out
  have p0 : w2.cell? ⟨w1.heap.size, 0, none⟩ = some (.int .i64 x) := by rw [hb2.cell (p := ⟨w1.heap.size, 0, none⟩) (by simp), cell_last _ _ _ _ _ rfl]; rfl
  have p1 : w2.cell? ⟨w1.heap.size, 1, none⟩ = some (.int .i64 y) := by rw [hb2.cell (p := ⟨w1.heap.size, 1, none⟩) (by simp), cell_last _ _ _ _ _ rfl]; rfl
  have hs2 : w1.heap.size < w2.heap.size := by have := hb2.size; simp at this; omega
  have Hb2 := hide (below_next Hb1.out (below_one hb2))
  clear hb2 k2 Hb1
  go_wp2_with fail
  refine (num_any _ _).mono ?_
  rintro e w' ⟨rfl, rfl⟩
  go_wp2_with fail
  refine (Cut_l s _ hs l H.out).mono ?_
  rintro e w3 ⟨-, hb3, -, k3⟩
  obtain ⟨r, cc, rfl, hr, hrow⟩ := k3 HF.out
  have Hb3 := hide hb3
  have Hrow := hide hrow
  clear hb3 k3 hrow
  go_wp2_with fail
  refine (num_any _ _).mono ?_
  rintro e w' ⟨rfl, rfl⟩
  go_wp2_with fail
  refine (Read_l s _ hs l H.out).mono ?_
  rintro e w4 ⟨g, cap, rfl, hb4, hg, hP⟩
  have hr4 : r < w4.heap.size := by have := hb4.size; omega
  have hrow4 : RowT w4 r (cutT l) := Hrow.out.below hb4 hr
  have hs3 := Hb3.out.size
  have q0 : w4.cell? ⟨w1.heap.size, 0, none⟩ = some (.int .i64 x) := by rw [hb4.cell (p := ⟨w1.heap.size, 0, none⟩) (by show w1.heap.size < _; omega), Hb3.out.cell (p := ⟨w1.heap.size, 0, none⟩) hs2]; exact p0
  have q1 : w4.cell? ⟨w1.heap.size, 1, none⟩ = some (.int .i64 y) := by rw [hb4.cell (p := ⟨w1.heap.size, 1, none⟩) (by show w1.heap.size < _; omega), Hb3.out.cell (p := ⟨w1.heap.size, 1, none⟩) hs2]; exact p1
  have hs4 : w1.heap.size < w4.heap.size := by have := hb4.size; omega
  have Hall := hide (below_next Hb2.out (below_next Hb3.out hb4))
  have HP := hide hP
  have HT := hide hrow4
  clear hb4 hP hrow4 Hb2 Hb3 Hrow p0 p1 hs3
  by_cases hk0 : (placeI l (x, y)).1 = 0
  · have hn : firstIn l (x, y) = -1 := Hout.out.1 hk0
    have gk : ((placeI l (x, y)).1 == 0) = true := by rw [hk0]; rfl
    generalize (placeI l (x, y)).1 = kd at *
    rw [hn]
    clear hk0 hn
    go_wp2_with fail
    go_ret
    exact ⟨rfl, Hall.out⟩
  · have gk : ((placeI l (x, y)).1 == 0) = false := by rw [beq_eq_false_iff_ne]; exact hk0
    have hne : firstIn l (x, y) ≠ -1 := fun q => hk0 (Hout.out.2 q)
    have Hne := hide hne
    clear hne hk0 Hout
    generalize (placeI l (x, y)).1 = kd at *
    generalize hN : firstIn l (x, y) = N at *
    have HN := hide hN
    clear hN HF2
    go_wp2_with fail
    go_loopw [20] (fun i wr => ∃ k : Nat, k ≤ (cutT l).length ∧ i = .int .i64 k ∧ (∀ j, j < k → inB l (x, y) (tAt (cutT l) j) = false) ∧ Below w4.heap.size w4 wr) (fun i _ => (cutT l).length - (intOf i).toNat)
    case atStart => exact ⟨0, Nat.zero_le _, rfl, fun j hj => by omega, Below.refl _ _⟩
    case round =>
      obtain ⟨k, hk, rfl, hno, hbel⟩ := hrel
      have Hno := hide hno
      have Hw := hide hbel
      clear hno
      by_cases hlt2 : k < (cutT l).length
      · have hi : (k : Int) < ((l.length - 2 : Nat) : Int) := by omega
        have hi0 : (0 : Int) ≤ (k : Int) := by omega
        have tc := triCells h3 (HT.out.below hbel hr4) (HP.out.below hbel hg) hlt2
        have HIn := hide (Inside_t cap x y Hrng.out h16 HPB.out tc)
        have u0 : wr.cell? ⟨w1.heap.size, 0, none⟩ = some (.int .i64 x) := by rw [hbel.cell (p := ⟨w1.heap.size, 0, none⟩) hs4]; exact q0
        have u1 : wr.cell? ⟨w1.heap.size, 1, none⟩ = some (.int .i64 y) := by rw [hbel.cell (p := ⟨w1.heap.size, 1, none⟩) hs4]; exact q1
        have hsome : inB l (x, y) (tAt (cutT l) k) = true → N = k := fun q => by
          rw [← HN.out]
          exact firstI_some hlt2 q Hno.out
        have Hsome := hide hsome
        have HBk : Hid (inB l (x, y) (tAt (cutT l) k) = inB l (x, y) (tAt (cutT l) k)) := rfl
        clear hsome hbel
        obtain ⟨t0, t1, t2, a0, a1, b0, b1, c0, c1, la, lb, lc⟩ := tc
        generalize hB : inB l (x, y) (tAt (cutT l) k) = B at *
        have HB := hide hB
        clear hB a0 a1 b0 b1 c0 c1 HBk
        generalize (tAt (cutT l) k).1 = a at *
        generalize (tAt (cutT l) k).2.1 = b at *
        generalize (tAt (cutT l) k).2.2 = c at *
        have ia : (a : Int) < (l.length : Int) := by omega
        have ib : (b : Int) < (l.length : Int) := by omega
        have ic : (c : Int) < (l.length : Int) := by omega
        have ia0 : (0 : Int) ≤ (a : Int) := by omega
        have ib0 : (0 : Int) ≤ (b : Int) := by omega
        have ic0 : (0 : Int) ≤ (c : Int) := by omega
        cases B
        · go_wp2_with fail
          refine HIn.out.mono ?_
          rintro e w6 ⟨rfl, hb6⟩
          have H6 := hide (below_next Hw.out hb6)
          clear hb6
          go_wp2_with fail
          go_roundw
          case rel =>
            refine ⟨k + 1, by omega, by go_num, fun j hj => ?_, H6.out⟩
            by_cases e : j = k
            · rw [e]; exact HB.out
            · exact Hno.out j (by omega)
          case measure => simp [intOf]; omega
        · have hNk : N = k := Hsome.out rfl
          have gN : (N == (k : Int)) = true := by rw [hNk]; simp
          clear hNk
          go_wp2_with fail
          refine HIn.out.mono ?_
          rintro e w6 ⟨rfl, hb6⟩
          have H6 := hide (below_next Hall.out (below_next Hw.out hb6))
          clear hb6
          go_wp2_with fail
          go_ret
          exact ⟨rfl, H6.out⟩
      · exfalso
        have hke : k = (cutT l).length := by omega
        apply Hne.out
        rw [← HN.out]
        exact firstI_none fun j hj => Hno.out j (by omega)

end Go.Proofs.Ytlicmfhgjonmnaa
