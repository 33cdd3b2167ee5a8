/- The document's places. Own work. -/
import Derived.Test.YtlicmfhgjonmnaaPd
namespace Go.Proofs.Ytlicmfhgjonmnaa
open Go.RowKit
set_option linter.unusedVariables false

set_option maxHeartbeats 400000 in
theorem Fits_any (x y : Int) (w : World) :
    Calls Try.prog 26 #[.agg #[.int .i64 x, .int .i64 y]] w fun r w' => r = .returned (.bool (!farB x y)) ∧ Below w.heap.size w w' := by
  by_cases h1 : x < -999
  · rw [show farB x y = true by simp [farB, h1]]
    have g : ¬ (-999 : Int) ≤ x := by omega
    go_enter Try.func26, Try.ntmps26
    go_wp2
    go_ret
    exact ⟨rfl, (Below.refl _ _).alloc (Nat.le_refl _) _⟩
  · have g1 : (-999 : Int) ≤ x := by omega
    by_cases h2 : 999 < x
    · rw [show farB x y = true by simp [farB, h2]]
      have g : ¬ x ≤ (999 : Int) := by omega
      go_enter Try.func26, Try.ntmps26
      go_wp2
      go_ret
      exact ⟨rfl, (Below.refl _ _).alloc (Nat.le_refl _) _⟩
    · have g2 : x ≤ (999 : Int) := by omega
      by_cases h3 : y < -999
      · rw [show farB x y = true by simp [farB, h3]]
        have g : ¬ (-999 : Int) ≤ y := by omega
        go_enter Try.func26, Try.ntmps26
        go_wp2
        go_ret
        exact ⟨rfl, (Below.refl _ _).alloc (Nat.le_refl _) _⟩
      · have g3 : (-999 : Int) ≤ y := by omega
        have e : (!farB x y) = decide (y ≤ 999) := by
          by_cases h4 : 999 < y
          · rw [show farB x y = true by simp [farB, h4]]; simp; omega
          · rw [show farB x y = false by simp [farB, h1, h2, h3, h4]]; simp; omega
        rw [e]
        clear e h1 h2 h3
        go_enter Try.func26, Try.ntmps26
        go_wp2
        go_ret
        exact ⟨rfl, (Below.refl _ _).alloc (Nat.le_refl _) _⟩

/-- Does the edge cross the line to the right of p, a hair above it? As the document asks it. -/
def flipI (a b p : Int × Int) : Bool := (decide (a.2 ≤ p.2) && decide (p.2 < b.2) && decide (0 < tI a b p)) || (decide (b.2 ≤ p.2) && decide (p.2 < a.2) && decide (tI a b p < 0))

def inI (l : List (Int × Int)) (p : Int × Int) : Nat → Bool
  | 0 => false
  | n + 1 => inI l p n ^^ flipI (pAt l n) (pAt l (nextI l.length n)) p

def atI (l : List (Int × Int)) (p : Int × Int) : Int := firstI (fun i => decide (pAt l i = p)) l.length
def sideI (l : List (Int × Int)) (p : Int × Int) : Int := firstI (fun i => onI (pAt l i) (pAt l (nextI l.length i)) p) l.length

/-- Where the point lies, as the document tells it. -/
def placeI (l : List (Int × Int)) (p : Int × Int) : Int × Int :=
  if atI l p = -1 then (if sideI l p = -1 then (if inI l p l.length then (1, 0) else (0, 0)) else (2, sideI l p)) else (3, atI l p)

theorem two_cells {w w1 : World} {a1 a2 b1 b2 : Value} {t u : TypeId} (h : Below ((w.alloc (.cells #[a1, a2] t)).alloc (.cells #[b1, b2] u)).heap.size ((w.alloc (.cells #[a1, a2] t)).alloc (.cells #[b1, b2] u)) w1) :
    w.heap.size + 2 ≤ w1.heap.size ∧ w1.cell? ⟨w.heap.size, 0, none⟩ = some a1 ∧ w1.cell? ⟨w.heap.size, 1, none⟩ = some a2 ∧ w1.cell? ⟨w.heap.size + 1, 0, none⟩ = some b1 ∧ w1.cell? ⟨w.heap.size + 1, 1, none⟩ = some b2 := by
  refine ⟨by have := h.size; simpa using this, ?_, ?_, ?_, ?_⟩
  · rw [h.cell (p := ⟨w.heap.size, 0, none⟩) (by simp; omega), cell_under _ _ _ (by simp), cell_last _ _ _ _ _ rfl]; rfl
  · rw [h.cell (p := ⟨w.heap.size, 1, none⟩) (by simp; omega), cell_under _ _ _ (by simp), cell_last _ _ _ _ _ rfl]; rfl
  · rw [h.cell (p := ⟨w.heap.size + 1, 0, none⟩) (by simp), cell_last _ _ _ _ _ (by simp)]; rfl
  · rw [h.cell (p := ⟨w.heap.size + 1, 1, none⟩) (by simp), cell_last _ _ _ _ _ (by simp)]; rfl

theorem flip_up {q1 q2 r1 r2 x y t : Int} (ht : tI (q1, q2) (r1, r2) (x, y) = t) (h1 : q2 ≤ y) (h2 : y < r2) : flipI (q1, q2) (r1, r2) (x, y) = decide (0 < t) := by
  simp only [flipI, ht]
  rw [decide_eq_true h1, decide_eq_true h2, decide_eq_false (show ¬ r2 ≤ y by omega)]
  simp
theorem flip_no {q1 q2 r1 r2 x y : Int} (h1 : q2 ≤ y) (h2 : ¬ y < r2) : flipI (q1, q2) (r1, r2) (x, y) = false := by
  simp only [flipI]
  rw [decide_eq_false h2, decide_eq_false (show ¬ y < q2 by omega)]
  simp
theorem flip_down {q1 q2 r1 r2 x y t : Int} (ht : tI (q1, q2) (r1, r2) (x, y) = t) (h1 : ¬ q2 ≤ y) (h2 : r2 ≤ y) : flipI (q1, q2) (r1, r2) (x, y) = decide (t < 0) := by
  simp only [flipI, ht]
  rw [decide_eq_true h2, decide_eq_true (show y < q2 by omega), decide_eq_false h1]
  simp
theorem flip_not {q1 q2 r1 r2 x y : Int} (h1 : ¬ q2 ≤ y) (h2 : ¬ r2 ≤ y) : flipI (q1, q2) (r1, r2) (x, y) = false := by
  simp only [flipI]
  rw [decide_eq_false h1, decide_eq_false h2]
  simp

set_option maxRecDepth 100000 in
set_option maxHeartbeats 2000000 in
theorem Place_any (l : List (Int × Int)) (hl : l.length ≤ 16) (hB : ∀ i, Bd (pAt l i)) (x y : Int) (hp : Bd (x, y)) (g cap : Nat) (w : World) (hg : g < w.heap.size) (hrow : RowP w g l) :
    Calls Try.prog 34 #[.slice (some ⟨g, 0, none⟩) l.length cap, .agg #[.int .i64 x, .int .i64 y]] w fun r w' =>
      r = .returned (.tuple #[.int .i64 (placeI l (x, y)).1, .int .i64 (placeI l (x, y)).2]) ∧ Below w.heap.size w w' := by
  have Hrow := hide hrow
  have HB := hide hB
  have HP := hide hp
  clear hrow hB hp
  go_enter Try.func34, Try.ntmps34
  go_wp2_with fail
  go_loopw [6] (fun iv wr => ∃ k : Nat, k ≤ l.length ∧ iv = .int .i64 k ∧ (∀ j, j < k → decide (pAt l j = (x, y)) = false) ∧ Below (w.heap.size + 1) (w.alloc (.cells #[.int .i64 x, .int .i64 y] 39)) wr) (fun iv _ => l.length - (intOf iv).toNat)
  case atStart => exact ⟨0, Nat.zero_le _, rfl, fun j h => absurd h (Nat.not_lt_zero _), Below.refl _ _⟩
  case round =>
    obtain ⟨k, hk, rfl, hrows, hbel⟩ := hrel
    have hw : Below w.heap.size w wr := ((Below.refl _ _).alloc (Nat.le_refl _) _).trans (hbel.mono (by omega))
    have hsz : w.heap.size < wr.heap.size := by have := hbel.size; simp at this; omega
    have p0 : wr.cell? ⟨w.heap.size, 0, none⟩ = some (.int .i64 x) := by rw [hbel.cell (p := ⟨w.heap.size, 0, none⟩) (by simp)]; simp
    have p1 : wr.cell? ⟨w.heap.size, 1, none⟩ = some (.int .i64 y) := by rw [hbel.cell (p := ⟨w.heap.size, 1, none⟩) (by simp)]; simp
    have Hrows := hide hrows
    have Hw := hide hw
    have Hbel := hide hbel
    clear hrows hw hbel
    by_cases hlt : k < l.length
    · have hi : (k : Int) < (l.length : Int) := by omega
      have hrw := Hrow.out.below Hw.out hg
      obtain ⟨c1, c2⟩ := hrw k hlt
      clear hrw
      generalize hq : pAt l k = q at c1 c2
      obtain ⟨q1, q2⟩ := q
      have Hq := hide hq
      clear hq
      simp only at c1 c2
      have hgr : g < wr.heap.size := by omega
      by_cases he : (q1, q2) = (x, y)
      · simp only [Prod.mk.injEq] at he
        obtain ⟨rfl, rfl⟩ := he
        go_wp2_with fail
        go_quiet (fail)
        go_wp2_with fail
        go_ret2
        have hF : atI l (q1, q2) = k := firstI_some hlt (by simp [Hq.out]) Hrows.out
        refine ⟨?_, below_drewN Hw.out _⟩
        rw [show placeI l (q1, q2) = (3, atI l (q1, q2)) by unfold placeI; rw [if_neg (by omega)]]
        rw [hF]; rfl
      · have he' : ¬ q1 = x ∨ q1 = x ∧ ¬ q2 = y := by
          by_cases h : q1 = x
          · exact .inr ⟨h, fun h2 => he (by rw [h, h2])⟩
          · exact .inl h
        have He := hide he
        clear he
        rcases he' with h | ⟨rfl, h⟩
        · go_wp2_with fail
          go_quiet (fail)
          go_wp2_with fail
          go_roundw
          case rel =>
            refine ⟨k + 1, by omega, by go_num, fun j hj => ?_, below_drewN Hbel.out _⟩
            by_cases hjk : j = k
            · subst hjk; rw [Hq.out]; exact decide_eq_false He.out
            · exact Hrows.out j (by omega)
          case measure => simp [intOf]; omega
        · go_wp2_with fail
          go_quiet (fail)
          go_wp2_with fail
          go_roundw
          case rel =>
            refine ⟨k + 1, by omega, by go_num, fun j hj => ?_, below_drewN Hbel.out _⟩
            by_cases hjk : j = k
            · subst hjk; rw [Hq.out]; exact decide_eq_false He.out
            · exact Hrows.out j (by omega)
          case measure => simp [intOf]; omega
    · have hi : ¬ (k : Int) < (l.length : Int) := by omega
      have hA : atI l (x, y) = -1 := firstI_none (fun j hj => Hrows.out j (by omega))
      have HA := hide hA
      clear hA Hrows
      go_wp2_with fail
      go_loopw [7, 8] (fun nv iv wq => ∃ k : Nat, k ≤ l.length ∧ iv = .int .i64 k ∧ nv = .bool (inI l (x, y) k) ∧ (∀ j, j < k → onI (pAt l j) (pAt l (nextI l.length j)) (x, y) = false) ∧ Below (w.heap.size + 1) (w.alloc (.cells #[.int .i64 x, .int .i64 y] 39)) wq) (fun _ iv _ => l.length - (intOf iv).toNat)
      case atStart => exact ⟨0, Nat.zero_le _, rfl, rfl, fun j h => absurd h (Nat.not_lt_zero _), Hbel.out⟩
      case round =>
        clear p0 p1 hsz hk hlt hi Hw Hbel
        obtain ⟨k, hk, rfl, rfl, hrows, hbel⟩ := hrel
        have hw : Below w.heap.size w wr := ((Below.refl _ _).alloc (Nat.le_refl _) _).trans (hbel.mono (by omega))
        have hsz : w.heap.size < wr.heap.size := by have := hbel.size; simp at this; omega
        have p0 : wr.cell? ⟨w.heap.size, 0, none⟩ = some (.int .i64 x) := by rw [hbel.cell (p := ⟨w.heap.size, 0, none⟩) (by simp)]; simp
        have p1 : wr.cell? ⟨w.heap.size, 1, none⟩ = some (.int .i64 y) := by rw [hbel.cell (p := ⟨w.heap.size, 1, none⟩) (by simp)]; simp
        have Hrows := hide hrows
        have Hw := hide hw
        have Hbel := hide hbel
        clear hrows hw hbel
        by_cases hlt : k < l.length
        · have hi : (k : Int) < (l.length : Int) := by omega
          have hj : nextI l.length k < l.length := Nat.mod_lt _ (by omega)
          have e1 : ((k : Int) + 1) % (l.length : Int) = (nextI l.length k : Int) := by simp [nextI]
          have e2 : ((k : Int) + 1).tmod (l.length : Int) = (nextI l.length k : Int) := by rw [Int.tmod_eq_emod_of_nonneg (by omega)]; exact e1
          have hrw := Hrow.out.below Hw.out hg
          obtain ⟨c1, c2⟩ := hrw k hlt
          obtain ⟨c3, c4⟩ := hrw (nextI l.length k) hj
          have hin : inI l (x, y) (k + 1) = (inI l (x, y) k ^^ flipI (pAt l k) (pAt l (nextI l.length k)) (x, y)) := rfl
          have bA := HB.out k
          have bB := HB.out (nextI l.length k)
          have HOn := hide (On_any (pAt l k) (pAt l (nextI l.length k)) (x, y) bA bB HP.out)
          have HT := hide (Turn_any (pAt l k) (pAt l (nextI l.length k)) (x, y) bA bB HP.out)
          have Hin := hide hin
          clear hrw hin bA bB
          cases hO : onI (pAt l k) (pAt l (nextI l.length k)) (x, y)
          all_goals
            rw [hO] at HOn
            have HO := hide hO
            clear hO
            generalize pAt l k = q at c1 c2 HOn HT Hin
            generalize pAt l (nextI l.length k) = r at c3 c4 HOn HT Hin
            generalize nextI l.length k = j at e1 e2 hj c3 c4
            generalize inI l (x, y) k = N at Hin ⊢
            obtain ⟨q1, q2⟩ := q
            obtain ⟨r1, r2⟩ := r
            simp only at c1 c2 c3 c4 HOn HT
            have hgr : g < wr.heap.size := by omega
            have hgr1 : g < wr.heap.size + 1 := by omega
            have hz : ((l.length : Int) == 0) = false := beq_eq_false_iff_ne.2 (by omega)
            have ij : (j : Int) < (l.length : Int) := by omega
            have n1 : w.heap.size ≠ wr.heap.size := by omega
            have n2 : w.heap.size ≠ wr.heap.size + 1 := by omega
          · generalize hV : tI (q1, q2) (r1, r2) (x, y) = t at HT
            by_cases g1 : q2 ≤ y
            · by_cases g2 : y < r2
              · have g3 : ¬ r2 ≤ y := by omega
                by_cases g4 : 0 < t
                · have HV2 := hide ((flip_up hV g1 g2).trans (decide_eq_true g4))
                  clear hV
                  go_wp2_with fail
                  refine (HOn.out _).mono ?_
                  rintro e w1 ⟨rfl, hb1⟩
                  obtain ⟨hz1, x1, x2, x3, x4⟩ := two_cells hb1
                  have hb2 := below_two hb1
                  have y0 : w1.cell? ⟨w.heap.size, 0, none⟩ = some (.int .i64 x) := by rw [hb2.cell (p := ⟨w.heap.size, 0, none⟩) hsz]; exact p0
                  have y1 : w1.cell? ⟨w.heap.size, 1, none⟩ = some (.int .i64 y) := by rw [hb2.cell (p := ⟨w.heap.size, 1, none⟩) hsz]; exact p1
                  have Hb1 := hide (Hbel.out.trans (hb2.mono hsz))
                  clear hb1 hb2
                  go_wp2_with fail
                  refine (HT.out _).mono ?_
                  rintro e w2 ⟨rfl, hb2⟩
                  have z1 : w2.cell? ⟨w.heap.size, 1, none⟩ = some (.int .i64 y) := by rw [hb2.cell (p := ⟨w.heap.size, 1, none⟩) (by show w.heap.size < _; omega)]; exact y1
                  have z2 : w2.cell? ⟨wr.heap.size, 1, none⟩ = some (.int .i64 q2) := by rw [hb2.cell (p := ⟨wr.heap.size, 1, none⟩) (by show wr.heap.size < _; omega)]; exact x2
                  have z4 : w2.cell? ⟨wr.heap.size + 1, 1, none⟩ = some (.int .i64 r2) := by rw [hb2.cell (p := ⟨wr.heap.size + 1, 1, none⟩) (by show wr.heap.size + 1 < _; omega)]; exact x4
                  have Hb2 := hide (Hb1.out.trans (hb2.mono (by omega)))
                  clear hb2
                  go_wp2_with fail
                  go_roundw
                  case rel =>
                    refine ⟨k + 1, by omega, by go_num, by rw [Hin.out, HV2.out]; cases N <;> rfl, fun j hj => ?_, Hb2.out⟩
                    by_cases hjk : j = k
                    · subst hjk; exact HO.out
                    · exact Hrows.out j (by omega)
                  case measure => simp [intOf]; omega
                · have HV2 := hide ((flip_up hV g1 g2).trans (decide_eq_false g4))
                  clear hV
                  go_wp2_with fail
                  refine (HOn.out _).mono ?_
                  rintro e w1 ⟨rfl, hb1⟩
                  obtain ⟨hz1, x1, x2, x3, x4⟩ := two_cells hb1
                  have hb2 := below_two hb1
                  have y0 : w1.cell? ⟨w.heap.size, 0, none⟩ = some (.int .i64 x) := by rw [hb2.cell (p := ⟨w.heap.size, 0, none⟩) hsz]; exact p0
                  have y1 : w1.cell? ⟨w.heap.size, 1, none⟩ = some (.int .i64 y) := by rw [hb2.cell (p := ⟨w.heap.size, 1, none⟩) hsz]; exact p1
                  have Hb1 := hide (Hbel.out.trans (hb2.mono hsz))
                  clear hb1 hb2
                  go_wp2_with fail
                  refine (HT.out _).mono ?_
                  rintro e w2 ⟨rfl, hb2⟩
                  have z1 : w2.cell? ⟨w.heap.size, 1, none⟩ = some (.int .i64 y) := by rw [hb2.cell (p := ⟨w.heap.size, 1, none⟩) (by show w.heap.size < _; omega)]; exact y1
                  have z2 : w2.cell? ⟨wr.heap.size, 1, none⟩ = some (.int .i64 q2) := by rw [hb2.cell (p := ⟨wr.heap.size, 1, none⟩) (by show wr.heap.size < _; omega)]; exact x2
                  have z4 : w2.cell? ⟨wr.heap.size + 1, 1, none⟩ = some (.int .i64 r2) := by rw [hb2.cell (p := ⟨wr.heap.size + 1, 1, none⟩) (by show wr.heap.size + 1 < _; omega)]; exact x4
                  have Hb2 := hide (Hb1.out.trans (hb2.mono (by omega)))
                  clear hb2
                  go_wp2_with fail
                  go_roundw
                  case rel =>
                    refine ⟨k + 1, by omega, by go_num, by rw [Hin.out, HV2.out]; cases N <;> rfl, fun j hj => ?_, Hb2.out⟩
                    by_cases hjk : j = k
                    · subst hjk; exact HO.out
                    · exact Hrows.out j (by omega)
                  case measure => simp [intOf]; omega
              · have g3 : r2 ≤ y := by omega
                have g4 : ¬ y < q2 := by omega
                have HV2 := hide (flip_no (q1 := q1) (r1 := r1) (x := x) g1 g2)
                clear hV
                go_wp2_with fail
                refine (HOn.out _).mono ?_
                rintro e w1 ⟨rfl, hb1⟩
                obtain ⟨hz1, x1, x2, x3, x4⟩ := two_cells hb1
                have hb2 := below_two hb1
                have y0 : w1.cell? ⟨w.heap.size, 0, none⟩ = some (.int .i64 x) := by rw [hb2.cell (p := ⟨w.heap.size, 0, none⟩) hsz]; exact p0
                have y1 : w1.cell? ⟨w.heap.size, 1, none⟩ = some (.int .i64 y) := by rw [hb2.cell (p := ⟨w.heap.size, 1, none⟩) hsz]; exact p1
                have Hb1 := hide (Hbel.out.trans (hb2.mono hsz))
                clear hb1 hb2
                go_wp2_with fail
                go_roundw
                case rel =>
                  refine ⟨k + 1, by omega, by go_num, by rw [Hin.out, HV2.out]; cases N <;> rfl, fun j hj => ?_, Hb1.out⟩
                  by_cases hjk : j = k
                  · subst hjk; exact HO.out
                  · exact Hrows.out j (by omega)
                case measure => simp [intOf]; omega
            · have g2 : y < q2 := by omega
              by_cases g3 : r2 ≤ y
              · by_cases g4 : t < 0
                · have HV2 := hide ((flip_down hV g1 g3).trans (decide_eq_true g4))
                  clear hV
                  go_wp2_with fail
                  refine (HOn.out _).mono ?_
                  rintro e w1 ⟨rfl, hb1⟩
                  obtain ⟨hz1, x1, x2, x3, x4⟩ := two_cells hb1
                  have hb2 := below_two hb1
                  have y0 : w1.cell? ⟨w.heap.size, 0, none⟩ = some (.int .i64 x) := by rw [hb2.cell (p := ⟨w.heap.size, 0, none⟩) hsz]; exact p0
                  have y1 : w1.cell? ⟨w.heap.size, 1, none⟩ = some (.int .i64 y) := by rw [hb2.cell (p := ⟨w.heap.size, 1, none⟩) hsz]; exact p1
                  have Hb1 := hide (Hbel.out.trans (hb2.mono hsz))
                  clear hb1 hb2
                  go_wp2_with fail
                  refine (HT.out _).mono ?_
                  rintro e w2 ⟨rfl, hb2⟩
                  have z1 : w2.cell? ⟨w.heap.size, 1, none⟩ = some (.int .i64 y) := by rw [hb2.cell (p := ⟨w.heap.size, 1, none⟩) (by show w.heap.size < _; omega)]; exact y1
                  have z2 : w2.cell? ⟨wr.heap.size, 1, none⟩ = some (.int .i64 q2) := by rw [hb2.cell (p := ⟨wr.heap.size, 1, none⟩) (by show wr.heap.size < _; omega)]; exact x2
                  have z4 : w2.cell? ⟨wr.heap.size + 1, 1, none⟩ = some (.int .i64 r2) := by rw [hb2.cell (p := ⟨wr.heap.size + 1, 1, none⟩) (by show wr.heap.size + 1 < _; omega)]; exact x4
                  have Hb2 := hide (Hb1.out.trans (hb2.mono (by omega)))
                  clear hb2
                  go_wp2_with fail
                  go_roundw
                  case rel =>
                    refine ⟨k + 1, by omega, by go_num, by rw [Hin.out, HV2.out]; cases N <;> rfl, fun j hj => ?_, Hb2.out⟩
                    by_cases hjk : j = k
                    · subst hjk; exact HO.out
                    · exact Hrows.out j (by omega)
                  case measure => simp [intOf]; omega
                · have HV2 := hide ((flip_down hV g1 g3).trans (decide_eq_false g4))
                  clear hV
                  go_wp2_with fail
                  refine (HOn.out _).mono ?_
                  rintro e w1 ⟨rfl, hb1⟩
                  obtain ⟨hz1, x1, x2, x3, x4⟩ := two_cells hb1
                  have hb2 := below_two hb1
                  have y0 : w1.cell? ⟨w.heap.size, 0, none⟩ = some (.int .i64 x) := by rw [hb2.cell (p := ⟨w.heap.size, 0, none⟩) hsz]; exact p0
                  have y1 : w1.cell? ⟨w.heap.size, 1, none⟩ = some (.int .i64 y) := by rw [hb2.cell (p := ⟨w.heap.size, 1, none⟩) hsz]; exact p1
                  have Hb1 := hide (Hbel.out.trans (hb2.mono hsz))
                  clear hb1 hb2
                  go_wp2_with fail
                  refine (HT.out _).mono ?_
                  rintro e w2 ⟨rfl, hb2⟩
                  have z1 : w2.cell? ⟨w.heap.size, 1, none⟩ = some (.int .i64 y) := by rw [hb2.cell (p := ⟨w.heap.size, 1, none⟩) (by show w.heap.size < _; omega)]; exact y1
                  have z2 : w2.cell? ⟨wr.heap.size, 1, none⟩ = some (.int .i64 q2) := by rw [hb2.cell (p := ⟨wr.heap.size, 1, none⟩) (by show wr.heap.size < _; omega)]; exact x2
                  have z4 : w2.cell? ⟨wr.heap.size + 1, 1, none⟩ = some (.int .i64 r2) := by rw [hb2.cell (p := ⟨wr.heap.size + 1, 1, none⟩) (by show wr.heap.size + 1 < _; omega)]; exact x4
                  have Hb2 := hide (Hb1.out.trans (hb2.mono (by omega)))
                  clear hb2
                  go_wp2_with fail
                  go_roundw
                  case rel =>
                    refine ⟨k + 1, by omega, by go_num, by rw [Hin.out, HV2.out]; cases N <;> rfl, fun j hj => ?_, Hb2.out⟩
                    by_cases hjk : j = k
                    · subst hjk; exact HO.out
                    · exact Hrows.out j (by omega)
                  case measure => simp [intOf]; omega
              · have HV2 := hide (flip_not (q1 := q1) (r1 := r1) (x := x) g1 g3)
                clear hV
                go_wp2_with fail
                refine (HOn.out _).mono ?_
                rintro e w1 ⟨rfl, hb1⟩
                obtain ⟨hz1, x1, x2, x3, x4⟩ := two_cells hb1
                have hb2 := below_two hb1
                have y0 : w1.cell? ⟨w.heap.size, 0, none⟩ = some (.int .i64 x) := by rw [hb2.cell (p := ⟨w.heap.size, 0, none⟩) hsz]; exact p0
                have y1 : w1.cell? ⟨w.heap.size, 1, none⟩ = some (.int .i64 y) := by rw [hb2.cell (p := ⟨w.heap.size, 1, none⟩) hsz]; exact p1
                have Hb1 := hide (Hbel.out.trans (hb2.mono hsz))
                clear hb1 hb2
                go_wp2_with fail
                go_roundw
                case rel =>
                  refine ⟨k + 1, by omega, by go_num, by rw [Hin.out, HV2.out]; cases N <;> rfl, fun j hj => ?_, Hb1.out⟩
                  by_cases hjk : j = k
                  · subst hjk; exact HO.out
                  · exact Hrows.out j (by omega)
                case measure => simp [intOf]; omega
          · go_wp2_with fail
            refine (HOn.out _).mono ?_
            rintro e w1 ⟨rfl, hb1⟩
            have Hb1 := hide (below_two hb1)
            clear hb1
            go_wp2_with fail
            go_ret2
            have hF : sideI l (x, y) = k := firstI_some hlt HO.out Hrows.out
            refine ⟨?_, below_next Hw.out Hb1.out⟩
            rw [show placeI l (x, y) = (2, sideI l (x, y)) by unfold placeI; rw [if_pos HA.out, if_neg (by omega)]]
            rw [hF]; rfl
        · have hi : ¬ (k : Int) < (l.length : Int) := by omega
          have hke : k = l.length := by omega
          subst hke
          have hS : sideI l (x, y) = -1 := firstI_none (fun j hj => Hrows.out j hj)
          have HS := hide hS
          clear hS Hrows
          cases hN : inI l (x, y) l.length
          · have HN := hide hN
            clear hN
            go_wp2_with fail
            go_ret2
            refine ⟨?_, Hw.out⟩
            rw [show placeI l (x, y) = (0, 0) by unfold placeI; rw [if_pos HA.out, if_pos HS.out, HN.out]; rfl]
            rfl
          · have HN := hide hN
            clear hN
            go_wp2_with fail
            go_ret2
            refine ⟨?_, Hw.out⟩
            rw [show placeI l (x, y) = (1, 0) by unfold placeI; rw [if_pos HA.out, if_pos HS.out, HN.out]; rfl]
            rfl

end Go.Proofs.Ytlicmfhgjonmnaa
