/- What the calls answer, told by the plain list of corners alone. Own work. -/
import Derived.Test.YtlicmfhgjonmnaaSl
namespace Go.Proofs.Ytlicmfhgjonmnaa
open Go.RowKit
set_option linter.unusedVariables false

/-- The lowest number of an edge that meets another. -/
def badF (l : List (Int × Int)) : Int := firstI (badRow l) l.length

/-- Corners in the range. -/
def Rng (l : List (Int × Int)) : Prop := ∀ i, (-999 ≤ (pAt l i).1 ∧ (pAt l i).1 ≤ 999) ∧ (-999 ≤ (pAt l i).2 ∧ (pAt l i).2 ≤ 999)

theorem rng_xy (ps : List CP) : Rng (xy ps) := fun i => by rw [pAt_xy]; exact ⟨(ptAt ps i).hx, (ptAt ps i).hy⟩

theorem Rng.bd {l : List (Int × Int)} (h : Rng l) (i : Nat) : Bd (pAt l i) := by
  have := h i
  exact ⟨by omega, by omega, by omega, by omega⟩

theorem sumE_map_range (F : (Int × Int) × (Int × Int) → Int) (f : Nat → (Int × Int) × (Int × Int)) : ∀ n, sumE F ((List.range n).map f) = sumI (fun i => F (f i)) n
  | 0 => rfl
  | n + 1 => by
    rw [List.range_succ, List.map_append, sumE_append, sumE_map_range F f n]
    simp [sumE, sumI]

theorem sumI_congr2 {A B : Nat → Int} : ∀ {n : Nat}, (∀ i, i < n → A i = B i) → sumI A n = sumI B n
  | 0, _ => rfl
  | n + 1, h => by
    simp only [sumI]
    rw [sumI_congr2 (n := n) fun i hi => h i (by omega), h n (by omega)]

theorem ar_cp (ps : List CP) (i : Nat) : arE ps i = cp (pAt (xy ps) i) (pAt (xy ps) (nextI (xy ps).length i)) := by
  unfold arE
  rw [crs0, xy_length, pAt_xy, pAt_xy]
  rfl

theorem area_tw (ps : List CP) : sumI (arE ps) ps.length = tw (xy ps) := by
  unfold tw
  rw [edges_list, sumE_map_range, xy_length]
  exact sumI_congr2 fun i _ => by rw [ar_cp, xy_length]

/-- A triangle's area, twice. -/
def trE (l : List (Int × Int)) (T : List (Nat × Nat × Nat)) (i : Nat) : Int := tI (pAt l (tAt T i).1) (pAt l (tAt T i).2.1) (pAt l (tAt T i).2.2)

theorem sumT_take (l : List (Int × Int)) (T : List (Nat × Nat × Nat)) : ∀ n, n ≤ T.length → sumI (trE l T) n = sumT (fun t => tI t.1 t.2.1 t.2.2) ((T.take n).map (pts l))
  | 0, _ => rfl
  | n + 1, h => by
    have hn : n < T.length := h
    rw [List.take_succ_eq_append_getElem hn, List.map_append, sumT_append, ← sumT_take l T n (by omega)]
    have e : tAt T n = T[n] := by unfold tAt; simp [List.getD_eq_getElem?_getD, List.getElem?_eq_getElem hn]
    simp only [sumI, sumT, List.map_cons, List.map_nil, trE, e, pts]
    omega

theorem cutT_good {l : List (Int × Int)} (hs : Simple l) : CutN (ccw l) ((cutT l).map (pts l)) :=
  (Alike.perm ((sortT_perm _).symm.map (pts l))).cut (cut_good hs)

theorem tAt_mem {T : List (Nat × Nat × Nat)} {i : Nat} (h : i < T.length) : tAt T i ∈ T := by
  have e : tAt T i = T[i] := by unfold tAt; simp [List.getD_eq_getElem?_getD, List.getElem?_eq_getElem h]
  rw [e]; exact List.getElem_mem h

theorem pts_mem {l : List (Int × Int)} {T : List (Nat × Nat × Nat)} {i : Nat} (h : i < T.length) : pts l (tAt T i) ∈ T.map (pts l) := List.mem_map.2 ⟨_, tAt_mem h, rfl⟩

/-- SUMS, plain. -/
theorem sums_plain {l : List (Int × Int)} (hs : Simple l) : (∀ i, i < (cutT l).length → 0 < trE l (cutT l) i) ∧ sumI (trE l (cutT l)) (cutT l).length = (tw l).natAbs ∧ 0 < (tw l).natAbs := by
  have g := cutT_good hs
  have a := cut_area hs g.cut
  refine ⟨fun i hi => g.cut.pos _ (pts_mem hi), ?_, a.2⟩
  rw [sumT_take l _ _ (Nat.le_refl _), List.take_length]
  exact a.1

theorem trE_bd {l : List (Int × Int)} (h : Rng l) (T : List (Nat × Nat × Nat)) (i : Nat) : -7984008 ≤ trE l T i ∧ trE l T i ≤ 7984008 := by
  have h1 := h (tAt T i).1
  have h2 := h (tAt T i).2.1
  have h3 := h (tAt T i).2.2
  unfold trE tI
  generalize pAt l (tAt T i).1 = a at *
  generalize pAt l (tAt T i).2.1 = b at *
  generalize pAt l (tAt T i).2.2 = c at *
  have m1 := natAbs_mul_bd (a := b.1 - a.1) (b := c.2 - a.2) (by omega) (by omega)
  have m2 := natAbs_mul_bd (a := b.2 - a.2) (b := c.1 - a.1) (by omega) (by omega)
  omega

theorem sumI_bd2 (F : Nat → Int) (h : ∀ i, -7984008 ≤ F i ∧ F i ≤ 7984008) : ∀ n : Nat, -(7984008 * (n : Int)) ≤ sumI F n ∧ sumI F n ≤ 7984008 * (n : Int)
  | 0 => by simp [sumI]
  | n + 1 => by
    have h1 := sumI_bd2 F h n
    have h2 := h n
    simp only [sumI]
    omega

theorem Area_l (s : ByteArray) (w : World) (hs : s.size ≤ 160) (l : List (Int × Int)) (h : rdAll s 16 0 [] = .inr l) : Calls Try.prog 13 #[.string s] w fun e w' => Rng l ∧ Below w.heap.size w w' ∧
      (badF l ≠ -1 → e = .returned (.tuple #[.int .i64 0, .int .i64 3, .int .i64 (badF l)])) ∧
      (badF l = -1 → e = .returned (.tuple #[.int .i64 (tw l), .int .i64 0, .int .i64 0])) := by
  refine (Area_meet s w hs l h).mono ?_
  rintro e w' ⟨ps, rfl, hb, h1, h2⟩
  have h3 := (len3 h).1
  rw [xy_length] at h3
  rw [first_eq ps h3] at h1 h2
  rw [area_tw] at h2
  exact ⟨rng_xy ps, hb, h1, h2⟩

theorem Cut_l (s : ByteArray) (w : World) (hs : s.size ≤ 160) (l : List (Int × Int)) (h : rdAll s 16 0 [] = .inr l) : Calls Try.prog 17 #[.string s] w fun e w' => Rng l ∧ Below w.heap.size w w' ∧
      (badF l ≠ -1 → e = .returned (.tuple #[.slice none 0 0, .int .i64 3, .int .i64 (badF l)])) ∧
      (badF l = -1 → ∃ r c, e = .returned (.tuple #[.slice (some ⟨r, 0, none⟩) (l.length - 2) c, .int .i64 0, .int .i64 0]) ∧ r < w'.heap.size ∧ RowT w' r (cutT l)) := by
  refine (Cut_meet s w hs l h).mono ?_
  rintro e w' ⟨ps, rfl, hb, h1, h2⟩
  have h3 := (len3 h).1
  rw [xy_length] at h3
  rw [first_eq ps h3] at h1 h2
  exact ⟨rng_xy ps, hb, h1, h2⟩

theorem Where_l (s : ByteArray) (w : World) (hs : s.size ≤ 160) (l : List (Int × Int)) (h : rdAll s 16 0 [] = .inr l) (x y : Int) : Calls Try.prog 15 #[.string s, .agg #[.int .i64 x, .int .i64 y]] w fun e w' => Rng l ∧ Below w.heap.size w w' ∧
      (badF l ≠ -1 → e = .returned (.tuple #[.int .i64 0, .int .i64 0, .int .i64 3, .int .i64 (badF l)])) ∧
      (badF l = -1 → farB x y = true → e = .returned (.tuple #[.int .i64 0, .int .i64 0, .int .i64 4, .int .i64 0])) ∧
      (badF l = -1 → farB x y = false → e = .returned (.tuple #[.int .i64 (placeI l (x, y)).1, .int .i64 (placeI l (x, y)).2, .int .i64 0, .int .i64 0])) := by
  refine (Where_meet s x y w hs l h).mono ?_
  rintro e w' ⟨ps, rfl, hb, h1, h2, h4⟩
  have h3 := (len3 h).1
  rw [xy_length] at h3
  rw [first_eq ps h3] at h1 h2 h4
  refine ⟨rng_xy ps, hb, h1, h2, fun k1 k2 => ?_⟩
  obtain ⟨p, hp, rfl⟩ := h4 k1 k2
  rw [spot_eq]
  have : P p = (x, y) := Prod.ext hp.1 hp.2
  rw [this]

/-- Does a point lie in a triangle, as the program asks? -/
def holdI (l : List (Int × Int)) (p : Int × Int) (t : Nat × Nat × Nat) : Bool := (placeI [pAt l t.1, pAt l t.2.1, pAt l t.2.2] p).1 != 0
def findI (l : List (Int × Int)) (p : Int × Int) : Int := firstI (fun i => holdI l p (tAt (cutT l) i)) (cutT l).length

theorem find_eq (ps : List CP) (p : CP) : findF ps p (cutT (xy ps)) = findI (xy ps) (P p) := by
  unfold findF findI
  refine firstI_congr fun i _ => ?_
  unfold holdB holdI
  rw [spot_eq, pAt_xy, pAt_xy, pAt_xy]
  rfl

theorem Find_l (s : ByteArray) (w : World) (hs : s.size ≤ 160) (l : List (Int × Int)) (h : rdAll s 16 0 [] = .inr l) (x y : Int) : Calls Try.prog 24 #[.string s, .agg #[.int .i64 x, .int .i64 y]] w fun e w' => Rng l ∧ Below w.heap.size w w' ∧
      (badF l ≠ -1 → e = .returned (.tuple #[.int .i64 0, .int .i64 3, .int .i64 (badF l)])) ∧
      (badF l = -1 → farB x y = true → e = .returned (.tuple #[.int .i64 0, .int .i64 4, .int .i64 0])) ∧
      (badF l = -1 → farB x y = false → e = .returned (.tuple #[.int .i64 (findI l (x, y)), .int .i64 0, .int .i64 0])) := by
  refine (Find_meet s x y w hs l h).mono ?_
  rintro e w' ⟨ps, rfl, hb, h1, h2, h4⟩
  have h3 := (len3 h).1
  rw [xy_length] at h3
  rw [first_eq ps h3] at h1 h2 h4
  refine ⟨rng_xy ps, hb, h1, h2, fun k1 k2 => ?_⟩
  obtain ⟨p, hp, rfl⟩ := h4 k1 k2
  rw [find_eq]
  have : P p = (x, y) := Prod.ext hp.1 hp.2
  rw [this]

theorem rCheck_l (s : ByteArray) (w : World) (hs : s.size ≤ 160) (l : List (Int × Int)) (h : rdAll s 16 0 [] = .inr l) (hr : Rng l) : Calls Try.prog 11 #[.string s] w fun e w' => Below w.heap.size w w' ∧
      (badF l ≠ -1 → e = .returned (.tuple #[.int .i64 3, .int .i64 (badF l)])) ∧
      (badF l = -1 → e = .returned (.tuple #[.int .i64 0, .int .i64 0])) :=
  rCheck_meet s w hs l h (fun i => hr.bd i)

theorem Read_l (s : ByteArray) (w : World) (hs : s.size ≤ 160) (l : List (Int × Int)) (h : rdAll s 16 0 [] = .inr l) : Calls Try.prog 18 #[.string s] w fun e w' => ∃ g cap, e = .returned (.tuple #[.slice (some ⟨g, 0, none⟩) l.length cap, .int .i64 (-1)]) ∧ Below w.heap.size w w' ∧ g < w'.heap.size ∧ RowP w' g l := by
  refine (Read_any s w hs).mono ?_
  rintro e w' ⟨v2, v3, rfl, hb, hr⟩
  rw [h] at hr
  obtain ⟨g, cap, rfl, rfl, hg, hrow⟩ := hr
  exact ⟨g, cap, rfl, hb, hg, hrow⟩

end Go.Proofs.Ytlicmfhgjonmnaa
