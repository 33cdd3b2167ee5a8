/- Points half way between corners: where the program finds them; which corners are joined. Own work. -/
import Derived.Test.YtlicmfhgjonmnaaSa
import Derived.Test.YtlicmfhgjonmnaaIe
namespace Go.Proofs.Ytlicmfhgjonmnaa
open Go.RowKit
set_option linter.unusedVariables false

def PH (p : HP) : Int × Int := (p.x, p.y)

theorem pAt_sc (l : List (Int × Int)) (i : Nat) : pAt (l.map (sc 2)) i = sc 2 (pAt l i) := by
  unfold pAt
  rw [List.getD_eq_getElem?_getD, List.getD_eq_getElem?_getD, List.getElem?_map]
  cases l[i]? <;> rfl

theorem sc_P (a : CP) : sc 2 (P a) = (2 * a.x, 2 * a.y) := rfl

theorem holdsH_eq (e : CE) (p : HP) : holdsH e p = onI (sc 2 (P e.a)) (sc 2 (P e.b)) (PH p) := by
  rw [Bool.eq_iff_iff, onI_iff]
  simp only [holdsH, Bool.and_eq_true, beq_iff_eq, decide_eq_true_eq]
  have hc : crsH p e.a e.b = tI (sc 2 (P e.a)) (sc 2 (P e.b)) (PH p) := (tI_cyc (PH p) (sc 2 (P e.a)) (sc 2 (P e.b)))
  have hd : dotH p e.a e.b = (2 * e.a.x - p.x) * (2 * e.b.x - p.x) + (2 * e.a.y - p.y) * (2 * e.b.y - p.y) := rfl
  rw [hc]
  constructor
  · rintro ⟨h1, h2⟩
    refine ⟨h1, ?_⟩
    have h3 : (2 * e.a.x - p.x) * (2 * e.b.y - p.y) - (2 * e.a.y - p.y) * (2 * e.b.x - p.x) = 0 := hc.trans h1
    exact two_neg (cross_sq h3) h2
  · rintro ⟨h1, h2, h3⟩
    refine ⟨h1, ?_⟩
    have h2' : (2 * e.a.x - p.x) * (2 * e.b.x - p.x) ≤ 0 := h2
    have h3' : (2 * e.a.y - p.y) * (2 * e.b.y - p.y) ≤ 0 := h3
    omega

theorem atH_eq (ps : List CP) (p : HP) : cornerH ps p = atI ((xy ps).map (sc 2)) (PH p) := by
  unfold cornerH atI
  rw [List.length_map, xy_length]
  refine firstI_congr fun i _ => ?_
  rw [pAt_sc, pAt_xy]
  show eqH (ptAt ps i) p = _
  unfold eqH
  rw [Bool.eq_iff_iff]
  simp [sc_P, PH]

theorem sideH_eq (ps : List CP) (p : HP) : onEdgeH ps p = sideI ((xy ps).map (sc 2)) (PH p) := by
  unfold onEdgeH sideI
  rw [List.length_map, xy_length]
  refine firstI_congr fun i _ => ?_
  rw [pAt_sc, pAt_sc, pAt_xy, pAt_xy, holdsH_eq]
  rfl

theorem rightH_eq (e : CE) (p : HP) (h : onI (sc 2 (P e.a)) (sc 2 (P e.b)) (PH p) = false) : rightH e p = flipI (sc 2 (P e.a)) (sc 2 (P e.b)) (PH p) := by
  have hc : crsH p e.a e.b = tI (sc 2 (P e.a)) (sc 2 (P e.b)) (PH p) := (tI_cyc (PH p) (sc 2 (P e.a)) (sc 2 (P e.b)))
  unfold rightH
  rw [hc]
  exact right_plain (2 * e.a.y) (2 * e.b.y) p.y _ fun k ht => by
    rw [level_on ht k] at h
    cases h

theorem spotH_eq (ps : List CP) (p : HP) : spotH ps p = placeI ((xy ps).map (sc 2)) (PH p) := by
  unfold spotH placeI
  rw [atH_eq, sideH_eq]
  by_cases h1 : atI ((xy ps).map (sc 2)) (PH p) = -1
  · rw [if_pos h1, if_pos h1]
    by_cases h2 : sideI ((xy ps).map (sc 2)) (PH p) = -1
    · rw [if_pos h2, if_pos h2]
      have hoff : ∀ j, j < ps.length → onI (sc 2 (P (ptAt ps j))) (sc 2 (P (ptAt ps (nextI ps.length j)))) (PH p) = false := by
        intro j hj
        rcases firstI_cases (fun i => onI (pAt ((xy ps).map (sc 2)) i) (pAt ((xy ps).map (sc 2)) (nextI ((xy ps).map (sc 2)).length i)) (PH p)) ((xy ps).map (sc 2)).length with ⟨_, h⟩ | ⟨k, _, hk, _, _⟩
        · have := h j (by rw [List.length_map, xy_length]; exact hj)
          simp only [pAt_sc, pAt_xy, List.length_map, xy_length] at this
          exact this
        · have e : sideI ((xy ps).map (sc 2)) (PH p) = k := hk
          omega
      have hp := parity ((xy ps).map (sc 2)) (PH p) (fun i => within1H (edgeOf ps i) p) ps.length fun i hi => by
        show within1H (edgeOf ps i) p = _
        unfold within1H
        rw [rightH_eq (edgeOf ps i) p (hoff i hi), pAt_sc, pAt_sc, pAt_xy, pAt_xy, List.length_map, xy_length]
        rfl
      rw [List.length_map, xy_length]
      by_cases hc : crossedH ps p % 2 = 1
      · rw [if_pos hc, if_pos (hp.1 hc)]
      · rw [if_neg hc, if_neg fun hh => hc (hp.2 hh)]
    · rw [if_neg h2, if_neg h2]
  · rw [if_neg h1, if_neg h1]

/-- The line between two corners. -/
def lineOf (ps : List CP) (i j : Nat) : CE := ⟨i, j, ptAt ps i, ptAt ps j⟩

theorem bar_eq (ps : List CP) (i j k : Nat) : barB (lineOf ps i j) (edgeOf ps k) = barI (xy ps) i j k := by
  unfold barB barI crossB crossI
  rw [parts_eq, parts_eq, holds_eq, pAt_xy, pAt_xy, pAt_xy, pAt_xy, xy_length]
  have e1 : ((edgeOf ps k).n == (lineOf ps i j).n) = (k == i) := by
    show ((k : Int) == (i : Int)) = _
    rw [Bool.eq_iff_iff, beq_iff_eq, beq_iff_eq]; omega
  have e2 : ((edgeOf ps k).n == (lineOf ps i j).m) = (k == j) := by
    show ((k : Int) == (j : Int)) = _
    rw [Bool.eq_iff_iff, beq_iff_eq, beq_iff_eq]; omega
  rw [e1, e2]
  rfl

theorem bars_eq (ps : List CP) (i j : Nat) : firstI (fun k => barB (lineOf ps i j) (edgeOf ps k)) ps.length = firstI (barI (xy ps) i j) (xy ps).length := by
  rw [xy_length]
  exact firstI_congr fun k _ => bar_eq ps i j k

theorem joinI_ps (ps : List CP) (i j : Nat) (p : HP) (hp : p.x = (ptAt ps i).x + (ptAt ps j).x ∧ p.y = (ptAt ps i).y + (ptAt ps j).y) :
    joinI (xy ps) i j = (decide (firstI (fun k => barB (lineOf ps i j) (edgeOf ps k)) ps.length = -1) && decide ((spotH ps p).1 ≠ 0)) := by
  unfold joinI
  rw [bars_eq, spotH_eq, pAt_xy, pAt_xy]
  have : PH p = md (P (ptAt ps i)) (P (ptAt ps j)) := Prod.ext hp.1 hp.2
  rw [this]

/-- The boxes of a line asked for: the polygon's and the line's. -/
structure LineAt (w : World) (b cap : Nat) (E : CE) (n : Nat) (wr : World) : Prop where
  low : Below w.heap.size w wr
  size : w.heap.size + 2 ≤ wr.heap.size
  box : wr.cell? ⟨w.heap.size, 0, none⟩ = some (.slice (some ⟨b, 0, none⟩) n cap)
  c0 : wr.cell? ⟨w.heap.size + 1, 0, none⟩ = some (.int .i64 E.n)
  c1 : wr.cell? ⟨w.heap.size + 1, 1, none⟩ = some (.int .i64 E.m)
  c2 : wr.cell? ⟨w.heap.size + 1, 2, none⟩ = some (.complex .f64 E.a.re E.a.im)
  c3 : wr.cell? ⟨w.heap.size + 1, 3, none⟩ = some (.complex .f64 E.b.re E.b.im)

theorem LineAt.below {w : World} {b cap : Nat} {E : CE} {n : Nat} {wr w' : World} (h : LineAt w b cap E n wr) (hb : Below wr.heap.size wr w') : LineAt w b cap E n w' := by
  have hs := h.size
  refine ⟨below_next h.low hb, Nat.le_trans hs hb.size, ?_, ?_, ?_, ?_, ?_⟩
  · rw [hb.cell (p := ⟨w.heap.size, 0, none⟩) (by show w.heap.size < _; omega)]; exact h.box
  · rw [hb.cell (p := ⟨w.heap.size + 1, 0, none⟩) (by show w.heap.size + 1 < _; omega)]; exact h.c0
  · rw [hb.cell (p := ⟨w.heap.size + 1, 1, none⟩) (by show w.heap.size + 1 < _; omega)]; exact h.c1
  · rw [hb.cell (p := ⟨w.heap.size + 1, 2, none⟩) (by show w.heap.size + 1 < _; omega)]; exact h.c2
  · rw [hb.cell (p := ⟨w.heap.size + 1, 3, none⟩) (by show w.heap.size + 1 < _; omega)]; exact h.c3

theorem below_al (w : World) (o : Obj) : Below w.heap.size w (w.alloc o) := (Below.refl _ _).alloc (Nat.le_refl _) _
theorem below_dr (w : World) : Below w.heap.size w w.drew := (Below.refl _ _).drew

theorem lineAt_of (w : World) (b cap : Nat) (E : CE) (n : Nat) (t u : TypeId) : LineAt w b cap E n ((w.alloc (.cells #[.slice (some ⟨b, 0, none⟩) n cap] t)).alloc (.cells #[.int .i64 E.n, .int .i64 E.m, .complex .f64 E.a.re E.a.im, .complex .f64 E.b.re E.b.im] u)) := by
  refine ⟨((Below.refl _ _).alloc (Nat.le_refl _) _).alloc (by simp) _, by simp, ?_, ?_, ?_, ?_, ?_⟩
  · rw [cell_under _ _ _ (by simp), cell_last _ _ _ _ _ rfl]; rfl
  all_goals (rw [cell_last _ _ _ _ _ (by simp)]; rfl)

set_option maxRecDepth 100000 in
set_option maxHeartbeats 4000000 in
theorem joins_any (ps : List CP) (b cap i j : Nat) (w : World) (hn : ps.length ≤ 16) (hi : i < ps.length) (hj : j < ps.length) (hlt : b < w.heap.size) (hrow : RowC w b ps) :
    Calls Try.prog 81 #[.agg #[.slice (some ⟨b, 0, none⟩) ps.length cap], .int .i64 i, .int .i64 j] w fun r w' =>
      r = .returned (.bool (joinI (xy ps) i j)) ∧ Below w.heap.size w w' := by
  obtain ⟨p, hp, hmid⟩ := middle_any (lineOf ps i j)
  have hjo := joinI_ps ps i j p hp
  rw [hjo]
  clear hjo
  have ci := hrow i hi
  have cj := hrow j hj
  have hL := lineAt_of w b cap (lineOf ps i j) ps.length 60 86
  have HF : Hid (∀ W W' : World, LineAt w b cap (lineOf ps i j) ps.length W → Below (W.alloc (.cells #[.int .i64 (lineOf ps i j).n, .int .i64 (lineOf ps i j).m, .complex .f64 (lineOf ps i j).a.re (lineOf ps i j).a.im, .complex .f64 (lineOf ps i j).b.re (lineOf ps i j).b.im] 86)).heap.size (W.alloc (.cells #[.int .i64 (lineOf ps i j).n, .int .i64 (lineOf ps i j).m, .complex .f64 (lineOf ps i j).a.re (lineOf ps i j).a.im, .complex .f64 (lineOf ps i j).b.re (lineOf ps i j).b.im] 86)) W' → Calls Try.prog 62 #[.agg #[.slice (some ⟨b, 0, none⟩) ps.length cap], .func (.func 104) #[] #[.pointer (some ⟨W.heap.size, 0, none⟩)]]
      W' fun r w' =>
      r = .returned (.int .i64 (firstI (fun k => barB (lineOf ps i j) (edgeOf ps k)) ps.length)) ∧ LineAt w b cap (lineOf ps i j) ps.length w') := fun W W' hW hb0 => by
    have hlt' : b < W.heap.size := Nat.lt_of_lt_of_le hlt hW.low.size
    have hs0 : W.heap.size + 1 ≤ W'.heap.size := by have := hb0.size; simpa using this
    refine (firstEdge_bar (lineOf ps i j) ps b cap W.heap.size _ hn (by omega) ((hrow.below hW.low hlt).below (below_one hb0) hlt') (by omega) ?_ ?_ ?_ ?_).mono ?_
    · rw [hb0.cell (p := ⟨W.heap.size, 0, none⟩) (by simp), cell_last _ _ _ _ _ rfl]; rfl
    · rw [hb0.cell (p := ⟨W.heap.size, 1, none⟩) (by simp), cell_last _ _ _ _ _ rfl]; rfl
    · rw [hb0.cell (p := ⟨W.heap.size, 2, none⟩) (by simp), cell_last _ _ _ _ _ rfl]; rfl
    · rw [hb0.cell (p := ⟨W.heap.size, 3, none⟩) (by simp), cell_last _ _ _ _ _ rfl]; rfl
    rintro r w' ⟨rfl, hb⟩
    exact ⟨rfl, ((hW.below (below_al W _)).below hb0).below hb⟩
  have HM : Hid (∀ W : World, LineAt w b cap (lineOf ps i j) ps.length W → Calls Try.prog 96 #[.agg #[.int .i64 (lineOf ps i j).n, .int .i64 (lineOf ps i j).m, .complex .f64 (lineOf ps i j).a.re (lineOf ps i j).a.im, .complex .f64 (lineOf ps i j).b.re (lineOf ps i j).b.im]] W fun r w' =>
      r = .returned (.complex .f64 p.re p.im) ∧ LineAt w b cap (lineOf ps i j) ps.length w') := fun W hW => by
    refine (hmid W).mono ?_
    rintro r w' ⟨rfl, hb⟩
    exact ⟨rfl, hW.below hb⟩
  have HS : Hid (∀ W : World, LineAt w b cap (lineOf ps i j) ps.length W → Calls Try.prog 32 #[.agg #[.slice (some ⟨b, 0, none⟩) ps.length cap], .complex .f64 p.re p.im] W fun r w' =>
      r = .returned (.agg #[.int .i64 (spotH ps p).1, .int .i64 (spotH ps p).2]) ∧ LineAt w b cap (lineOf ps i j) ps.length w') := fun W hW => by
    refine (spotOfH_any ps p b cap W hn (Nat.lt_of_lt_of_le hlt hW.low.size) (hrow.below hW.low hlt)).mono ?_
    rintro r w' ⟨rfl, hb⟩
    exact ⟨rfl, hW.below hb⟩
  clear hmid hrow hp
  have hne : b ≠ w.heap.size := by omega
  have hne1 : b ≠ w.heap.size + 1 := by omega
  have i1 : (i : Int) < ps.length := by omega
  have i2 : (j : Int) < ps.length := by omega
  have hst : ∀ (ad : Addr) (x y : Nat) (m : Mode) (w : World), (store ad (.complex .f64 x y) m).run Try.prog w = stored Try.prog w ad (.complex .f64 x y) m := fun ad x y m w => run_store Try.prog w ad _ m rfl
  generalize firstI (fun k => barB (lineOf ps i j) (edgeOf ps k)) ps.length = F at *
  generalize (spotH ps p).1 = S at *
  generalize (spotH ps p).2 = S2 at *
  have hE : lineOf ps i j = ⟨i, j, ptAt ps i, ptAt ps j⟩ := rfl
  rw [hE] at HF HM HS hL
  simp only at HF HM HS hL
  have HL := hide (hL.below (below_dr _))
  clear hL hE
  have hfd : ∀ w : World, (Instr.field 68 (.agg #[.int .i64 S, .int .i64 S2]) 0).run Try.prog w = .ok (.int .i64 S) w := fun _ => by kernel_rfl
  by_cases hF : F = -1
  · have g : (F == -1) = true := by rw [hF]; rfl
    have hres : (decide (F = -1) && decide (S ≠ 0)) = (S != 0) := by
      rw [hF, Bool.eq_iff_iff]; simp
    rw [hres]
    clear hres hF
    go_enter Try.func81, Try.ntmps81
    go_wp2_with fail
    go_region
    go_wp2_with fail
    generalize hW0 : ((w.alloc (.cells #[.slice (some ⟨b, 0, none⟩) ps.length cap] 60)).alloc (.cells #[.int .i64 (i : Int), .int .i64 (j : Int), .complex .f64 (ptAt ps i).re (ptAt ps i).im, .complex .f64 (ptAt ps j).re (ptAt ps j).im] 86)).drew = W0
    have HL0 : Hid (LineAt w b cap ⟨i, j, ptAt ps i, ptAt ps j⟩ ps.length W0) := by rw [← hW0]; exact HL
    clear HL hW0
    obtain ⟨hlow, hsz, hbox, c0, c1, c2, c3⟩ := HL0.out
    simp only at c0 c1 c2 c3
    have qb := under_cell (W := W0) (b := w.heap.size) (i := 0) (by omega) hbox
    clear hlow ci cj
    go_region_with (first
      | (go_at_call 95; refine (isBarredBy_any ⟨i, j, ptAt ps i, ptAt ps j⟩ _).mono ?_; rintro r w' ⟨rfl, rfl⟩)
      | (go_at_call 62; refine (HF.out W0 _ HL0.out ?_).mono ?_; · (repeat (first | exact Below.refl _ _ | refine Below.drew ?_))
         rintro r w3 ⟨rfl, h3⟩; have H3 := hide h3; obtain ⟨l3, z3, b3, d0, d1, d2, d3⟩ := h3; simp only at d0 d1 d2 d3; clear l3)
      | (go_at_call 96; refine (HM.out _ (by first | exact H3.out | exact H3.out.below (below_dr _))).mono ?_
         rintro r w4 ⟨rfl, h4⟩; have H4 := hide h4; obtain ⟨l4, z4, b4, e0, e1, e2, e3⟩ := h4; simp only at e0 e1 e2 e3; clear l4)
      | (go_at_call 32; refine (HS.out _ (by first | exact H4.out | exact H4.out.below (below_dr _))).mono ?_
         rintro r w5 ⟨rfl, h5⟩; have H5 := hide h5; clear h5))
    all_goals go_wp2_with fail
    all_goals go_ret
    all_goals exact ⟨rfl, by (repeat (first | exact H5.out.low | refine Below.drew ?_))⟩
  · have g : (F == -1) = false := by rw [beq_eq_false_iff_ne]; exact hF
    have hres : (decide (F = -1) && decide (S ≠ 0)) = false := by simp [hF]
    rw [hres]
    clear hres hF
    go_enter Try.func81, Try.ntmps81
    go_wp2_with fail
    go_region
    go_wp2_with fail
    generalize hW0 : ((w.alloc (.cells #[.slice (some ⟨b, 0, none⟩) ps.length cap] 60)).alloc (.cells #[.int .i64 (i : Int), .int .i64 (j : Int), .complex .f64 (ptAt ps i).re (ptAt ps i).im, .complex .f64 (ptAt ps j).re (ptAt ps j).im] 86)).drew = W0
    have HL0 : Hid (LineAt w b cap ⟨i, j, ptAt ps i, ptAt ps j⟩ ps.length W0) := by rw [← hW0]; exact HL
    clear HL hW0
    obtain ⟨hlow, hsz, hbox, c0, c1, c2, c3⟩ := HL0.out
    simp only at c0 c1 c2 c3
    have qb := under_cell (W := W0) (b := w.heap.size) (i := 0) (by omega) hbox
    clear hlow ci cj
    go_region_with (first
      | (go_at_call 95; refine (isBarredBy_any ⟨i, j, ptAt ps i, ptAt ps j⟩ _).mono ?_; rintro r w' ⟨rfl, rfl⟩)
      | (go_at_call 62; refine (HF.out W0 _ HL0.out ?_).mono ?_; · (repeat (first | exact Below.refl _ _ | refine Below.drew ?_))
         rintro r w3 ⟨rfl, h3⟩; have H3 := hide h3; clear h3))
    all_goals go_wp2_with fail
    all_goals go_ret
    all_goals exact ⟨rfl, by (repeat (first | exact H3.out.low | refine Below.drew ?_))⟩

end Go.Proofs.Ytlicmfhgjonmnaa
