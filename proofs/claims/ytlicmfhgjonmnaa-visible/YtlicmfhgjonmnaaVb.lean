/- The walk of Visible. Own work. -/
import Derived.Test.YtlicmfhgjonmnaaVa
namespace Go.Proofs.Ytlicmfhgjonmnaa
open Go.RowKit
set_option linter.unusedVariables false

theorem Within_c (ax ay bx by' cx cy dx dy : Int) (W : World) (ha : B9 (ax, ay)) (hb : B9 (bx, by')) (hc : B9 (cx, cy)) (hd : B9 (dx, dy)) :
    Calls Try.prog 21 #[.agg #[.int .i64 ax, .int .i64 ay], .agg #[.int .i64 bx, .int .i64 by'], .agg #[.int .i64 cx, .int .i64 cy], .agg #[.int .i64 dx, .int .i64 dy]] W fun e w' =>
      e = .returned (.bool (decide (0 < inC (ax, ay) (bx, by') (cx, cy) (dx, dy)))) ∧ Below W.heap.size W w' := Within_any (ax, ay) (bx, by') (cx, cy) (dx, dy) ha hb hc hd W

theorem within_grown_c (W : World) (ax ay bx by' cx cy dx dy : Int) (ha : B9 (ax, ay)) (hb : B9 (bx, by')) (hc : B9 (cx, cy)) (hd : B9 (dx, dy)) (d : Nat) (os : Array Obj) :
    Calls Try.prog 21 #[.agg #[.int .i64 ax, .int .i64 ay], .agg #[.int .i64 bx, .int .i64 by'], .agg #[.int .i64 cx, .int .i64 cy], .agg #[.int .i64 dx, .int .i64 dy]] (Sort.grow (redrawn W d) os) fun e w'' => e = .returned (.bool (decide (0 < inC (ax, ay) (bx, by') (cx, cy) (dx, dy)))) ∧ ∃ p : Regrown, w'' = Sort.grow (redrawn W p.d) p.os :=
  Calls.regrown_of (Within_c ax ay bx by' cx cy dx dy _ ha hb hc hd)

/-- What the walk reads behind the pick of the triangle. -/
structure VisCells (w : World) (x g : Nat) (a b c v : Nat) (ax ay bx by' cx cy vx vy : Int) : Prop where
  t0 : w.cell? ⟨x, 0, none⟩ = some (.int .i64 a)
  t1 : w.cell? ⟨x, 1, none⟩ = some (.int .i64 b)
  t2 : w.cell? ⟨x, 2, none⟩ = some (.int .i64 c)
  a0 : w.cell? ⟨g, a * 2, none⟩ = some (.int .i64 ax)
  a1 : w.cell? ⟨g, a * 2 + 1, none⟩ = some (.int .i64 ay)
  b0 : w.cell? ⟨g, b * 2, none⟩ = some (.int .i64 bx)
  b1 : w.cell? ⟨g, b * 2 + 1, none⟩ = some (.int .i64 by')
  c0 : w.cell? ⟨g, c * 2, none⟩ = some (.int .i64 cx)
  c1 : w.cell? ⟨g, c * 2 + 1, none⟩ = some (.int .i64 cy)
  v0 : w.cell? ⟨g, v * 2, none⟩ = some (.int .i64 vx)
  v1 : w.cell? ⟨g, v * 2 + 1, none⟩ = some (.int .i64 vy)

theorem VisCells.below {w w' : World} {x g a b c v : Nat} {ax ay bx by' cx cy vx vy : Int} (h : VisCells w x g a b c v ax ay bx by' cx cy vx vy) (hb : Below w.heap.size w w') : VisCells w' x g a b c v ax ay bx by' cx cy vx vy := by
  have hx : x < w.heap.size := World.block_lt_of_cell? w _ h.t0
  have hg : g < w.heap.size := World.block_lt_of_cell? w _ h.a0
  exact ⟨(hb.cell (p := ⟨x, 0, none⟩) hx).trans h.t0, (hb.cell (p := ⟨x, 1, none⟩) hx).trans h.t1, (hb.cell (p := ⟨x, 2, none⟩) hx).trans h.t2,
    (hb.cell (p := ⟨g, a * 2, none⟩) hg).trans h.a0, (hb.cell (p := ⟨g, a * 2 + 1, none⟩) hg).trans h.a1,
    (hb.cell (p := ⟨g, b * 2, none⟩) hg).trans h.b0, (hb.cell (p := ⟨g, b * 2 + 1, none⟩) hg).trans h.b1,
    (hb.cell (p := ⟨g, c * 2, none⟩) hg).trans h.c0, (hb.cell (p := ⟨g, c * 2 + 1, none⟩) hg).trans h.c1,
    (hb.cell (p := ⟨g, v * 2, none⟩) hg).trans h.v0, (hb.cell (p := ⟨g, v * 2 + 1, none⟩) hg).trans h.v1⟩

theorem wr27 {n : Int} (h1 : -26973 ≤ n) (h2 : n ≤ 26973) : IntKind.i64.wrap n = n := by
  rw [IntKind.wrap_i64]; omega

theorem wt27 {i x : Int} (h1 : 1 ≤ i) (h2 : i ≤ 27) (h3 : -999 ≤ x) (h4 : x ≤ 999) : -26973 ≤ i * x ∧ i * x ≤ 26973 := by
  have : (i * x).natAbs ≤ 27 * 999 := by rw [Int.natAbs_mul]; exact Nat.mul_le_mul (by omega) (by omega)
  omega

theorem wt9 {i x : Int} (h1 : 1 ≤ i) (h2 : i ≤ 9) (h3 : -999 ≤ x) (h4 : x ≤ 999) : -8991 ≤ i * x ∧ i * x ≤ 8991 := by
  have : (i * x).natAbs ≤ 9 * 999 := by rw [Int.natAbs_mul]; exact Nat.mul_le_mul (by omega) (by omega)
  omega

set_option maxRecDepth 100000 in
set_option maxHeartbeats 4000000 in
theorem visible_ok (s : ByteArray) (wh co aa ab ac : Int) (w : World) (hs : s.size ≤ 160) (l : List (Int × Int)) (h : rdAll s 16 0 [] = .inr l) (hF : badF l = -1) :
    Calls Try.prog 7 #[.string s, .int .i64 wh, .int .i64 co, .int .i64 aa, .int .i64 ab, .int .i64 ac] w fun e w' => e = .returned (.bool true) ∧ Below w.heap.size w w' := by
  obtain ⟨h3, h16⟩ := len3 h
  have hsim : Simple l := simple_of_check h3 hF
  have hTl := cutT_length h3
  have H := hide h
  have HF := hide hF
  have Hsim := hide hsim
  clear h hF hsim
  go_enter Try.func7, Try.ntmps7
  go_wp2_with fail
  refine (Cut_l s _ hs l H.out).mono ?_
  rintro e w2 ⟨hrng, hb2, -, k2⟩
  obtain ⟨r, cc, rfl, hr, hrow⟩ := k2 HF.out
  have Hrng := hide hrng
  have Hb2 := hide hb2
  have Hrow := hide hrow
  clear hb2 k2 hrow hrng
  go_wp2_with fail
  refine (rCheck_l s _ hs l H.out Hrng.out).mono ?_
  rintro e w3 ⟨hb3, -, k3⟩
  obtain rfl := k3 HF.out
  have Hb3 := hide hb3
  clear hb3 k3
  go_wp2_with fail
  refine (num_any _ _).mono ?_
  rintro e w' ⟨rfl, rfl⟩
  go_wp2_with fail
  refine (Read_l s _ hs l H.out).mono ?_
  rintro e w4 ⟨g, cap, rfl, hb4, hg, hP⟩
  have hr4 : r < w4.heap.size := by have := Hb3.out.size; have := hb4.size; omega
  have hrow4 : RowT w4 r (cutT l) := (Hrow.out.below Hb3.out hr).below hb4 (Nat.lt_of_lt_of_le hr Hb3.out.size)
  have Hall := hide (below_next Hb2.out (below_next Hb3.out hb4))
  have HP := hide hP
  have HT := hide hrow4
  clear hb4 hP hrow4 Hb2 Hb3 Hrow
  have hsub : ((l.length : Nat) : Int) - 2 = ((l.length - 2 : Nat) : Int) := by omega
  go_wp2_with fail
  refine (pick_any wh (l.length - 2) _ (by omega) (by omega)).mono ?_
  rintro e w5 ⟨⟨k, hk, rfl⟩, rfl⟩
  have hlt2 : k < (cutT l).length := by omega
  have tc := triCells h3 HT.out HP.out hlt2
  have hHas : Has ((cutT l).map (pts l)) (pAt l (tAt (cutT l) k).1) (pAt l (tAt (cutT l) k).2.1) (pAt l (tAt (cutT l) k).2.2) := .inl (pts_mem hlt2)
  have HHas := hide hHas
  clear hHas
  generalize (tAt (cutT l) k).1 = a at *
  generalize (tAt (cutT l) k).2.1 = b at *
  generalize (tAt (cutT l) k).2.2 = c at *
  obtain ⟨t0, t1, t2, a0, a1, b0, b1, c0, c1, la, lb, lc⟩ := tc
  have hi0 : (0 : Int) ≤ (k : Int) := by omega
  have hi : (k : Int) < ((l.length - 2 : Nat) : Int) := by omega
  go_wp2_with fail
  refine (pick_any co l.length _ (by omega) (by omega)).mono ?_
  rintro e w' ⟨⟨v, hv, rfl⟩, rfl⟩
  have ia : (a : Int) < (l.length : Int) := by omega
  have ib : (b : Int) < (l.length : Int) := by omega
  have ic : (c : Int) < (l.length : Int) := by omega
  have iv : (v : Int) < (l.length : Int) := by omega
  have ia0 : (0 : Int) ≤ (a : Int) := by omega
  have ib0 : (0 : Int) ≤ (b : Int) := by omega
  have ic0 : (0 : Int) ≤ (c : Int) := by omega
  have iv0 : (0 : Int) ≤ (v : Int) := by omega
  go_wp2_with fail
  have hg5 : g < w5.heap.size := hg
  have p0 := HP.out v hv
  have hbW : Below w5.heap.size w5 (w5.alloc (.cells #[.int .i64 (a : Int), .int .i64 (b : Int), .int .i64 (c : Int)] 48)) := (Below.refl _ _).alloc (Nat.le_refl _) _
  have hI : VisCells (w5.alloc (.cells #[.int .i64 (a : Int), .int .i64 (b : Int), .int .i64 (c : Int)] 48)) w5.heap.size g a b c v (pAt l a).1 (pAt l a).2 (pAt l b).1 (pAt l b).2 (pAt l c).1 (pAt l c).2 (pAt l v).1 (pAt l v).2 := by
    refine ⟨?_, ?_, ?_, (hbW.cell (p := ⟨g, a * 2, none⟩) hg).trans a0, (hbW.cell (p := ⟨g, a * 2 + 1, none⟩) hg).trans a1, (hbW.cell (p := ⟨g, b * 2, none⟩) hg).trans b0, (hbW.cell (p := ⟨g, b * 2 + 1, none⟩) hg).trans b1,
      (hbW.cell (p := ⟨g, c * 2, none⟩) hg).trans c0, (hbW.cell (p := ⟨g, c * 2 + 1, none⟩) hg).trans c1, (hbW.cell (p := ⟨g, v * 2, none⟩) hg).trans p0.1, (hbW.cell (p := ⟨g, v * 2 + 1, none⟩) hg).trans p0.2⟩
    all_goals (rw [cell_last _ _ _ _ _ rfl]; rfl)
  clear t0 t1 t2 a0 a1 b0 b1 c0 c1 p0 HT
  have HP6 := hide (HP.out.below hbW hg)
  have Hall6 := hide (below_next Hall.out hbW)
  have hg6 : g < (w5.alloc (.cells #[.int .i64 (a : Int), .int .i64 (b : Int), .int .i64 (c : Int)] 48)).heap.size := by simp; omega
  clear hbW HP Hall
  generalize w5.alloc (.cells #[.int .i64 (a : Int), .int .i64 (b : Int), .int .i64 (c : Int)] 48) = w6 at *
  generalize w5.heap.size = x at *
  have B1 : B9 ((pAt l a).1, (pAt l a).2) := Hrng.out.b9 a
  have B2 : B9 ((pAt l b).1, (pAt l b).2) := Hrng.out.b9 b
  have B3 : B9 ((pAt l c).1, (pAt l c).2) := Hrng.out.b9 c
  have B4 : B9 ((pAt l v).1, (pAt l v).2) := Hrng.out.b9 v
  have k0 := cell_regrown hI.t0
  have k1 := cell_regrown hI.t1
  have k2 := cell_regrown hI.t2
  have k3 := cell_regrown hI.a0
  have k4 := cell_regrown hI.a1
  have k5 := cell_regrown hI.b0
  have k6 := cell_regrown hI.b1
  have k7 := cell_regrown hI.c0
  have k8 := cell_regrown hI.c1
  have k9 := cell_regrown hI.v0
  have k10 := cell_regrown hI.v1
  have HI := hide hI
  clear hI
  have mx := mixed
  refine wp_region_quiet_below (by assumption) (by kernel_rfl) ?_
  repeat (first | go_big_quiet_step ((first | (go_at_call 21; exact within_grown_c _ _ _ _ _ _ _ _ _ (by assumption) (by assumption) (by assumption) (by assumption) _ _))) | quiet_step (first | (go_at_call 21; exact within_grown_c _ _ _ _ _ _ _ _ _ (by assumption) (by assumption) (by assumption) (by assumption) _ _)))
  refine wpQuiet_nil ?_
  intro _ hw'
  obtain ⟨⟨dq, osq⟩, hw''⟩ := hw'
  subst hw''
  have hb7 := below_regrown w6 dq osq
  clear k0 k1 k2 k3 k4 k5 k6 k7 k8 k9 k10
  have hI7 := HI.out.below hb7
  have HP7 := hide (HP6.out.below hb7 hg6)
  have Hall7 := hide (below_next Hall6.out hb7)
  have hg7 := Nat.lt_of_lt_of_le hg6 hb7.size
  clear HI HP6 Hall6 hb7
  generalize Sort.grow (redrawn w6 dq) osq = w7 at *
  generalize hB : decide (0 < inC ((pAt l a).1, (pAt l a).2) ((pAt l b).1, (pAt l b).2) ((pAt l c).1, (pAt l c).2) ((pAt l v).1, (pAt l v).2)) = B
  cases B
  · clear hI7
    go_wp2_with fail
    go_ret
    exact ⟨rfl, Hall7.out⟩
  · have hin : 0 < inC (pAt l a) (pAt l b) (pAt l c) (pAt l v) := of_decide_eq_true hB
    have hpl := fun (i j k : Int) (hi : 0 < i) (hj : 0 < j) (hk : 0 < k) => cut_hidden Hsim.out (cutT_good Hsim.out) (pAt_mem hv) HHas.out hin hi hj hk
    have Hpl := hide hpl
    clear hB hin hpl HHas
    go_wp2_with fail
    refine (part_any aa _).mono ?_
    rintro e w' ⟨⟨i, i1, i2, rfl⟩, rfl⟩
    go_wp2_with fail
    refine (part_any ab _).mono ?_
    rintro e w' ⟨⟨j, j1, j2, rfl⟩, rfl⟩
    go_wp2_with fail
    refine (part_any ac _).mono ?_
    rintro e w8 ⟨⟨q, q1, q2, rfl⟩, rfl⟩
    go_wp2_with fail
    obtain ⟨t0, t1, t2, a0, a1, b0, b1, c0, c1, v0, v1⟩ := hI7
    obtain ⟨m1, n1⟩ := wt9 (i := i) (x := (pAt l a).1) i1 i2 B1.x1 B1.x2
    obtain ⟨m2, n2⟩ := wt9 (i := i) (x := (pAt l a).2) i1 i2 B1.y1 B1.y2
    obtain ⟨m3, n3⟩ := wt9 (i := j) (x := (pAt l b).1) j1 j2 B2.x1 B2.x2
    obtain ⟨m4, n4⟩ := wt9 (i := j) (x := (pAt l b).2) j1 j2 B2.y1 B2.y2
    obtain ⟨m5, n5⟩ := wt9 (i := q) (x := (pAt l c).1) q1 q2 B3.x1 B3.x2
    obtain ⟨m6, n6⟩ := wt9 (i := q) (x := (pAt l c).2) q1 q2 B3.y1 B3.y2
    obtain ⟨m7, n7⟩ := wt27 (i := i + j + q) (x := (pAt l v).1) (by omega) (by omega) B4.x1 B4.x2
    obtain ⟨m8, n8⟩ := wt27 (i := i + j + q) (x := (pAt l v).2) (by omega) (by omega) B4.y1 B4.y2
    have e0 := World.new_ne w8 _ t0
    have e1 := World.new_ne w8 _ a0
    simp only at e0 e1
    clear B1 B2 B3 B4
    go_region_held3 (fun w' => w'.cell? ⟨x, 0, none⟩ = some (.int .i64 a) ∧ w'.cell? ⟨x, 1, none⟩ = some (.int .i64 b) ∧ w'.cell? ⟨x, 2, none⟩ = some (.int .i64 c) ∧ w'.cell? ⟨g, a * 2, none⟩ = some (.int .i64 (pAt l a).1) ∧ w'.cell? ⟨g, a * 2 + 1, none⟩ = some (.int .i64 (pAt l a).2) ∧ w'.cell? ⟨g, b * 2, none⟩ = some (.int .i64 (pAt l b).1) ∧ w'.cell? ⟨g, b * 2 + 1, none⟩ = some (.int .i64 (pAt l b).2) ∧ w'.cell? ⟨g, c * 2, none⟩ = some (.int .i64 (pAt l c).1) ∧ w'.cell? ⟨g, c * 2 + 1, none⟩ = some (.int .i64 (pAt l c).2))
      (go_keep) (fail)
    rename_i hHeld
    clear hHeld
    have x1 : IntKind.i64.wrap (IntKind.i64.wrap (IntKind.i64.wrap (i * (pAt l a).1) + IntKind.i64.wrap (j * (pAt l b).1)) + IntKind.i64.wrap (q * (pAt l c).1)) = i * (pAt l a).1 + j * (pAt l b).1 + q * (pAt l c).1 := by
      rw [wr27 (n := i * (pAt l a).1) (by omega) (by omega), wr27 (n := j * (pAt l b).1) (by omega) (by omega), wr27 (n := q * (pAt l c).1) (by omega) (by omega), wr27 (n := i * (pAt l a).1 + j * (pAt l b).1) (by omega) (by omega), wr27 (by omega) (by omega)]
    have x2 : IntKind.i64.wrap (IntKind.i64.wrap (IntKind.i64.wrap (i * (pAt l a).2) + IntKind.i64.wrap (j * (pAt l b).2)) + IntKind.i64.wrap (q * (pAt l c).2)) = i * (pAt l a).2 + j * (pAt l b).2 + q * (pAt l c).2 := by
      rw [wr27 (n := i * (pAt l a).2) (by omega) (by omega), wr27 (n := j * (pAt l b).2) (by omega) (by omega), wr27 (n := q * (pAt l c).2) (by omega) (by omega), wr27 (n := i * (pAt l a).2 + j * (pAt l b).2) (by omega) (by omega), wr27 (by omega) (by omega)]
    rw [x1, x2]
    have hmm : ∃ m, m < l.length ∧ m ≠ v ∧ nextI l.length m ≠ v ∧ meetI (i * (pAt l a).1 + j * (pAt l b).1 + q * (pAt l c).1, i * (pAt l a).2 + j * (pAt l b).2 + q * (pAt l c).2) ((i + j + q) * (pAt l v).1, (i + j + q) * (pAt l v).2) ((i + j + q) * (pAt l m).1, (i + j + q) * (pAt l m).2) ((i + j + q) * (pAt l (nextI l.length m)).1, (i + j + q) * (pAt l (nextI l.length m)).2) = true := by
      obtain ⟨m, hm, d1, d2, me⟩ := Hpl.out i j q (by omega) (by omega) (by omega)
      exact ⟨m, hm, fun e => d1 (by rw [e]), fun e => d2 (by rw [e]), me⟩
    have pb : (-26973 ≤ i * (pAt l a).1 + j * (pAt l b).1 + q * (pAt l c).1 ∧ i * (pAt l a).1 + j * (pAt l b).1 + q * (pAt l c).1 ≤ 26973) ∧ (-26973 ≤ i * (pAt l a).2 + j * (pAt l b).2 + q * (pAt l c).2 ∧ i * (pAt l a).2 + j * (pAt l b).2 + q * (pAt l c).2 ≤ 26973) := by omega
    clear x1 x2 Hpl m1 n1 m2 n2 m3 n3 m4 n4 m5 n5 m6 n6 t0 t1 t2 a0 a1 b0 b1 c0 c1 e0
    generalize i * (pAt l a).1 + j * (pAt l b).1 + q * (pAt l c).1 = PX at *
    generalize i * (pAt l a).2 + j * (pAt l b).2 + q * (pAt l c).2 = PY at *
    have hK1 : 1 ≤ i + j + q := by omega
    have hK2 : i + j + q ≤ 27 := by omega
    clear i1 i2 j1 j2 q1 q2
    generalize i + j + q = K at *
    have hb9 : Below w8.heap.size w8 (w8.alloc (.cells #[.int .i64 PX, .int .i64 PY] 39)).drew := ((Below.refl _ _).alloc (Nat.le_refl _) _).drew
    have z0 : (w8.alloc (.cells #[.int .i64 PX, .int .i64 PY] 39)).drew.cell? ⟨w8.heap.size, 0, none⟩ = some (.int .i64 PX) := cell_last w8 #[.int .i64 PX, .int .i64 PY] 39 w8.heap.size 0 rfl
    have z1 : (w8.alloc (.cells #[.int .i64 PX, .int .i64 PY] 39)).drew.cell? ⟨w8.heap.size, 1, none⟩ = some (.int .i64 PY) := cell_last w8 #[.int .i64 PX, .int .i64 PY] 39 w8.heap.size 1 rfl
    have HP9 := hide (HP7.out.below hb9 hg7)
    have Hall9 := hide (below_next Hall7.out hb9)
    have hg9 := Nat.lt_of_lt_of_le hg7 hb9.size
    clear hb9 HP7 Hall7 hg7 v0 v1 e1
    generalize (w8.alloc (.cells #[.int .i64 PX, .int .i64 PY] 39)).drew = w9 at *
    generalize w8.heap.size = zp at *
    have v0 := (HP9.out v hv).1
    have v1 := (HP9.out v hv).2
    have e1 := World.new_ne w9 _ v0
    simp only at e1
    go_wp2_with fail
    go_region_held3 (fun w' => w'.cell? ⟨g, v * 2, none⟩ = some (.int .i64 (pAt l v).1) ∧ w'.cell? ⟨g, v * 2 + 1, none⟩ = some (.int .i64 (pAt l v).2)) (go_keep) (fail)
    rename_i hHeld
    clear hHeld
    rw [wr27 m7 n7, wr27 m8 n8]
    generalize K * (pAt l v).1 = QX at *
    generalize K * (pAt l v).2 = QY at *
    have hb9 : Below w9.heap.size w9 (w9.alloc (.cells #[.int .i64 QX, .int .i64 QY] 39)).drew := ((Below.refl _ _).alloc (Nat.le_refl _) _).drew
    have y0 : (w9.alloc (.cells #[.int .i64 QX, .int .i64 QY] 39)).drew.cell? ⟨w9.heap.size, 0, none⟩ = some (.int .i64 QX) := cell_last w9 #[.int .i64 QX, .int .i64 QY] 39 w9.heap.size 0 rfl
    have y1 : (w9.alloc (.cells #[.int .i64 QX, .int .i64 QY] 39)).drew.cell? ⟨w9.heap.size, 1, none⟩ = some (.int .i64 QY) := cell_last w9 #[.int .i64 QX, .int .i64 QY] 39 w9.heap.size 1 rfl
    have hzp : zp < w9.heap.size := World.block_lt_of_cell? w9 _ z0
    have HP10 := hide (HP9.out.below hb9 hg9)
    have Hall10 := hide (below_next Hall9.out hb9)
    have hg10 := Nat.lt_of_lt_of_le hg9 hb9.size
    replace z0 := (hb9.cell (p := ⟨zp, 0, none⟩) hzp).trans z0
    replace z1 := (hb9.cell (p := ⟨zp, 1, none⟩) hzp).trans z1
    clear hb9 HP9 Hall9 hg9 v0 v1 e1 hzp
    generalize (w9.alloc (.cells #[.int .i64 QX, .int .i64 QY] 39)).drew = w10 at *
    generalize w9.heap.size = zq at *
    have hzp : zp < w10.heap.size := World.block_lt_of_cell? w10 _ z0
    have hzq : zq < w10.heap.size := World.block_lt_of_cell? w10 _ y0
    have BP : Bd (PX, PY) := ⟨pb.1.1, pb.1.2, pb.2.1, pb.2.2⟩
    have BQ : Bd (QX, QY) := ⟨m7, n7, m8, n8⟩
    have Hmm := hide hmm
    have HBP := hide BP
    have HBQ := hide BQ
    clear hmm pb BP BQ m7 n7 m8 n8
    go_wp2_with fail
    go_loopw [30] (fun iv wr => ∃ m : Nat, m ≤ l.length ∧ iv = .int .i64 m ∧ (∀ j, j < m → j ≠ v → nextI l.length j ≠ v → meetI (PX, PY) (QX, QY) (K * (pAt l j).1, K * (pAt l j).2) (K * (pAt l (nextI l.length j)).1, K * (pAt l (nextI l.length j)).2) = false) ∧ Below w10.heap.size w10 wr) (fun iv _ => l.length - (intOf iv).toNat)
    case atStart => exact ⟨0, Nat.zero_le _, rfl, fun j hj => by omega, Below.refl _ _⟩
    case round =>
      obtain ⟨m, hm, rfl, hno, hbel⟩ := hrel
      have Hno := hide hno
      have Hw := hide hbel
      clear hno
      by_cases hlt3 : m < l.length
      · have ho : nextI l.length m < l.length := Nat.mod_lt _ (by omega)
        have f1 : ((m : Int) + 1) % (l.length : Int) = (nextI l.length m : Int) := by simp [nextI]
        have f2 : ((m : Int) + 1).tmod (l.length : Int) = (nextI l.length m : Int) := by rw [Int.tmod_eq_emod_of_nonneg (by omega)]; exact f1
        have cm := (HP10.out.below hbel hg10) m hlt3
        have co' := (HP10.out.below hbel hg10) _ ho
        have Bm := Hrng.out.b9 m
        have Bo := Hrng.out.b9 (nextI l.length m)
        have zz0 := (hbel.cell (p := ⟨zp, 0, none⟩) hzp).trans z0
        have zz1 := (hbel.cell (p := ⟨zp, 1, none⟩) hzp).trans z1
        have yy0 := (hbel.cell (p := ⟨zq, 0, none⟩) hzq).trans y0
        have yy1 := (hbel.cell (p := ⟨zq, 1, none⟩) hzq).trans y1
        have hnx : meetI (PX, PY) (QX, QY) (K * (pAt l m).1, K * (pAt l m).2) (K * (pAt l (nextI l.length m)).1, K * (pAt l (nextI l.length m)).2) = meetI (PX, PY) (QX, QY) (K * (pAt l m).1, K * (pAt l m).2) (K * (pAt l (nextI l.length m)).1, K * (pAt l (nextI l.length m)).2) := rfl
        have him : (m : Int) < (l.length : Int) := by omega
        have him0 : (0 : Int) ≤ (m : Int) := by omega
        have hio : ((nextI l.length m : Nat) : Int) < (l.length : Int) := by omega
        have hio0 : (0 : Int) ≤ ((nextI l.length m : Nat) : Int) := by omega
        by_cases q1 : m = v
        · have gm : ((m : Int) == (v : Int)) = true := by rw [q1]; simp
          have Hq := hide q1
          clear q1 cm co' zz0 zz1 yy0 yy1 z0 z1 y0 y1 hnx hbel
          go_wp2_with fail
          go_roundw
          case rel =>
            refine ⟨m + 1, by omega, by go_num, fun j hj d1 d2 => ?_, Hw.out⟩
            by_cases e : j = m
            · exact absurd (e.trans Hq.out) d1
            · exact Hno.out j (by omega) d1 d2
          case measure => simp [intOf]; omega
        · have gm : ((m : Int) == (v : Int)) = false := by rw [beq_eq_false_iff_ne]; omega
          by_cases q2 : nextI l.length m = v
          · have gn : (((nextI l.length m : Nat) : Int) == (v : Int)) = true := by rw [q2]; simp
            have Hq := hide q2
            clear q2 q1 cm co' zz0 zz1 yy0 yy1 z0 z1 y0 y1 hnx hbel
            go_wp2_with fail
            go_roundw
            case rel =>
              refine ⟨m + 1, by omega, by go_num, fun j hj d1 d2 => ?_, Hw.out⟩
              by_cases e : j = m
              · rw [e] at d2; exact absurd Hq.out d2
              · exact Hno.out j (by omega) d1 d2
            case measure => simp [intOf]; omega
          · have gn : (((nextI l.length m : Nat) : Int) == (v : Int)) = false := by rw [beq_eq_false_iff_ne]; omega
            clear q1 q2 z0 z1 y0 y1 hbel
            obtain ⟨m1, n1⟩ := wt27 (i := K) (x := (pAt l m).1) hK1 hK2 Bm.x1 Bm.x2
            obtain ⟨m2, n2⟩ := wt27 (i := K) (x := (pAt l m).2) hK1 hK2 Bm.y1 Bm.y2
            obtain ⟨m3, n3⟩ := wt27 (i := K) (x := (pAt l (nextI l.length m)).1) hK1 hK2 Bo.x1 Bo.x2
            obtain ⟨m4, n4⟩ := wt27 (i := K) (x := (pAt l (nextI l.length m)).2) hK1 hK2 Bo.y1 Bo.y2
            clear Bm Bo
            obtain ⟨cm0, cm1⟩ := cm
            obtain ⟨co0, co1⟩ := co'
            have e1 := World.new_ne wr _ cm0
            simp only at e1
            go_wp2_with fail
            go_region_held3 (fun w' => w'.cell? ⟨g, m * 2, none⟩ = some (.int .i64 (pAt l m).1) ∧ w'.cell? ⟨g, m * 2 + 1, none⟩ = some (.int .i64 (pAt l m).2)) (go_keep) (fail)
            rename_i hHeld
            clear hHeld
            rw [wr27 m1 n1, wr27 m2 n2]
            have hgw : g < wr.heap.size := World.block_lt_of_cell? wr _ cm0
            have hzpw : zp < wr.heap.size := World.block_lt_of_cell? wr _ zz0
            have hzqw : zq < wr.heap.size := World.block_lt_of_cell? wr _ yy0
            have hbA : Below wr.heap.size wr (wr.alloc (.cells #[.int .i64 (K * (pAt l m).1), .int .i64 (K * (pAt l m).2)] 39)).drew := ((Below.refl _ _).alloc (Nat.le_refl _) _).drew
            have g0 : (wr.alloc (.cells #[.int .i64 (K * (pAt l m).1), .int .i64 (K * (pAt l m).2)] 39)).drew.cell? ⟨wr.heap.size, 0, none⟩ = some (.int .i64 (K * (pAt l m).1)) := cell_last wr #[.int .i64 (K * (pAt l m).1), .int .i64 (K * (pAt l m).2)] 39 wr.heap.size 0 rfl
            have g1 : (wr.alloc (.cells #[.int .i64 (K * (pAt l m).1), .int .i64 (K * (pAt l m).2)] 39)).drew.cell? ⟨wr.heap.size, 1, none⟩ = some (.int .i64 (K * (pAt l m).2)) := cell_last wr #[.int .i64 (K * (pAt l m).1), .int .i64 (K * (pAt l m).2)] 39 wr.heap.size 1 rfl
            replace co0 := (hbA.cell (p := ⟨g, nextI l.length m * 2, none⟩) hgw).trans co0
            replace co1 := (hbA.cell (p := ⟨g, nextI l.length m * 2 + 1, none⟩) hgw).trans co1
            replace zz0 := (hbA.cell (p := ⟨zp, 0, none⟩) hzpw).trans zz0
            replace zz1 := (hbA.cell (p := ⟨zp, 1, none⟩) hzpw).trans zz1
            replace yy0 := (hbA.cell (p := ⟨zq, 0, none⟩) hzqw).trans yy0
            replace yy1 := (hbA.cell (p := ⟨zq, 1, none⟩) hzqw).trans yy1
            have HA := hide (below_next Hw.out hbA)
            clear hbA cm0 cm1 e1 hgw hzpw hzqw
            generalize (wr.alloc (.cells #[.int .i64 (K * (pAt l m).1), .int .i64 (K * (pAt l m).2)] 39)).drew = wA at *
            generalize wr.heap.size = zg at *
            have e1 := World.new_ne wA _ co0
            simp only at e1
            go_wp2_with fail
            go_region_held3 (fun w' => w'.cell? ⟨g, nextI l.length m * 2, none⟩ = some (.int .i64 (pAt l (nextI l.length m)).1) ∧ w'.cell? ⟨g, nextI l.length m * 2 + 1, none⟩ = some (.int .i64 (pAt l (nextI l.length m)).2)) (go_keep) (fail)
            rename_i hHeld
            clear hHeld
            rw [wr27 m3 n3, wr27 m4 n4]
            have hzgw : zg < wA.heap.size := World.block_lt_of_cell? wA _ g0
            have hzpw : zp < wA.heap.size := World.block_lt_of_cell? wA _ zz0
            have hzqw : zq < wA.heap.size := World.block_lt_of_cell? wA _ yy0
            have hbB : Below wA.heap.size wA (wA.alloc (.cells #[.int .i64 (K * (pAt l (nextI l.length m)).1), .int .i64 (K * (pAt l (nextI l.length m)).2)] 39)).drew := ((Below.refl _ _).alloc (Nat.le_refl _) _).drew
            have o0 : (wA.alloc (.cells #[.int .i64 (K * (pAt l (nextI l.length m)).1), .int .i64 (K * (pAt l (nextI l.length m)).2)] 39)).drew.cell? ⟨wA.heap.size, 0, none⟩ = some (.int .i64 (K * (pAt l (nextI l.length m)).1)) := cell_last wA #[.int .i64 (K * (pAt l (nextI l.length m)).1), .int .i64 (K * (pAt l (nextI l.length m)).2)] 39 wA.heap.size 0 rfl
            have o1 : (wA.alloc (.cells #[.int .i64 (K * (pAt l (nextI l.length m)).1), .int .i64 (K * (pAt l (nextI l.length m)).2)] 39)).drew.cell? ⟨wA.heap.size, 1, none⟩ = some (.int .i64 (K * (pAt l (nextI l.length m)).2)) := cell_last wA #[.int .i64 (K * (pAt l (nextI l.length m)).1), .int .i64 (K * (pAt l (nextI l.length m)).2)] 39 wA.heap.size 1 rfl
            replace g0 := (hbB.cell (p := ⟨zg, 0, none⟩) hzgw).trans g0
            replace g1 := (hbB.cell (p := ⟨zg, 1, none⟩) hzgw).trans g1
            replace zz0 := (hbB.cell (p := ⟨zp, 0, none⟩) hzpw).trans zz0
            replace zz1 := (hbB.cell (p := ⟨zp, 1, none⟩) hzpw).trans zz1
            replace yy0 := (hbB.cell (p := ⟨zq, 0, none⟩) hzqw).trans yy0
            replace yy1 := (hbB.cell (p := ⟨zq, 1, none⟩) hzqw).trans yy1
            have HB := hide (below_next HA.out hbB)
            clear hbB co0 co1 e1 hzgw hzpw hzqw HA
            generalize (wA.alloc (.cells #[.int .i64 (K * (pAt l (nextI l.length m)).1), .int .i64 (K * (pAt l (nextI l.length m)).2)] 39)).drew = wB at *
            generalize wA.heap.size = zo at *
            have HM := hide (Meet_any (PX, PY) (QX, QY) (K * (pAt l m).1, K * (pAt l m).2) (K * (pAt l (nextI l.length m)).1, K * (pAt l (nextI l.length m)).2) HBP.out HBQ.out ⟨m1, n1, m2, n2⟩ ⟨m3, n3, m4, n4⟩)
            go_wp2_with fail
            refine (HM.out _).mono ?_
            rintro e w14 ⟨rfl, hb14⟩
            have H14 := hide (below_next HB.out hb14)
            clear hb14 HM HB zz0 zz1 yy0 yy1 g0 g1 o0 o1
            generalize hR : meetI (PX, PY) (QX, QY) (K * (pAt l m).1, K * (pAt l m).2) (K * (pAt l (nextI l.length m)).1, K * (pAt l (nextI l.length m)).2) = R
            have HR := hide hR
            clear hR hnx
            cases R
            · go_wp2_with fail
              go_roundw
              case rel =>
                refine ⟨m + 1, by omega, by go_num, fun j hj d1 d2 => ?_, H14.out⟩
                by_cases e : j = m
                · rw [e]; exact HR.out
                · exact Hno.out j (by omega) d1 d2
              case measure => simp [intOf]; omega
            · go_wp2_with fail
              go_ret
              exact ⟨rfl, below_next Hall10.out H14.out⟩
      · exfalso
        obtain ⟨j, hj, d1, d2, me⟩ := Hmm.out
        rw [Hno.out j (by omega) d1 d2] at me
        exact absurd me (by decide)

end Go.Proofs.Ytlicmfhgjonmnaa
