/- The corner that sees a line under the widest angle. Own work. -/
import Derived.Test.YtlicmfhgjonmnaaSb
import Derived.Test.YtlicmfhgjonmnaaSc
namespace Go.Proofs.Ytlicmfhgjonmnaa
open Go.RowKit
set_option linter.unusedVariables false

theorem bd_dot (p a b : CP) : (dotI p a b).natAbs ≤ 2 * (1998 * 1998) := by
  have := a.hx; have := a.hy; have := p.hx; have := p.hy; have := b.hx; have := b.hy
  have b3 := natAbs_mul_bd (a := a.x - p.x) (b := b.x - p.x) (by omega) (by omega)
  have b4 := natAbs_mul_bd (a := a.y - p.y) (b := b.y - p.y) (by omega) (by omega)
  unfold dotI
  omega

/-- What is compared: how much wider an angle is than the widest so far. -/
theorem wider_bits {re im are aim : Nat} {D S d s : Int} (h1 : Rep re D) (h2 : Rep im S) (h3 : Rep are d) (h4 : Rep aim s) (b1 : D.natAbs ≤ 7984008) (b2 : S.natAbs ≤ 7984008) (b3 : d.natAbs ≤ 7984008) (b4 : s.natAbs ≤ 7984008) :
    ∃ r, cMulBits re (Op.negFloat .f64 im) are aim = some r ∧ Rep r.2 (D * s - S * d) := by
  have bd : ∀ {x y : Int}, x.natAbs ≤ 7984008 → y.natAbs ≤ 7984008 → (x * y).natAbs ≤ 7984008 * 7984008 := fun hx hy => by rw [Int.natAbs_mul]; exact Nat.mul_le_mul hx hy
  have n2 := h2.neg
  have c1 := bd b1 b3
  have c2 := bd (x := -S) (by omega) b4
  have c3 := bd b1 b4
  have c4 := bd (x := -S) (by omega) b3
  obtain ⟨ac, g1, k1⟩ := h1.mul h3 (small53 (by omega))
  obtain ⟨bd', g2, k2⟩ := n2.mul h4 (small53 (by omega))
  obtain ⟨r, g3, k3⟩ := k1.sub k2 (small53 (by omega))
  obtain ⟨ad, g4, k4⟩ := h1.mul h4 (small53 (by omega))
  obtain ⟨bc, g5, k5⟩ := n2.mul h3 (small53 (by omega))
  obtain ⟨i, g6, k6⟩ := k4.add k5 (small53 (by omega))
  refine ⟨(r, i), by simp [cMulBits, g1, g2, g3, g4, g5, g6], ?_⟩
  have e : D * s + -S * d = D * s - S * d := by rw [Int.neg_mul]; omega
  rw [← e]; exact k6

theorem wst_bd (ps : List CP) (f g : Nat) : ∀ m, (wst (xy ps) f g m).2.1.natAbs ≤ 7984008 ∧ (wst (xy ps) f g m).2.2.natAbs ≤ 7984008
  | 0 => by simp [wst]
  | m + 1 => by
    have ih := wst_bd ps f g m
    unfold wst
    split
    · have h1 := bd_dot (ptAt ps (f + 1 + m)) (ptAt ps f) (ptAt ps g)
      have h2 := bd_crs (ptAt ps (f + 1 + m)) (ptAt ps f) (ptAt ps g)
      rw [angle_dot] at h1
      rw [angle_crs] at h2
      exact ⟨by simp only; omega, by simp only; omega⟩
    · exact ih

/-- The bits of one. -/
theorem rep_one : Rep 4607182418800017408 1 := by
  have h : floatOfInt .f64 1 = 4607182418800017408 := by decide +kernel
  rw [← h]; exact Rep.ofInt (by decide)

set_option maxRecDepth 100000 in
set_option maxHeartbeats 4000000 in
theorem widestTip_any (ps : List CP) (m b cap f g : Nat) (w : World) (hn : ps.length ≤ 16) (hf : f < g) (hg : g < ps.length) (hm : MeshAt w m b cap ps) :
    Calls Try.prog 72 #[.pointer (some ⟨m, 0, none⟩), .int .i64 f, .int .i64 g] w fun r w' =>
      r = .returned (.int .i64 (tipI (xy ps) f g)) ∧ Below w.heap.size w w' := by
  have Hm := hide hm
  clear hm
  go_enter Try.func72, Try.ntmps72
  go_wp2_with fail
  go_loopw [7, 8, 9] (fun tv wd c wr => ∃ k x : Nat, x = f + 1 + k ∧ x ≤ g ∧ c = .int .i64 (x : Int) ∧ tv = .int .i64 ((wst (xy ps) f g k).1 : Nat) ∧ (∃ re im, wd = .complex .f64 re im ∧ Rep re (wst (xy ps) f g k).2.1 ∧ Rep im (wst (xy ps) f g k).2.2) ∧ Below w.heap.size w wr) (fun _ _ c _ => g - (intOf c).toNat)
  case atStart => exact ⟨0, f + 1, by omega, by omega, by go_num, by simp [wst], ⟨_, _, rfl, rep_one, Rep.zero⟩, Below.refl _ _⟩
  case round =>
    obtain ⟨k, x, hx, hxg, rfl, rfl, ⟨re, im, rfl, r1, r2⟩, hbel⟩ := hrel
    have hbd := wst_bd ps f g k
    have hstep := wst.eq_2 (xy ps) f g k
    rw [← hx] at hstep
    have Hw := hide hbel
    have hM := Hm.out.below hbel
    have HM := hide hM
    have c0 := hM.corners
    clear hbel hM
    by_cases hlt2 : x < g
    · have hi : (x : Int) < (g : Int) := by omega
      have H1 := hide (fun W (hb : Below wr.heap.size wr W) => joins_any ps b cap f x W hn (by omega) (by omega) (HM.out.below hb).blt (HM.out.below hb).row)
      have H2 := hide (fun W (hb : Below wr.heap.size wr W) => joins_any ps b cap x g W hn (by omega) (by omega) (HM.out.below hb).blt (HM.out.below hb).row)
      have H3 := hide (fun W (hb : Below wr.heap.size wr W) => angleAt_any ps m b cap x f g W hn (by omega) (by omega) (by omega) (HM.out.below hb))
      have ar := ang_rep (ptAt ps x) (ptAt ps f) (ptAt ps g)
      have bd1 := bd_dot (ptAt ps x) (ptAt ps f) (ptAt ps g)
      have bd2 := bd_crs (ptAt ps x) (ptAt ps f) (ptAt ps g)
      rw [angle_dot, angle_crs] at ar
      rw [angle_dot] at bd1
      rw [angle_crs] at bd2
      obtain ⟨wr', hwm, hwr⟩ := wider_bits r1 r2 ar.1 ar.2 (by omega) (by omega) (by omega) (by omega)
      generalize angRe (ptAt ps x) (ptAt ps f) (ptAt ps g) = aR at *
      generalize angIm (ptAt ps x) (ptAt ps f) (ptAt ps g) = aI at *
      generalize dotP (pAt (xy ps) x) (pAt (xy ps) f) (pAt (xy ps) g) = D at *
      generalize ((tI (pAt (xy ps) f) (pAt (xy ps) x) (pAt (xy ps) g)).natAbs : Int) = S at *
      generalize joinI (xy ps) f x = J1 at *
      generalize joinI (xy ps) x g = J2 at *
      have o3 : (FloatKind.f64.format.order wr'.2 0 == some .gt) = decide (0 < (wst (xy ps) f g k).2.1 * S - (wst (xy ps) f g k).2.2 * D) := by rw [hwr.order Rep.zero, ord2_gt]
      have s3 : ∀ (w : World) t, (binOp .mul t (.complex .f64 re (Op.negFloat .f64 im)) (.complex .f64 aR aI)).run Try.prog w = .ok (.complex .f64 wr'.1 wr'.2) w := fun w t => run_complex_mul w t _ _ _ _ _ _ hwm
      obtain ⟨wr1, wr2⟩ := wr'
      simp only at o3 s3
      have Har := hide ar
      have Hr := hide (And.intro r1 r2)
      have Hstep := hide hstep
      have Hx := hide hx
      clear hwm hwr ar r1 r2 bd1 bd2 hbd hstep hx
      have hsz := Hw.out.size
      have hml := HM.out.lt
      cases J1
      · have hst : wst (xy ps) f g (k + 1) = wst (xy ps) f g k := by rw [Hstep.out]; simp
        have Hst := hide hst
        clear hst Hstep
        go_wp2_with fail
        refine (H1.out _ (by (repeat (first | exact Below.refl _ _ | refine Below.drew ?_)))).mono ?_
        rintro r w1 ⟨rfl, hb1⟩
        have Hb1 := hide (below_next Hw.out hb1)
        clear hb1
        go_wp2_with fail
        go_roundw
        case rel => exact ⟨k + 1, x + 1, by have := Hx.out; omega, by omega, by go_num, by rw [Hst.out], ⟨_, _, rfl, by rw [Hst.out]; exact Hr.out.1, by rw [Hst.out]; exact Hr.out.2⟩, Hb1.out⟩
        case measure => simp [intOf]; omega
      · cases J2
        · have hst : wst (xy ps) f g (k + 1) = wst (xy ps) f g k := by rw [Hstep.out]; simp
          have Hst := hide hst
          clear hst Hstep
          go_wp2_with fail
          refine (H1.out _ (by (repeat (first | exact Below.refl _ _ | refine Below.drew ?_)))).mono ?_
          rintro r w1 ⟨rfl, hb1⟩
          have c1 := (HM.out.below hb1).corners
          have Hb1 := hide hb1
          clear hb1
          go_wp2_with fail
          refine (H2.out _ (by (repeat (first | exact Hb1.out | refine Below.drew ?_)))).mono ?_
          rintro r w2 ⟨rfl, hb2⟩
          have Hb2 := hide (below_next Hb1.out hb2)
          clear hb2
          go_wp2_with fail
          go_roundw
          case rel => exact ⟨k + 1, x + 1, by have := Hx.out; omega, by omega, by go_num, by rw [Hst.out], ⟨_, _, rfl, by rw [Hst.out]; exact Hr.out.1, by rw [Hst.out]; exact Hr.out.2⟩, below_next Hw.out Hb2.out⟩
          case measure => simp [intOf]; omega
        · by_cases hwd : 0 < (wst (xy ps) f g k).2.1 * S - (wst (xy ps) f g k).2.2 * D
          · have hst : wst (xy ps) f g (k + 1) = (x, D, S) := by rw [Hstep.out, decide_eq_true hwd]; simp
            rw [decide_eq_true hwd] at o3
            have Hst := hide hst
            clear hst Hstep hwd
            go_wp2_with fail
            refine (H1.out _ (by (repeat (first | exact Below.refl _ _ | refine Below.drew ?_)))).mono ?_
            rintro r w1 ⟨rfl, hb1⟩
            have c1 := (HM.out.below hb1).corners
            have Hb1 := hide hb1
            clear hb1
            go_wp2_with fail
            refine (H2.out _ (by (repeat (first | exact Hb1.out | refine Below.drew ?_)))).mono ?_
            rintro r w2 ⟨rfl, hb2⟩
            have Hb2 := hide (below_next Hb1.out hb2)
            clear hb2
            go_wp2_with fail
            refine (H3.out _ (by (repeat (first | exact Hb2.out | refine Below.drew ?_)))).mono ?_
            rintro r w3 ⟨rfl, hb3⟩
            have Hb3 := hide (below_next Hb2.out hb3)
            clear hb3
            go_wp2_with (go_at_call 66; refine (conj_any _ _ _).mono ?_; rintro e w' ⟨rfl, rfl⟩)
            go_roundw
            case rel => exact ⟨k + 1, x + 1, by have := Hx.out; omega, by omega, by go_num, by rw [Hst.out], ⟨_, _, rfl, by rw [Hst.out]; exact Har.out.1, by rw [Hst.out]; exact Har.out.2⟩, below_next Hw.out Hb3.out⟩
            case measure => simp [intOf]; omega
          · have hst : wst (xy ps) f g (k + 1) = wst (xy ps) f g k := by rw [Hstep.out, decide_eq_false hwd]; simp
            rw [decide_eq_false hwd] at o3
            have Hst := hide hst
            clear hst Hstep hwd
            go_wp2_with fail
            refine (H1.out _ (by (repeat (first | exact Below.refl _ _ | refine Below.drew ?_)))).mono ?_
            rintro r w1 ⟨rfl, hb1⟩
            have c1 := (HM.out.below hb1).corners
            have Hb1 := hide hb1
            clear hb1
            go_wp2_with fail
            refine (H2.out _ (by (repeat (first | exact Hb1.out | refine Below.drew ?_)))).mono ?_
            rintro r w2 ⟨rfl, hb2⟩
            have Hb2 := hide (below_next Hb1.out hb2)
            clear hb2
            go_wp2_with fail
            refine (H3.out _ (by (repeat (first | exact Hb2.out | refine Below.drew ?_)))).mono ?_
            rintro r w3 ⟨rfl, hb3⟩
            have Hb3 := hide (below_next Hb2.out hb3)
            clear hb3
            go_wp2_with (go_at_call 66; refine (conj_any _ _ _).mono ?_; rintro e w' ⟨rfl, rfl⟩)
            go_roundw
            case rel => exact ⟨k + 1, x + 1, by have := Hx.out; omega, by omega, by go_num, by rw [Hst.out], ⟨_, _, rfl, by rw [Hst.out]; exact Hr.out.1, by rw [Hst.out]; exact Hr.out.2⟩, below_next Hw.out Hb3.out⟩
            case measure => simp [intOf]; omega
    · have hi : ¬ (x : Int) < (g : Int) := by omega
      have hke : tipI (xy ps) f g = (wst (xy ps) f g k).1 := by unfold tipI; rw [show g - f - 1 = k by omega]
      have Hke := hide hke
      clear hke hstep hx r1 r2 hbd
      go_wp2_with fail
      go_ret
      exact ⟨ret_int (by rw [Hke.out]), Hw.out⟩

end Go.Proofs.Ytlicmfhgjonmnaa
