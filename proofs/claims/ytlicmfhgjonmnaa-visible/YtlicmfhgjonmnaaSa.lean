/- The mesh's small functions: what bars a line, its middle, the angle at a corner, a triangle. Own work. -/
import Derived.Test.YtlicmfhgjonmnaaQc
import Derived.Laws.Externs
import Derived.Laws.BitsAll
namespace Go.Proofs.Ytlicmfhgjonmnaa
open Go.RowKit
set_option linter.unusedVariables false

def barB (e o : CE) : Bool := crossB e o || (!(o.n == e.n || o.n == e.m) && holdsB e o.a)

set_option maxHeartbeats 1000000 in
theorem bar1_any (e o : CE) (b : Nat) (w : World) (hlt : b < w.heap.size)
    (c0 : w.cell? ⟨b, 0, none⟩ = some (.int .i64 e.n)) (c1 : w.cell? ⟨b, 1, none⟩ = some (.int .i64 e.m))
    (c2 : w.cell? ⟨b, 2, none⟩ = some (.complex .f64 e.a.re e.a.im)) (c3 : w.cell? ⟨b, 3, none⟩ = some (.complex .f64 e.b.re e.b.im)) :
    Calls Try.prog 104 #[.agg #[.int .i64 o.n, .int .i64 o.m, .complex .f64 o.a.re o.a.im, .complex .f64 o.b.re o.b.im], .pointer (some ⟨b, 0, none⟩)] w fun r w' =>
      r = .returned (.bool (barB e o)) ∧ Below w.heap.size w w' := by
  have hne : b ≠ w.heap.size := by omega
  cases g1 : (o.n == e.n) <;> cases g2 : (o.n == e.m) <;> cases hc : crossB e o
  all_goals
    have hd : barB e o = (crossB e o || (!(o.n == e.n || o.n == e.m) && holdsB e o.a)) := rfl
    rw [g1, g2, hc] at hd
    simp only [Bool.or_false, Bool.or_true, Bool.false_or, Bool.true_or, Bool.not_true, Bool.not_false, Bool.true_and, Bool.false_and] at hd
    rw [hd]
    clear hd
    go_enter Try.func104, Try.ntmps104
    go_wp2_with fail
    refine (cross_any e o _).mono ?_; rintro r w1 ⟨rfl, hb1⟩; rw [hc]
    have c0' : w1.cell? ⟨b, 0, none⟩ = some (.int .i64 e.n) := by rw [hb1.cell (p := ⟨b, 0, none⟩) (by simp; omega)]; exact (cell_under w _ ⟨b, 0, none⟩ hlt).trans c0
    have c1' : w1.cell? ⟨b, 1, none⟩ = some (.int .i64 e.m) := by rw [hb1.cell (p := ⟨b, 1, none⟩) (by simp; omega)]; exact (cell_under w _ ⟨b, 1, none⟩ hlt).trans c1
    have c2' : w1.cell? ⟨b, 2, none⟩ = some (.complex .f64 e.a.re e.a.im) := by rw [hb1.cell (p := ⟨b, 2, none⟩) (by simp; omega)]; exact (cell_under w _ ⟨b, 2, none⟩ hlt).trans c2
    have c3' : w1.cell? ⟨b, 3, none⟩ = some (.complex .f64 e.b.re e.b.im) := by rw [hb1.cell (p := ⟨b, 3, none⟩) (by simp; omega)]; exact (cell_under w _ ⟨b, 3, none⟩ hlt).trans c3
    obtain ⟨hcb, hfb⟩ := bcell hb1
    go_wp2_with fail
    first
      | (go_ret; exact ⟨rfl, below_one hb1⟩)
      | (refine (holds_any e o.a _).mono ?_; rintro r w2 ⟨rfl, hb2⟩
         have hb2 := below_next hb1 hb2
         clear hcb hfb hb1
         go_wp2_with fail
         go_ret
         exact ⟨rfl, below_one hb2⟩)

set_option maxHeartbeats 1000000 in
theorem isBarredBy_any (e : CE) (w : World) :
    Calls Try.prog 95 #[.agg #[.int .i64 e.n, .int .i64 e.m, .complex .f64 e.a.re e.a.im, .complex .f64 e.b.re e.b.im]] w fun r w' =>
      r = .returned (.func (.func 104) #[] #[.pointer (some ⟨w.heap.size, 0, none⟩)]) ∧ w' = w.alloc (.cells #[.int .i64 e.n, .int .i64 e.m, .complex .f64 e.a.re e.a.im, .complex .f64 e.b.re e.b.im] 86) := by
  go_enter Try.func95, Try.ntmps95
  go_wp2
  go_ret
  exact ⟨rfl, rfl⟩

theorem ent_bar (args : Array Value) (w : World) : (callFunc 104 args).run Try.prog w = .ok (.enter 104 args) w := enters_of Try.func104 (by kernel_rfl) rfl args w

theorem firstEdge_bar (E : CE) (ps : List CP) (b cap g : Nat) (w : World) (hn : ps.length ≤ 16) (hlt : b < w.heap.size) (hrow : RowC w b ps) (hg : g < w.heap.size)
    (c0 : w.cell? ⟨g, 0, none⟩ = some (.int .i64 E.n)) (c1 : w.cell? ⟨g, 1, none⟩ = some (.int .i64 E.m))
    (c2 : w.cell? ⟨g, 2, none⟩ = some (.complex .f64 E.a.re E.a.im)) (c3 : w.cell? ⟨g, 3, none⟩ = some (.complex .f64 E.b.re E.b.im)) :
    Calls Try.prog 62 #[.agg #[.slice (some ⟨b, 0, none⟩) ps.length cap], .func (.func 104) #[] #[.pointer (some ⟨g, 0, none⟩)]] w fun r w' =>
      r = .returned (.int .i64 (firstI (fun j => barB E (edgeOf ps j)) ps.length)) ∧ Below w.heap.size w w' :=
  firstEdge_any _ _ (fun j => barB E (edgeOf ps j)) ps b cap w hn hlt hrow ent_bar fun i hi w1 hb =>
    bar1_any E (edgeOf ps i) g w1 (Nat.lt_of_lt_of_le hg hb.size)
      (by rw [hb.cell (p := ⟨g, 0, none⟩) hg]; exact c0) (by rw [hb.cell (p := ⟨g, 1, none⟩) hg]; exact c1)
      (by rw [hb.cell (p := ⟨g, 2, none⟩) hg]; exact c2) (by rw [hb.cell (p := ⟨g, 3, none⟩) hg]; exact c3)

/-- A complex number, halved. -/
theorem run_half {P : Program} (w : World) (t : TypeId) {a b m1 s1 e m2 s2 f : Nat} (h1 : floatBits .mul .f64 b 0 = some m1) (h2 : floatBits .add .f64 a m1 = some s1) (h3 : floatBits .quo .f64 s1 4611686018427387904 = some e)
    (h4 : floatBits .mul .f64 a 0 = some m2) (h5 : floatBits .sub .f64 b m2 = some s2) (h6 : floatBits .quo .f64 s2 4611686018427387904 = some f) (hn : (FloatKind.f64.decode e).isNaN = false) :
    (binOp .quo t (.complex .f64 a b) (.complex .f64 4611686018427387904 0)).run P w = .ok (.complex .f64 e f) w := by
  have k1 : floatBits .quo .f64 0 4611686018427387904 = some 0 := by decide +kernel
  have k2 : floatBits .mul .f64 0 0 = some 0 := by decide +kernel
  have k3 : floatBits .add .f64 4611686018427387904 0 = some 4611686018427387904 := by decide +kernel
  have k4 : FloatKind.f64.format.order 4611686018427387904 0 = some .gt := by decide +kernel
  have k5 : Op.Complex.abs 4611686018427387904 = 4611686018427387904 := by decide
  have k6 : Op.Complex.abs 0 = 0 := by decide
  have k7 : Op.Complex.isNaN e = false := hn
  have q : ∀ x, (Op.Complex.cmp .geq .f64 4611686018427387904 0).run P x = .ok true x := fun x => by simp [Op.Complex.cmp, Op.floatCmp, k4, asBool]
  have q2 : ∀ x, (Op.Complex.cmp .eql .f64 4611686018427387904 0).run P x = .ok false x := fun x => by simp [Op.Complex.cmp, Op.floatCmp, k4, asBool]
  have q3 : ∀ x, (Op.Complex.cmp .eql .f64 0 0).run P x = .ok true x := fun x => by
    have : FloatKind.f64.format.order 0 0 = some .eq := by decide +kernel
    simp [Op.Complex.cmp, Op.floatCmp, this, asBool]
  simp [binOp, Op.complexOp, Op.Complex.conv, Op.Complex.quotient, Op.Complex.quo, Op.Complex.mul, Op.Complex.sub, Op.Complex.add, k5, k6, q, q2, q3, run_carith w k1, run_carith w k2, run_carith w k3, run_carith w h1, run_carith w h2, run_carith w h3, run_carith w h4, run_carith w h5, run_carith w h6, k7]

theorem mid_bits (e : CE) : ∃ (u v m1 s1 re m2 s2 im : Nat), cSumBits .add .f64 e.a.re e.a.im e.b.re e.b.im = some (u, v) ∧ floatBits .mul .f64 v 0 = some m1 ∧ floatBits .add .f64 u m1 = some s1 ∧ floatBits .quo .f64 s1 4611686018427387904 = some re ∧
    floatBits .mul .f64 u 0 = some m2 ∧ floatBits .sub .f64 v m2 = some s2 ∧ floatBits .quo .f64 s2 4611686018427387904 = some im ∧ RepK 1 re (e.a.x + e.b.x) ∧ RepK 1 im (e.a.y + e.b.y) := by
  have := e.a.hx; have := e.a.hy; have := e.b.hx; have := e.b.hy
  obtain ⟨u, hu, u1⟩ := e.a.hr.add e.b.hr (small53 (by omega))
  obtain ⟨v, hv, v1⟩ := e.a.hi.add e.b.hi (small53 (by omega))
  obtain ⟨m1, h1, k1⟩ := v1.mul Rep.zero (small53 (by rw [Int.mul_zero]; decide))
  rw [Int.mul_zero] at k1
  obtain ⟨s1, h2, k2⟩ := u1.add k1 (small53 (by omega))
  rw [Int.add_zero] at k2
  obtain ⟨re, h3, k3⟩ := k2.halve (small53 (by omega))
  obtain ⟨m2, h4, k4⟩ := u1.mul Rep.zero (small53 (by rw [Int.mul_zero]; decide))
  rw [Int.mul_zero] at k4
  obtain ⟨s2, h5, k5⟩ := v1.sub k4 (small53 (by omega))
  rw [Int.sub_zero] at k5
  obtain ⟨im, h6, k6⟩ := k5.halve (small53 (by omega))
  exact ⟨u, v, m1, s1, re, m2, s2, im, by simp [cSumBits, hu, hv], h1, h2, h3, h4, h5, h6, k3, k6⟩

/-- The middle of a line. -/
theorem middle_any (e : CE) : ∃ p : HP, (p.x = e.a.x + e.b.x ∧ p.y = e.a.y + e.b.y) ∧ ∀ w : World,
    Calls Try.prog 96 #[.agg #[.int .i64 e.n, .int .i64 e.m, .complex .f64 e.a.re e.a.im, .complex .f64 e.b.re e.b.im]] w fun r w' =>
      r = .returned (.complex .f64 p.re p.im) ∧ Below w.heap.size w w' := by
  obtain ⟨u, v, m1, s1, re, m2, s2, im, hu, h1, h2, h3, h4, h5, h6, r1, r2⟩ := mid_bits e
  have := e.a.hx; have := e.a.hy; have := e.b.hx; have := e.b.hy
  refine ⟨⟨re, im, e.a.x + e.b.x, e.a.y + e.b.y, r1, r2, by omega, by omega⟩, ⟨rfl, rfl⟩, fun w => ?_⟩
  have q1 : ∀ (w : World) t, (binOp .add t (.complex .f64 e.a.re e.a.im) (.complex .f64 e.b.re e.b.im)).run Try.prog w = .ok (.complex .f64 u v) w := fun w t => run_complex_sum w .add (.inl rfl) t _ _ _ _ _ _ _ hu
  have q2 : ∀ (w : World) t, (binOp .quo t (.complex .f64 u v) (.complex .f64 4611686018427387904 0)).run Try.prog w = .ok (.complex .f64 re im) w := fun w t => run_half w t h1 h2 h3 h4 h5 h6 r1.number
  dsimp only
  clear hu h1 h2 h3 h4 h5 h6 r1 r2
  go_enter Try.func96, Try.ntmps96
  go_wp2_with fail
  go_ret
  exact ⟨rfl, (Below.refl _ _).alloc (Nat.le_refl _) _⟩

theorem bits_run (x : Nat) (w : World) : (callFunc 106 #[.float .f64 x]).run Try.prog w = .ok (.value (.int .u64 x)) w := by
  rw [run_callFunc_extern (e := Extern.MathFloatBits.float64bits) Try.func106 (by kernel_rfl) (by kernel_rfl) (by kernel_rfl) (by kernel_rfl)]
  rfl
theorem frombits_run (x : Nat) (w : World) : (callFunc 105 #[.int .u64 (x : Int)]).run Try.prog w = .ok (.value (.float .f64 x)) w := by
  rw [run_callFunc_extern (e := Extern.MathFloatBits.float64frombits) Try.func105 (by kernel_rfl) (by kernel_rfl) (by kernel_rfl) (by kernel_rfl)]
  rfl

theorem and_mask (x : Nat) : x &&& 9223372036854775807 = x % 9223372036854775808 := Nat.and_two_pow_sub_one_eq_mod x 63

set_option maxHeartbeats 400000 in
theorem abs_any (x : Nat) (hx : x < 18446744073709551616) (w : World) :
    Calls Try.prog 97 #[.float .f64 x] w fun e w' => e = .returned (.float .f64 (x % 9223372036854775808)) ∧ w' = w := by
  have h1 := bits_run x
  have h2 := frombits_run (x % 9223372036854775808)
  have hb : bits .andNot .u64 (x : Int) 9223372036854775808 = ((x % 9223372036854775808 : Nat) : Int) := by
    have := u64_andNot_nat x 9223372036854775808 hx (by omega)
    rw [show (18446744073709551615 - 9223372036854775808 : Nat) = 9223372036854775807 by decide, and_mask] at this
    exact this
  generalize x % 9223372036854775808 = y at *
  go_enter Try.func97, Try.ntmps97
  go_wp2_with fail
  go_ret
  exact ⟨rfl, rfl⟩

theorem Rep.abs {x : Nat} {a : Int} (h : Rep x a) : Rep (x % 9223372036854775808) (a.natAbs : Int) := by
  obtain ⟨s, n, hx, hs⟩ := h
  have hw : Ieee.double.signWeight = 9223372036854775808 := by decide
  refine ⟨false, n, ?_, fun _ => by simp⟩
  rw [Int.natAbs_natCast, ← hw]
  unfold Ieee.Format.read at hx ⊢
  simp only at hx ⊢
  have hp : 0 < Ieee.double.signWeight := by rw [hw]; decide
  rw [Nat.mod_mod, Nat.div_eq_of_lt (Nat.mod_lt x hp)]
  by_cases g : x % Ieee.double.signWeight < Ieee.double.binade
  · rw [if_pos g] at hx ⊢
    injection hx with h1 h2 h3
    rw [h2, h3]; rfl
  · rw [if_neg g] at hx ⊢
    by_cases g2 : x % Ieee.double.signWeight < Ieee.double.infRung
    · rw [if_pos g2] at hx ⊢
      injection hx with h1 h2 h3
      rw [h2, h3]; rfl
    · rw [if_neg g2] at hx
      split at hx <;> cases hx

/-- The mesh's own cells. -/
structure MeshAt (w : World) (m b cap : Nat) (ps : List CP) : Prop where
  lt : m < w.heap.size
  blt : b < w.heap.size
  row : RowC w b ps
  corners : w.cell? ⟨m, 0, none⟩ = some (.slice (some ⟨b, 0, none⟩) ps.length cap)

theorem MeshAt.below {w w' : World} {m b cap : Nat} {ps : List CP} (h : MeshAt w m b cap ps) (hb : Below w.heap.size w w') : MeshAt w' m b cap ps :=
  ⟨Nat.lt_of_lt_of_le h.lt hb.size, Nat.lt_of_lt_of_le h.blt hb.size, h.row.below hb h.blt, by rw [hb.cell (p := ⟨m, 0, none⟩) h.lt]; exact h.corners⟩

theorem tIm_lt (p a b : CP) : tIm p a b < 18446744073709551616 := by
  obtain ⟨u, v, r, hu, hv, hr, h1, h2⟩ := turn_bits p a b
  have ht : turnBits p a b = some r := by simp [turnBits, hu, hv, hr]
  have e2 : tIm p a b = r.2 := by simp only [tIm, ht, Option.getD_some]
  rw [e2]
  unfold cMulBits at hr
  obtain ⟨_, _, hr⟩ := bind_some hr
  obtain ⟨_, _, hr⟩ := bind_some hr
  obtain ⟨_, _, hr⟩ := bind_some hr
  obtain ⟨_, _, hr⟩ := bind_some hr
  obtain ⟨_, _, hr⟩ := bind_some hr
  obtain ⟨_, hk, hr⟩ := bind_some hr
  have := floatBits_wf hk
  simp only [Option.some.injEq] at hr
  rw [← hr]
  simpa [Lit.wf] using this

/-- The angle's words. -/
def angRe (p a b : CP) : Nat := tRe p a b
def angIm (p a b : CP) : Nat := tIm p a b % 9223372036854775808

theorem ang_rep (p a b : CP) : Rep (angRe p a b) (dotI p a b) ∧ Rep (angIm p a b) ((crsI p a b).natAbs : Int) := ⟨(t_rep p a b).1, (t_rep p a b).2.abs⟩

set_option maxHeartbeats 2000000 in
theorem angleAt_any (ps : List CP) (m b cap i j k : Nat) (w : World) (hn : ps.length ≤ 16) (hi : i < ps.length) (hj : j < ps.length) (hk : k < ps.length) (hm : MeshAt w m b cap ps) :
    Calls Try.prog 82 #[.pointer (some ⟨m, 0, none⟩), .int .i64 i, .int .i64 j, .int .i64 k] w fun r w' =>
      r = .returned (.complex .f64 (angRe (ptAt ps i) (ptAt ps j) (ptAt ps k)) (angIm (ptAt ps i) (ptAt ps j) (ptAt ps k))) ∧ Below w.heap.size w w' := by
  have c0 := hm.corners
  have ci := hm.row i hi
  have cj := hm.row j hj
  have ck := hm.row k hk
  have Ht := hide (turn_any (ptAt ps i) (ptAt ps j) (ptAt ps k))
  have Ha := hide (abs_any (tIm (ptAt ps i) (ptAt ps j) (ptAt ps k)) (tIm_lt _ _ _))
  unfold angRe angIm
  generalize ptAt ps i = A at *
  generalize ptAt ps j = B at *
  generalize ptAt ps k = C at *
  generalize tRe A B C = R at *
  generalize tIm A B C = I at *
  generalize ps.length = n at *
  have i1 : (i : Int) < n := by omega
  have i2 : (j : Int) < n := by omega
  have i3 : (k : Int) < n := by omega
  clear hm
  go_enter Try.func82, Try.ntmps82
  go_wp2_with fail
  go_quiet ((go_at_call 46; exact Calls.quiet_of_same (Ht.out _)))
  go_wp2_with fail
  refine (Ha.out _).mono ?_
  rintro r w1 ⟨rfl, rfl⟩
  go_wp2_with fail
  go_ret
  exact ⟨rfl, below_drewN (Below.refl _ _) _⟩

end Go.Proofs.Ytlicmfhgjonmnaa
