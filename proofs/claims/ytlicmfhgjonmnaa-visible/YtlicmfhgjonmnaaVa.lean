/- What Visible calls: pick, part, Within. Own work. -/
import Derived.Test.YtlicmfhgjonmnaaUb
import Derived.Lib.QuietBelow
namespace Go.Proofs.Ytlicmfhgjonmnaa
open Go.RowKit
set_option linter.unusedVariables false

theorem tmod_small (c : Int) (n : Nat) (hn : 0 < n) : -(n : Int) < c.tmod n ∧ c.tmod n < n := by
  have h := Int.natAbs_tmod c (n : Int)
  have h2 : c.natAbs % (n : Int).natAbs < n := by rw [Int.natAbs_natCast]; exact Nat.mod_lt _ hn
  omega

set_option maxHeartbeats 1000000 in
theorem pick_any (c : Int) (n : Nat) (w : World) (h0 : 0 < n) (h16 : n ≤ 16) :
    Calls Try.prog 20 #[.int .i64 c, .int .i64 n] w fun e w' => (∃ v : Nat, v < n ∧ e = .returned (.int .i64 v)) ∧ w' = w := by
  obtain ⟨m1, m2⟩ := tmod_small c n h0
  have hz : ((n : Int) == 0) = false := by rw [beq_eq_false_iff_ne]; omega
  have hz2 : ¬ (n : Int) = 0 := by omega
  by_cases hneg : c.tmod n < 0
  · go_enter Try.func20, Try.ntmps20
    go_wp2
    go_ret
    exact ⟨⟨(c.tmod n + n).toNat, by omega, by rw [Int.toNat_of_nonneg (by omega)]; rfl⟩, rfl⟩
  · go_enter Try.func20, Try.ntmps20
    go_wp2
    go_ret
    exact ⟨⟨(c.tmod n).toNat, by omega, by rw [Int.toNat_of_nonneg (by omega)]; rfl⟩, rfl⟩

set_option maxHeartbeats 1000000 in
theorem part_any (c : Int) (w : World) :
    Calls Try.prog 22 #[.int .i64 c] w fun e w' => (∃ v : Int, 1 ≤ v ∧ v ≤ 9 ∧ e = .returned (.int .i64 v)) ∧ w' = w := by
  obtain ⟨m1, m2⟩ := tmod_small c 9 (by omega)
  have m3 : -9 < c.tmod 9 := m1
  have m4 : c.tmod 9 < 9 := m2
  clear m1 m2
  by_cases hneg : c.tmod 9 < 0
  · go_enter Try.func22, Try.ntmps22
    go_wp2
    go_ret
    exact ⟨⟨_, by omega, by omega, rfl⟩, rfl⟩
  · go_enter Try.func22, Try.ntmps22
    go_wp2
    go_ret
    exact ⟨⟨_, by omega, by omega, rfl⟩, rfl⟩

/-- A corner's place: within the range. -/
structure B9 (p : Int × Int) : Prop where
  x1 : -999 ≤ p.1
  x2 : p.1 ≤ 999
  y1 : -999 ≤ p.2
  y2 : p.2 ≤ 999

theorem Rng.b9 {l : List (Int × Int)} (h : Rng l) (i : Nat) : B9 (pAt l i) := ⟨(h i).1.1, (h i).1.2, (h i).2.1, (h i).2.2⟩

theorem pr2 {a b : Int} (h1 : -1998 ≤ a) (h2 : a ≤ 1998) (h3 : -1998 ≤ b) (h4 : b ≤ 1998) : -3992004 ≤ a * b ∧ a * b ≤ 3992004 := by
  have : (a * b).natAbs ≤ 1998 * 1998 := by rw [Int.natAbs_mul]; exact Nat.mul_le_mul (by omega) (by omega)
  omega

theorem pr4 {a b : Int} (h1 : -7984008 ≤ a) (h2 : a ≤ 7984008) (h3 : -7984008 ≤ b) (h4 : b ≤ 7984008) : -63744383744064 ≤ a * b ∧ a * b ≤ 63744383744064 := by
  have : (a * b).natAbs ≤ 7984008 * 7984008 := by rw [Int.natAbs_mul]; exact Nat.mul_le_mul (by omega) (by omega)
  omega

set_option maxRecDepth 100000 in
set_option maxHeartbeats 8000000 in
theorem Within_any (a b c d : Int × Int) (ha : B9 a) (hb : B9 b) (hc : B9 c) (hd : B9 d) (w : World) :
    Calls Try.prog 21 #[.agg #[.int .i64 a.1, .int .i64 a.2], .agg #[.int .i64 b.1, .int .i64 b.2], .agg #[.int .i64 c.1, .int .i64 c.2], .agg #[.int .i64 d.1, .int .i64 d.2]] w fun e w' =>
      e = .returned (.bool (decide (0 < inC a b c d))) ∧ Below w.heap.size w w' := by
  obtain ⟨a1, a2⟩ := a
  obtain ⟨b1, b2⟩ := b
  obtain ⟨c1, c2⟩ := c
  obtain ⟨d1, d2⟩ := d
  obtain ⟨p1, p2, p3, p4⟩ := ha
  obtain ⟨q1, q2, q3, q4⟩ := hb
  obtain ⟨r1, r2, r3, r4⟩ := hc
  obtain ⟨s1, s2, s3, s4⟩ := hd
  simp only at p1 p2 p3 p4 q1 q2 q3 q4 r1 r2 r3 r4 s1 s2 s3 s4
  have e1 : -1998 ≤ a1 - d1 ∧ a1 - d1 ≤ 1998 := by omega
  have e2 : -1998 ≤ a2 - d2 ∧ a2 - d2 ≤ 1998 := by omega
  have e3 : -1998 ≤ b1 - d1 ∧ b1 - d1 ≤ 1998 := by omega
  have e4 : -1998 ≤ b2 - d2 ∧ b2 - d2 ≤ 1998 := by omega
  have e5 : -1998 ≤ c1 - d1 ∧ c1 - d1 ≤ 1998 := by omega
  have e6 : -1998 ≤ c2 - d2 ∧ c2 - d2 ≤ 1998 := by omega
  have hI : inC (a1, a2) (b1, b2) (c1, c2) (d1, d2) = 
    ((a1 - d1) * (a1 - d1) + (a2 - d2) * (a2 - d2)) * ((b1 - d1) * (c2 - d2) - (b2 - d2) * (c1 - d1)) +
    ((b1 - d1) * (b1 - d1) + (b2 - d2) * (b2 - d2)) * ((c1 - d1) * (a2 - d2) - (c2 - d2) * (a1 - d1)) +
    ((c1 - d1) * (c1 - d1) + (c2 - d2) * (c2 - d2)) * ((a1 - d1) * (b2 - d2) - (a2 - d2) * (b1 - d1)) := rfl
  rw [hI]
  clear hI
  generalize hA1 : a1 - d1 = A1 at *
  generalize hA2 : a2 - d2 = A2 at *
  generalize hB1 : b1 - d1 = B1 at *
  generalize hB2 : b2 - d2 = B2 at *
  generalize hC1 : c1 - d1 = C1 at *
  generalize hC2 : c2 - d2 = C2 at *
  obtain ⟨m1, n1⟩ := pr2 e1.1 e1.2 e1.1 e1.2
  obtain ⟨m2, n2⟩ := pr2 e2.1 e2.2 e2.1 e2.2
  obtain ⟨m3, n3⟩ := pr2 e3.1 e3.2 e3.1 e3.2
  obtain ⟨m4, n4⟩ := pr2 e4.1 e4.2 e4.1 e4.2
  obtain ⟨m5, n5⟩ := pr2 e5.1 e5.2 e5.1 e5.2
  obtain ⟨m6, n6⟩ := pr2 e6.1 e6.2 e6.1 e6.2
  obtain ⟨u1, v1⟩ := pr2 e3.1 e3.2 e6.1 e6.2
  obtain ⟨u2, v2⟩ := pr2 e4.1 e4.2 e5.1 e5.2
  obtain ⟨u3, v3⟩ := pr2 e5.1 e5.2 e2.1 e2.2
  obtain ⟨u4, v4⟩ := pr2 e6.1 e6.2 e1.1 e1.2
  obtain ⟨u5, v5⟩ := pr2 e1.1 e1.2 e4.1 e4.2
  obtain ⟨u6, v6⟩ := pr2 e2.1 e2.2 e3.1 e3.2
  obtain ⟨x1, y1⟩ := pr4 (a := A1 * A1 + A2 * A2) (b := B1 * C2 - B2 * C1) (by omega) (by omega) (by omega) (by omega)
  obtain ⟨x2, y2⟩ := pr4 (a := B1 * B1 + B2 * B2) (b := C1 * A2 - C2 * A1) (by omega) (by omega) (by omega) (by omega)
  obtain ⟨x3, y3⟩ := pr4 (a := C1 * C1 + C2 * C2) (b := A1 * B2 - A2 * B1) (by omega) (by omega) (by omega) (by omega)
  subst hA1 hA2 hB1 hB2 hC1 hC2
  go_enter Try.func21, Try.ntmps21
  go_wp2
  go_ret
  refine ⟨rfl, ?_⟩
  refine (((((((Below.refl _ _).alloc (Nat.le_refl _) _).alloc (by simp) _).alloc (by simp; omega) _).alloc (by simp; omega) _).alloc (by simp; omega) _).alloc (by simp; omega) _).alloc (by simp; omega) _

end Go.Proofs.Ytlicmfhgjonmnaa
