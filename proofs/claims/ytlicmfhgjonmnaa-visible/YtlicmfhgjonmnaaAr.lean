/- The program's area. Own work. -/
import Derived.Test.YtlicmfhgjonmnaaMu
namespace Go.Proofs.Ytlicmfhgjonmnaa
open Go.RowKit
set_option linter.unusedVariables false

def sumI (F : Nat → Int) : Nat → Int
  | 0 => 0
  | n + 1 => sumI F n + F n

theorem sumI_bd (F : Nat → Int) (h : ∀ i, -1996002 ≤ F i ∧ F i ≤ 1996002) : ∀ n : Nat, -(1996002 * (n : Int)) ≤ sumI F n ∧ sumI F n ≤ 1996002 * (n : Int)
  | 0 => by simp [sumI]
  | n + 1 => by
    have h1 := sumI_bd F h n
    have h2 := h n
    simp only [sumI]
    omega

theorem sumI_congr {F G : Nat → Int} : ∀ n, (∀ i, i < n → F i = G i) → sumI F n = sumI G n
  | 0, _ => rfl
  | n + 1, h => by
    simp only [sumI]
    rw [sumI_congr n (fun i hi => h i (by omega)), h n (by omega)]

def arE (ps : List CP) (i : Nat) : Int := crsI zeroCP (ptAt ps i) (ptAt ps (nextI ps.length i))

theorem prod999 {a b : Int} (h1 : -999 ≤ a ∧ a ≤ 999) (h2 : -999 ≤ b ∧ b ≤ 999) : -998001 ≤ a * b ∧ a * b ≤ 998001 := by
  have : (a * b).natAbs ≤ 999 * 999 := by rw [Int.natAbs_mul]; exact Nat.mul_le_mul (by omega) (by omega)
  omega

theorem crs0 (a b : CP) : crsI zeroCP a b = a.x * b.y - a.y * b.x := by
  show (a.x - 0) * (b.y - 0) - (a.y - 0) * (b.x - 0) = _
  simp only [Int.sub_zero]

theorem arE_bd (ps : List CP) (i : Nat) : -1996002 ≤ arE ps i ∧ arE ps i ≤ 1996002 := by
  unfold arE
  rw [crs0]
  have h1 := prod999 (ptAt ps i).hx (ptAt ps (nextI ps.length i)).hy
  have h2 := prod999 (ptAt ps i).hy (ptAt ps (nextI ps.length i)).hx
  omega

theorem turn0_any (a b : CP) (w : World) :
    Calls Try.prog 46 #[.complex .f64 0 0, .complex .f64 a.re a.im, .complex .f64 b.re b.im] w fun e w' => e = .returned (.complex .f64 (tRe zeroCP a b) (tIm zeroCP a b)) ∧ w' = w := turn_any zeroCP a b w

set_option maxHeartbeats 1000000 in
theorem area1_any (e : CE) (w : World) :
    Calls Try.prog 45 #[.agg #[.int .i64 e.n, .int .i64 e.m, .complex .f64 e.a.re e.a.im, .complex .f64 e.b.re e.b.im]] w fun r w' =>
      r = .returned (.int .i64 (crsI zeroCP e.a e.b)) ∧ Below w.heap.size w w' := by
  have hb := bd_crs zeroCP e.a e.b
  have hv : floatToIntVal .f64 (tIm zeroCP e.a e.b) .i64 = some (crsI zeroCP e.a e.b) := by
    unfold floatToIntVal
    rw [(t_rep zeroCP e.a e.b).2.toInt]
    have h1 : IntKind.i64.min = -9223372036854775808 := by decide
    have h2 : IntKind.i64.max = 9223372036854775807 := by decide
    rw [h1, h2]
    exact if_pos ⟨by omega, by omega⟩
  have hc : ∀ w : World, (convert 87 3 (.float .f64 (tIm zeroCP e.a e.b))).run Try.prog w = .ok (.int .i64 (crsI zeroCP e.a e.b)) w :=
    fun w => run_convert_float_int w _ _ _ _ _ _ (by rw [Try.underlying87]; rfl) Try.underlying3 hv
  clear hv hb
  go_enter Try.func45, Try.ntmps45
  go_wp2_with fail
  refine (turn0_any _ _ _).mono ?_
  rintro r w' ⟨rfl, rfl⟩
  go_wp2_with fail
  go_ret
  exact ⟨rfl, (Below.refl _ _).alloc (Nat.le_refl _) _⟩

theorem ent_area (args : Array Value) (w : World) : (callFunc 45 args).run Try.prog w = .ok (.enter 45 args) w := enters_of Try.func45 (by kernel_rfl) rfl args w

set_option maxHeartbeats 1000000 in
theorem sumOfEdges_any (ps : List CP) (b cap : Nat) (w : World) (hn : ps.length ≤ 16) (hlt : b < w.heap.size) (hrow : RowC w b ps) :
    Calls Try.prog 44 #[.agg #[.slice (some ⟨b, 0, none⟩) ps.length cap], .func (.func 45) #[] #[]] w fun r w' =>
      r = .returned (.int .i64 (sumI (arE ps) ps.length)) ∧ Below w.heap.size w w' := by
  have Hrow := hide hrow
  clear hrow
  go_enter Try.func44, Try.ntmps44
  go_wp2_with fail
  go_loopw [5, 10] (fun sv i wr => ∃ k : Nat, k ≤ ps.length ∧ i = .int .i64 k ∧ sv = .int .i64 (sumI (arE ps) k) ∧ Below (w.heap.size + 1) (w.alloc (.cells #[.slice (some ⟨b, 0, none⟩) ps.length cap] 60)) wr) (fun _ i _ => ps.length - (intOf i).toNat)
  case atStart => exact ⟨0, Nat.zero_le _, rfl, rfl, Below.refl _ _⟩
  case round =>
    obtain ⟨k, hk, rfl, rfl, hbel⟩ := hrel
    have hw : Below w.heap.size w wr := ((Below.refl _ _).alloc (Nat.le_refl _) _).trans (hbel.mono (by omega))
    have hsz : w.heap.size < wr.heap.size := by have := hbel.size; simp at this; omega
    have hc0 : wr.cell? ⟨w.heap.size, 0, none⟩ = some (.slice (some ⟨b, 0, none⟩) ps.length cap) := by
      rw [hbel.cell (p := ⟨w.heap.size, 0, none⟩) (by simp)]; simp
    have hs1 := sumI_bd (arE ps) (arE_bd ps) k
    have hs2 := arE_bd ps k
    have s1 : -31936032 ≤ sumI (arE ps) k := by omega
    have s2 : sumI (arE ps) k ≤ 31936032 := by omega
    obtain ⟨s3, s4⟩ := hs2
    have hstep : sumI (arE ps) (k + 1) = sumI (arE ps) k + arE ps k := rfl
    have Hstep := hide hstep
    have Hw := hide hw
    have Hbel := hide hbel
    clear hw hbel hs1 hstep
    by_cases hlt2 : k < ps.length
    · have hi : (k : Int) < (ps.length : Int) := by omega
      go_wp2_with fail
      refine (edge_any ps b cap k _ hn hlt2 (by omega) (Hrow.out.below Hw.out hlt)).mono ?_
      rintro r w1 ⟨rfl, hb1⟩
      have Hb1 := hide hb1
      clear hb1
      go_wp2_with fail
      refine (area1_any (edgeOf ps k) _).mono ?_
      rintro r w2 ⟨rfl, hb2⟩
      have hv : crsI zeroCP (edgeOf ps k).a (edgeOf ps k).b = arE ps k := rfl
      rw [hv]
      have Hb2 := hide hb2
      clear hb2 hv
      go_wp2_with fail
      go_roundw
      case rel => exact ⟨k + 1, by omega, by go_num, by rw [Hstep.out], Hbel.out.trans ((below_next Hb1.out Hb2.out).mono hsz)⟩
      case measure => simp [intOf]; omega
    · have hi : ¬ (k : Int) < (ps.length : Int) := by omega
      have hke : k = ps.length := by omega
      have Hke := hide hke
      clear hke
      go_wp2_with fail
      go_ret
      exact ⟨ret_int (by rw [Hke.out]), Hw.out⟩

set_option maxHeartbeats 1000000 in
theorem doubleArea_any (ps : List CP) (b cap : Nat) (w : World) (hn : ps.length ≤ 16) (hlt : b < w.heap.size) (hrow : RowC w b ps) :
    Calls Try.prog 29 #[.agg #[.slice (some ⟨b, 0, none⟩) ps.length cap]] w fun r w' =>
      r = .returned (.int .i64 (sumI (arE ps) ps.length)) ∧ Below w.heap.size w w' := by
  have Hrow := hide hrow
  clear hrow
  have HS := hide (sumOfEdges_any ps b cap (w.alloc (.cells #[.slice (some ⟨b, 0, none⟩) ps.length cap] 60)) hn (by simp; omega) (Hrow.out.alloc hlt _))
  go_enter Try.func29, Try.ntmps29
  go_wp2_with fail
  refine HS.out.mono ?_
  rintro r w1 ⟨rfl, hb1⟩
  have Hb1 := hide hb1
  clear hb1
  go_wp2_with fail
  go_ret
  exact ⟨rfl, below_one Hb1.out⟩

set_option maxHeartbeats 1000000 in
theorem Area_long (s : ByteArray) (w : World) (hs : s.size ≤ maxLen) (h : 160 < s.size) :
    Calls Try.prog 13 #[.string s] w fun e w' => e = .returned (.tuple #[.int .i64 0, .int .i64 1, .int .i64 0]) ∧ Below w.heap.size w w' := by
  go_enter Try.func13, Try.ntmps13
  go_wp2_with fail
  refine (readPolygon_long s _ hs h).mono ?_
  rintro e w1 ⟨rfl, hb⟩
  have Hb := hide hb
  clear hb
  go_wp2_with fail
  go_ret3
  exact ⟨rfl, Hb.out.alloc Hb.out.size _⟩

set_option maxHeartbeats 1000000 in
theorem Area_text (s : ByteArray) (w : World) (hs : s.size ≤ 160) (p : Nat) (h : rdAll s 16 0 [] = .inl p) :
    Calls Try.prog 13 #[.string s] w fun e w' => e = .returned (.tuple #[.int .i64 0, .int .i64 2, .int .i64 p]) ∧ Below w.heap.size w w' := by
  have H := hide h
  clear h
  go_enter Try.func13, Try.ntmps13
  go_wp2_with fail
  refine (readPolygon_text s _ hs p H.out).mono ?_
  rintro e w1 ⟨rfl, hb⟩
  have Hb := hide hb
  clear hb
  go_wp2_with fail
  go_ret3
  exact ⟨rfl, Hb.out.alloc Hb.out.size _⟩

set_option maxHeartbeats 1000000 in
theorem Area_meet (s : ByteArray) (w : World) (hs : s.size ≤ 160) (l : List (Int × Int)) (h : rdAll s 16 0 [] = .inr l) :
    Calls Try.prog 13 #[.string s] w fun e w' => ∃ ps : List CP, xy ps = l ∧ Below w.heap.size w w' ∧
      (firstI (clashRow ps) ps.length ≠ -1 → e = .returned (.tuple #[.int .i64 0, .int .i64 3, .int .i64 (firstI (clashRow ps) ps.length)])) ∧
      (firstI (clashRow ps) ps.length = -1 → e = .returned (.tuple #[.int .i64 (sumI (arE ps) ps.length), .int .i64 0, .int .i64 0])) := by
  have hlen := (rdAll_len s 16 0 [] l h (by simp)).2
  have H := hide h
  clear h
  go_enter Try.func13, Try.ntmps13
  go_wp2_with fail
  refine (readPolygon_meet s _ hs l H.out).mono ?_
  rintro e w1 ⟨ps, hxy, hb, h1, h2⟩
  have hn : ps.length ≤ 16 := by rw [← hxy, xy_length] at hlen; exact hlen
  have Hb := hide hb
  have Hxy := hide hxy
  clear hb hxy
  generalize hF : firstI (clashRow ps) ps.length = F at *
  have HFe := hide hF
  clear hF
  by_cases hm : F = -1
  · obtain ⟨g, cap, rfl, hg, hrow⟩ := h2 hm
    have Hm := hide hm
    have HD := hide (doubleArea_any ps g cap (w1.alloc (.cells #[.slice (some ⟨g, 0, none⟩) ps.length cap] 60)) hn (by simp; omega) (hrow.alloc hg _))
    clear h1 h2 hm hrow
    go_wp2_with fail
    refine HD.out.mono ?_
    rintro e w2 ⟨rfl, hb2⟩
    have Hb2 := hide hb2
    clear hb2
    go_wp2_with fail
    go_ret3
    exact ⟨ps, Hxy.out, below_next Hb.out (below_one Hb2.out), fun hn => absurd (HFe.out.trans Hm.out) hn, fun _ => rfl⟩
  · obtain rfl := h1 hm
    have Hm := hide hm
    clear h1 h2 hm
    go_wp2_with fail
    go_ret3
    exact ⟨ps, Hxy.out, Hb.out.alloc Hb.out.size _, fun _ => by rw [HFe.out]; rfl, fun hn => absurd (HFe.out.symm.trans hn) Hm.out⟩

end Go.Proofs.Ytlicmfhgjonmnaa
