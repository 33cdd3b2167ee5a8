/- The document's Meet. Own work. -/
import Derived.Test.YtlicmfhgjonmnaaRe
namespace Go.Proofs.Ytlicmfhgjonmnaa
open Go.RowKit Go.Sort
set_option linter.unusedVariables false

theorem sgn_bd (a : Int) : -1 ≤ sgn a ∧ sgn a ≤ 1 := by unfold sgn; split <;> (try split) <;> omega
theorem sgn_mul_bd (a b : Int) : -1 ≤ sgn a * sgn b ∧ sgn a * sgn b ≤ 1 := by
  have h1 := sgn_bd a
  have h2 := sgn_bd b
  have e1 : sgn a = -1 ∨ sgn a = 0 ∨ sgn a = 1 := by omega
  have e2 : sgn b = -1 ∨ sgn b = 0 ∨ sgn b = 1 := by omega
  rcases e1 with e1 | e1 | e1 <;> rcases e2 with e2 | e2 | e2 <;> rw [e1, e2] <;> decide

theorem below_four {w w' : World} {o1 o2 o3 o4 : Obj} (h : Below ((((w.alloc o1).alloc o2).alloc o3).alloc o4).heap.size ((((w.alloc o1).alloc o2).alloc o3).alloc o4) w') : Below w.heap.size w w' :=
  (((((Below.refl _ _).alloc (Nat.le_refl _) _).alloc (by simp) _).alloc (by simp; omega) _).alloc (by simp; omega) _).trans (h.mono (by simp; omega))

theorem mixed : Try.prog.follows .mixedOrders = true := by kernel_rfl

theorem turn_grown (W : World) (a b c : Int × Int) (ha : Bd a) (hb : Bd b) (hc : Bd c) (d : Nat) (os : Array Obj) :
    Calls Try.prog 19 #[.agg #[.int .i64 a.1, .int .i64 a.2], .agg #[.int .i64 b.1, .int .i64 b.2], .agg #[.int .i64 c.1, .int .i64 c.2]] (grow (redrawn W d) os) fun e w'' => e = .returned (.int .i64 (tI a b c)) ∧ ∃ p : Regrown, w'' = grow (redrawn W p.d) p.os :=
  Calls.regrown_of (Turn_any a b c ha hb hc _)

theorem sign_grown (W : World) (n : Int) (d : Nat) (os : Array Obj) :
    Calls Try.prog 40 #[.int .i64 n] (grow (redrawn W d) os) fun e w'' => e = .returned (.int .i64 (sgn n)) ∧ ∃ p : Regrown, w'' = grow (redrawn W p.d) p.os :=
  (sign_any n _).mono fun e w'' ⟨he, hw⟩ => ⟨he, ⟨d, os⟩, hw⟩

set_option maxHeartbeats 8000000 in
theorem Meet_yes (a b c d : Int × Int) (ha : Bd a) (hb : Bd b) (hc : Bd c) (hd : Bd d) (w : World) (h : (onI a b c || onI a b d || onI c d a || onI c d b) = true) :
    Calls Try.prog 23 #[.agg #[.int .i64 a.1, .int .i64 a.2], .agg #[.int .i64 b.1, .int .i64 b.2], .agg #[.int .i64 c.1, .int .i64 c.2], .agg #[.int .i64 d.1, .int .i64 d.2]] w fun e w' =>
      e = .returned (.bool true) ∧ Below w.heap.size w w' := by
  cases o1 : onI a b c
  · cases o2 : onI a b d
    · cases o3 : onI c d a
      · cases o4 : onI c d b
        · rw [o1, o2, o3, o4] at h; cases h
        · have O1 := hide o1; have O2 := hide o2; have O3 := hide o3; have O4 := hide o4
          clear o1 o2 o3 o4 h
          go_enter Try.func23, Try.ntmps23
          go_wp2_with fail
          refine (On_any a b c ha hb hc _).mono ?_
          rintro e w1 ⟨rfl, hb1⟩
          rw [O1.out]
          obtain ⟨hk, hf⟩ := bcell hb1
          go_wp2_with fail
          refine (On_any a b d ha hb hd _).mono ?_
          rintro e w2 ⟨rfl, hb2⟩
          have hb2 := below_next hb1 hb2
          clear hk hf hb1
          rw [O2.out]
          obtain ⟨hk, hf⟩ := bcell hb2
          go_wp2_with fail
          refine (On_any c d a hc hd ha _).mono ?_
          rintro e w3 ⟨rfl, hb3⟩
          have hb3 := below_next hb2 hb3
          clear hk hf hb2
          rw [O3.out]
          obtain ⟨hk, hf⟩ := bcell hb3
          go_wp2_with fail
          refine (On_any c d b hc hd hb _).mono ?_
          rintro e w4 ⟨rfl, hb4⟩
          have hb4 := below_next hb3 hb4
          clear hk hf hb3
          rw [O4.out]
          obtain ⟨hk, hf⟩ := bcell hb4
          go_wp2_with fail
          go_ret
          exact ⟨rfl, below_four hb4⟩
      · have O1 := hide o1; have O2 := hide o2; have O3 := hide o3
        clear o1 o2 o3 h
        go_enter Try.func23, Try.ntmps23
        go_wp2_with fail
        refine (On_any a b c ha hb hc _).mono ?_
        rintro e w1 ⟨rfl, hb1⟩
        rw [O1.out]
        obtain ⟨hk, hf⟩ := bcell hb1
        go_wp2_with fail
        refine (On_any a b d ha hb hd _).mono ?_
        rintro e w2 ⟨rfl, hb2⟩
        have hb2 := below_next hb1 hb2
        clear hk hf hb1
        rw [O2.out]
        obtain ⟨hk, hf⟩ := bcell hb2
        go_wp2_with fail
        refine (On_any c d a hc hd ha _).mono ?_
        rintro e w3 ⟨rfl, hb3⟩
        have hb3 := below_next hb2 hb3
        clear hk hf hb2
        rw [O3.out]
        obtain ⟨hk, hf⟩ := bcell hb3
        go_wp2_with fail
        refine (On_any c d b hc hd hb _).mono ?_
        rintro e w4 ⟨rfl, hb4⟩
        have hb4 := below_next hb3 hb4
        clear hk hf hb3
        obtain ⟨hk, hf⟩ := bcell hb4
        go_wp2_with fail
        go_ret
        exact ⟨rfl, below_four hb4⟩
    · have O1 := hide o1; have O2 := hide o2
      clear o1 o2 h
      go_enter Try.func23, Try.ntmps23
      go_wp2_with fail
      refine (On_any a b c ha hb hc _).mono ?_
      rintro e w1 ⟨rfl, hb1⟩
      rw [O1.out]
      obtain ⟨hk, hf⟩ := bcell hb1
      go_wp2_with fail
      refine (On_any a b d ha hb hd _).mono ?_
      rintro e w2 ⟨rfl, hb2⟩
      have hb2 := below_next hb1 hb2
      clear hk hf hb1
      rw [O2.out]
      obtain ⟨hk, hf⟩ := bcell hb2
      go_wp2_with fail
      refine (On_any c d a hc hd ha _).mono ?_
      rintro e w3 ⟨rfl, hb3⟩
      have hb3 := below_next hb2 hb3
      clear hk hf hb2
      obtain ⟨hk, hf⟩ := bcell hb3
      go_wp2_with fail
      refine (On_any c d b hc hd hb _).mono ?_
      rintro e w4 ⟨rfl, hb4⟩
      have hb4 := below_next hb3 hb4
      clear hk hf hb3
      obtain ⟨hk, hf⟩ := bcell hb4
      go_wp2_with fail
      go_ret
      exact ⟨rfl, below_four hb4⟩
  · have O1 := hide o1
    clear o1 h
    go_enter Try.func23, Try.ntmps23
    go_wp2_with fail
    refine (On_any a b c ha hb hc _).mono ?_
    rintro e w1 ⟨rfl, hb1⟩
    rw [O1.out]
    obtain ⟨hk, hf⟩ := bcell hb1
    go_wp2_with fail
    refine (On_any a b d ha hb hd _).mono ?_
    rintro e w2 ⟨rfl, hb2⟩
    have hb2 := below_next hb1 hb2
    clear hk hf hb1
    obtain ⟨hk, hf⟩ := bcell hb2
    go_wp2_with fail
    refine (On_any c d a hc hd ha _).mono ?_
    rintro e w3 ⟨rfl, hb3⟩
    have hb3 := below_next hb2 hb3
    clear hk hf hb2
    obtain ⟨hk, hf⟩ := bcell hb3
    go_wp2_with fail
    refine (On_any c d b hc hd hb _).mono ?_
    rintro e w4 ⟨rfl, hb4⟩
    have hb4 := below_next hb3 hb4
    clear hk hf hb3
    obtain ⟨hk, hf⟩ := bcell hb4
    go_wp2_with fail
    go_ret
    exact ⟨rfl, below_four hb4⟩

end Go.Proofs.Ytlicmfhgjonmnaa
