/- The document's apart. Own work. -/
import Derived.Test.YtlicmfhgjonmnaaRg
namespace Go.Proofs.Ytlicmfhgjonmnaa
open Go.RowKit Go.Sort
set_option linter.unusedVariables false

theorem Meet_any (a b c d : Int × Int) (ha : Bd a) (hb : Bd b) (hc : Bd c) (hd : Bd d) (w : World) :
    Calls Try.prog 23 #[.agg #[.int .i64 a.1, .int .i64 a.2], .agg #[.int .i64 b.1, .int .i64 b.2], .agg #[.int .i64 c.1, .int .i64 c.2], .agg #[.int .i64 d.1, .int .i64 d.2]] w fun e w' =>
      e = .returned (.bool (meetI a b c d)) ∧ Below w.heap.size w w' := by
  cases h : (onI a b c || onI a b d || onI c d a || onI c d b)
  · rw [meetI, h, Bool.false_or]
    exact Meet_no a b c d ha hb hc hd w h
  · rw [meetI, h, Bool.true_or]
    exact Meet_yes a b c d ha hb hc hd w h

theorem fieldsP : Try.prog.underlying 39 = some (.struct (Try.prog.fieldsOf 39)) := by kernel_rfl
theorem heldP : Try.prog.stoodInHeld 39 = false := by kernel_rfl
theorem guardP : Try.prog.eqGuardType Try.prog.depth 39 = false := by kernel_rfl

theorem eql_pt (a b : Int × Int) (w : World) : (binOp .eql 39 (.agg #[.int .i64 a.1, .int .i64 a.2]) (.agg #[.int .i64 b.1, .int .i64 b.2])).run Try.prog w = .ok (.bool (decide (a = b))) w := by
  rw [run_eql_struct, run_equalIn_agg w 9999 39 _ _ fieldsP heldP]
  simp [go_sem]
  obtain ⟨a1, a2⟩ := a
  obtain ⟨b1, b2⟩ := b
  simp only [Prod.mk.injEq]
  by_cases h1 : a1 = b1 <;> by_cases h2 : a2 = b2 <;> simp [h1, h2]

/-- The four ends, and what is asked of the two edges i and k. -/
def apartI (n i k : Nat) (a b c d : Int × Int) : Bool :=
  if a = b ∨ c = d then !meetI a b c d
  else if k = i + 1 ∧ b = c then !onI a b d && !onI c d a
  else if i = 0 ∧ k + 1 = n ∧ a = d then !onI a b c && !onI c d b
  else !meetI a b c d

set_option maxRecDepth 100000 in
set_option maxHeartbeats 8000000 in
theorem apart_core (n g cap i j k m : Nat) (a1 a2 b1 b2 c1 c2 d1 d2 : Int) (hn : n ≤ 16) (hik : i < k) (hk : k < n) (hj : j < n) (hm : m < n)
    (e1 : ((i : Int) + 1) % (n : Int) = (j : Int)) (e2 : ((i : Int) + 1).tmod (n : Int) = (j : Int)) (e3 : ((k : Int) + 1) % (n : Int) = (m : Int)) (e4 : ((k : Int) + 1).tmod (n : Int) = (m : Int))
    (ha : Bd (a1, a2)) (hb : Bd (b1, b2)) (hc : Bd (c1, c2)) (hd : Bd (d1, d2)) (hbc : k = i + 1 → (b1, b2) = (c1, c2)) (hda : i = 0 → k + 1 = n → (d1, d2) = (a1, a2))
    (w : World) (hg : g < w.heap.size)
    (k1 : w.cell? ⟨g, i * 2, none⟩ = some (.int .i64 a1)) (k2 : w.cell? ⟨g, i * 2 + 1, none⟩ = some (.int .i64 a2))
    (k3 : w.cell? ⟨g, j * 2, none⟩ = some (.int .i64 b1)) (k4 : w.cell? ⟨g, j * 2 + 1, none⟩ = some (.int .i64 b2))
    (k5 : w.cell? ⟨g, k * 2, none⟩ = some (.int .i64 c1)) (k6 : w.cell? ⟨g, k * 2 + 1, none⟩ = some (.int .i64 c2))
    (k7 : w.cell? ⟨g, m * 2, none⟩ = some (.int .i64 d1)) (k8 : w.cell? ⟨g, m * 2 + 1, none⟩ = some (.int .i64 d2)) :
    Calls Try.prog 28 #[.slice (some ⟨g, 0, none⟩) n cap, .int .i64 i, .int .i64 k] w fun e w' =>
      e = .returned (.bool (apartI n i k (a1, a2) (b1, b2) (c1, c2) (d1, d2))) ∧ Below w.heap.size w w' := by
  have hz : ((n : Int) == 0) = false := by simp; omega
  have i1 : (i : Int) < n := by omega
  have i2 : (j : Int) < n := by omega
  have i3 : (k : Int) < n := by omega
  have i4 : (m : Int) < n := by omega
  have hg1 : g < w.heap.size + 1 := by omega
  have hg2 : g < w.heap.size + 1 + 1 := by omega
  have hg3 : g < w.heap.size + 1 + 1 + 1 := by omega
  have HA := hide ha; have HB := hide hb; have HC := hide hc; have HD := hide hd
  clear ha hb hc hd
  by_cases hab : (a1, a2) = (b1, b2)
  · cases hab
    rw [apartI, if_pos (.inl rfl)]
    clear hbc hda
    go_enter Try.func28, Try.ntmps28
    go_wp2_with fail
    refine (Meet_any _ _ _ _ HA.out HA.out HC.out HD.out _).mono ?_
    rintro e w1 ⟨rfl, hb1⟩
    have Hb1 := hide hb1
    clear hb1
    go_wp2_with fail
    go_ret
    exact ⟨rfl, below_four Hb1.out⟩
  · by_cases hcd : (c1, c2) = (d1, d2)
    · cases hcd
      rw [apartI, if_pos (.inr rfl)]
      clear hbc hda
      have hab' : ¬ a1 = b1 ∨ a1 = b1 ∧ ¬ a2 = b2 := by
        by_cases h : a1 = b1
        · exact .inr ⟨h, fun h2 => hab (by rw [h, h2])⟩
        · exact .inl h
      clear hab
      rcases hab' with n1 | ⟨rfl, n1⟩
      all_goals
        go_enter Try.func28, Try.ntmps28
        go_wp2_with fail
        refine (Meet_any _ _ _ _ HA.out HB.out HC.out HC.out _).mono ?_
        rintro e w1 ⟨rfl, hb1⟩
        have Hb1 := hide hb1
        clear hb1
        go_wp2_with fail
        go_ret
        exact ⟨rfl, below_four Hb1.out⟩
    · rw [apartI, if_neg (fun h => h.elim hab hcd)]
      have hab' : ¬ a1 = b1 ∨ a1 = b1 ∧ ¬ a2 = b2 := by
        by_cases h : a1 = b1
        · exact .inr ⟨h, fun h2 => hab (by rw [h, h2])⟩
        · exact .inl h
      have hcd' : ¬ c1 = d1 ∨ c1 = d1 ∧ ¬ c2 = d2 := by
        by_cases h : c1 = d1
        · exact .inr ⟨h, fun h2 => hcd (by rw [h, h2])⟩
        · exact .inl h
      clear hab hcd
      by_cases hk1 : k = i + 1
      · have g1 : ((k : Int) == (i : Int) + 1) = true := by simp; omega
        have hbc' := hbc hk1
        rw [if_pos ⟨hk1, hbc'⟩]
        clear hbc hda hk1
        cases hX : onI (a1, a2) (b1, b2) (d1, d2)
        all_goals
          have HX := hide hX
          clear hX
          cases hbc'
          rcases hab' with n1 | ⟨rfl, n1⟩ <;> rcases hcd' with n2 | ⟨rfl, n2⟩
          all_goals
            go_enter Try.func28, Try.ntmps28
            go_wp2_with fail
            refine (On_any _ _ _ HA.out HB.out HD.out _).mono ?_
            rintro e w1 ⟨rfl, hb1⟩
            rw [HX.out]
            obtain ⟨hc, hf⟩ := bcell hb1
            have Hb1 := hide hb1
            clear hb1
            go_wp2_with fail
            refine (On_any _ _ _ HB.out HD.out HA.out _).mono ?_
            rintro e w2 ⟨rfl, hb2⟩
            have Hb2 := hide (below_next Hb1.out hb2)
            clear hb2 hc hf
            go_wp2_with fail
            go_ret
            exact ⟨rfl, below_four Hb2.out⟩
      · have g1 : ((k : Int) == (i : Int) + 1) = false := by simp; omega
        rw [if_neg (fun h => hk1 h.1)]
        by_cases h0 : i = 0
        · have g2 : ((i : Int) == 0) = true := by simp; omega
          by_cases hl : k + 1 = n
          · have g3 : ((k : Int) == (n : Int) - 1) = true := by simp; omega
            have hda' := hda h0 hl
            rw [if_pos ⟨h0, hl, hda'.symm⟩]
            clear hbc hda hk1 h0 hl
            cases hX : onI (a1, a2) (b1, b2) (c1, c2)
            all_goals
              have HX := hide hX
              clear hX
              cases hda'
              rcases hab' with n1 | ⟨rfl, n1⟩ <;> rcases hcd' with n2 | ⟨rfl, n2⟩
              all_goals
                go_enter Try.func28, Try.ntmps28
                go_wp2_with fail
                refine (On_any _ _ _ HA.out HB.out HC.out _).mono ?_
                rintro e w1 ⟨rfl, hb1⟩
                rw [HX.out]
                obtain ⟨hc, hf⟩ := bcell hb1
                have Hb1 := hide hb1
                clear hb1
                go_wp2_with fail
                refine (On_any _ _ _ HC.out HD.out HB.out _).mono ?_
                rintro e w2 ⟨rfl, hb2⟩
                have Hb2 := hide (below_next Hb1.out hb2)
                clear hb2 hc hf
                go_wp2_with fail
                go_ret
                exact ⟨rfl, below_four Hb2.out⟩
          · have g3 : ((k : Int) == (n : Int) - 1) = false := by simp; omega
            rw [if_neg (fun h => hl h.2.1)]
            clear hbc hda hk1 h0 hl
            rcases hab' with n1 | ⟨rfl, n1⟩ <;> rcases hcd' with n2 | ⟨rfl, n2⟩
            all_goals
              go_enter Try.func28, Try.ntmps28
              go_wp2_with fail
              refine (Meet_any _ _ _ _ HA.out HB.out HC.out HD.out _).mono ?_
              rintro e w1 ⟨rfl, hb1⟩
              have Hb1 := hide hb1
              clear hb1
              go_wp2_with fail
              go_ret
              exact ⟨rfl, below_four Hb1.out⟩
        · have g2 : ((i : Int) == 0) = false := by simp; omega
          rw [if_neg (fun h => h0 h.1)]
          clear hbc hda hk1 h0
          rcases hab' with n1 | ⟨rfl, n1⟩ <;> rcases hcd' with n2 | ⟨rfl, n2⟩
          all_goals
            go_enter Try.func28, Try.ntmps28
            go_wp2_with fail
            refine (Meet_any _ _ _ _ HA.out HB.out HC.out HD.out _).mono ?_
            rintro e w1 ⟨rfl, hb1⟩
            have Hb1 := hide hb1
            clear hb1
            go_wp2_with fail
            go_ret
            exact ⟨rfl, below_four Hb1.out⟩

theorem apart_any (l : List (Int × Int)) (hl : l.length ≤ 16) (hB : ∀ i, Bd (pAt l i)) (g cap i k : Nat) (hik : i < k) (hk : k < l.length) (w : World) (hg : g < w.heap.size) (hrow : RowP w g l) :
    Calls Try.prog 28 #[.slice (some ⟨g, 0, none⟩) l.length cap, .int .i64 i, .int .i64 k] w fun e w' =>
      e = .returned (.bool (apartI l.length i k (pAt l i) (pAt l (nextI l.length i)) (pAt l k) (pAt l (nextI l.length k)))) ∧ Below w.heap.size w w' := by
  have hj : nextI l.length i < l.length := Nat.mod_lt _ (by omega)
  have hm : nextI l.length k < l.length := Nat.mod_lt _ (by omega)
  have e1 : ((i : Int) + 1) % (l.length : Int) = (nextI l.length i : Int) := by simp [nextI]
  have e3 : ((k : Int) + 1) % (l.length : Int) = (nextI l.length k : Int) := by simp [nextI]
  have r1 := hrow i (by omega)
  have r2 := hrow _ hj
  have r3 := hrow k hk
  have r4 := hrow _ hm
  exact apart_core l.length g cap i (nextI l.length i) k (nextI l.length k) (pAt l i).1 (pAt l i).2 (pAt l (nextI l.length i)).1 (pAt l (nextI l.length i)).2 (pAt l k).1 (pAt l k).2 (pAt l (nextI l.length k)).1 (pAt l (nextI l.length k)).2
    hl hik hk hj hm e1 (by rw [Int.tmod_eq_emod_of_nonneg (by omega)]; exact e1) e3 (by rw [Int.tmod_eq_emod_of_nonneg (by omega)]; exact e3)
    (hB _) (hB _) (hB _) (hB _) (fun h => by rw [next_lt (by omega), h]) (fun h0 h1 => by rw [next_last h1, h0]) w hg r1.1 r1.2 r2.1 r2.2 r3.1 r3.2 r4.1 r4.2

end Go.Proofs.Ytlicmfhgjonmnaa
