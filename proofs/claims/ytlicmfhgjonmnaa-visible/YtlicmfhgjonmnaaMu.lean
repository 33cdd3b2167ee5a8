/- The first edge that clashes: the program's and the document's are one. Own work. -/
import Derived.Test.YtlicmfhgjonmnaaMt
namespace Go.Proofs.Ytlicmfhgjonmnaa
set_option linter.unusedVariables false

theorem meetB_comm (e f : CE) : meetB e f = meetB f e := by
  unfold meetB
  cases holdsB e f.a <;> cases holdsB e f.b <;> cases holdsB f e.a <;> cases holdsB f e.b <;> cases partsB e f <;> cases partsB f e <;> rfl

theorem P_P (p q : CP) : P p = P q ↔ p.x = q.x ∧ p.y = q.y := by simp [P]

theorem xy_length (ps : List CP) : (xy ps).length = ps.length := by simp [xy]

theorem clash_diag (ps : List CP) (i : Nat) : clashB (edgeOf ps i) (edgeOf ps i) = false := by simp [clashB]

theorem next_ne {n i : Nat} (h : 3 ≤ n) (hi : i < n) : nextI n (nextI n i) ≠ i := by
  by_cases h1 : i + 1 < n
  · rw [next_lt h1]
    by_cases h2 : i + 1 + 1 < n
    · rw [next_lt h2]; omega
    · rw [next_last (by omega)]; omega
  · rw [next_last (n := n) (i := i) (by omega), next_lt (n := n) (i := 0) (by omega)]; omega

theorem clash_symm (ps : List CP) (h3 : 3 ≤ ps.length) (i k : Nat) (hi : i < ps.length) (hk : k < ps.length) : clashB (edgeOf ps i) (edgeOf ps k) = clashB (edgeOf ps k) (edgeOf ps i) := by
  by_cases hik : i = k
  · subst hik; rfl
  · have c1 : ¬ (edgeOf ps k).n = (edgeOf ps i).n := by simp only [edgeOf]; omega
    have c2 : ¬ (edgeOf ps i).n = (edgeOf ps k).n := by simp only [edgeOf]; omega
    simp only [clashB]
    rw [if_neg c1, if_neg c2]
    by_cases h1 : nextI ps.length i = k
    · have d1 : (edgeOf ps i).m = (edgeOf ps k).n := by simp only [edgeOf]; omega
      have d2 : ¬ (edgeOf ps k).m = (edgeOf ps i).n := by
        have := next_ne h3 hi
        rw [h1] at this
        simp only [edgeOf]
        omega
      rw [if_pos d1, if_neg d2, if_pos d1]
    · have d1 : ¬ (edgeOf ps i).m = (edgeOf ps k).n := by simp only [edgeOf]; omega
      rw [if_neg d1]
      by_cases h2 : nextI ps.length k = i
      · have d2 : (edgeOf ps k).m = (edgeOf ps i).n := by simp only [edgeOf]; omega
        rw [if_pos d2, if_pos d2]
      · have d2 : ¬ (edgeOf ps k).m = (edgeOf ps i).n := by simp only [edgeOf]; omega
        rw [if_neg d2, if_neg d2, if_neg d1]
        exact meetB_comm _ _

theorem fold_degenerate {e f : CE} (hb : P e.b = P f.a) (h : P e.a = P e.b ∨ P f.a = P f.b) : foldsB e f = true := by
  rw [folds_eq e f hb]
  rcases h with h | h
  · rw [h, on_self', Bool.or_true]
  · rw [← h, ← hb, on_self, Bool.true_or]

theorem meet_degenerate {a b c d : Int × Int} (h : b = c) : meetI a b c d = true := by
  rw [meetI, h, on_self]; simp

theorem meet_degenerate' {a b c d : Int × Int} (h : d = a) : meetI a b c d = true := by
  have : onI a b d = true := by rw [h]; exact on_self' a b
  rw [meetI, this]; simp

theorem clash_eq (ps : List CP) (h3 : 3 ≤ ps.length) (i k : Nat) (hik : i < k) (hk : k < ps.length) : clashB (edgeOf ps i) (edgeOf ps k) = !apL (xy ps) i k := by
  have c1 : ¬ ((k : Int) = (i : Int)) := by omega
  unfold apL
  rw [pAt_xy, pAt_xy, pAt_xy, pAt_xy, xy_length]
  by_cases h1 : k = i + 1
  · have hn : nextI ps.length i = k := by rw [next_lt (by omega), h1]
    have e : clashB (edgeOf ps i) (edgeOf ps k) = foldsB (edgeOf ps i) (edgeOf ps k) := by
      have d1 : (edgeOf ps i).m = (edgeOf ps k).n := by simp only [edgeOf]; omega
      simp only [clashB]
      rw [if_neg (by simp only [edgeOf]; omega), if_pos d1]
    have hb : P (edgeOf ps i).b = P (edgeOf ps k).a := by simp only [edgeOf]; rw [hn]
    rw [e]
    have hbc : P (ptAt ps (nextI ps.length i)) = P (ptAt ps k) := by rw [hn]
    unfold apartI
    by_cases hd : P (ptAt ps i) = P (ptAt ps (nextI ps.length i)) ∨ P (ptAt ps k) = P (ptAt ps (nextI ps.length k))
    · rw [if_pos hd, meet_degenerate hbc, fold_degenerate hb hd]; rfl
    · rw [if_neg hd, if_pos ⟨h1, hbc⟩, folds_eq _ _ hb]
      simp only [edgeOf]
      rw [hn]
      cases onI (P (ptAt ps i)) (P (ptAt ps k)) (P (ptAt ps (nextI ps.length k))) <;> cases onI (P (ptAt ps k)) (P (ptAt ps (nextI ps.length k))) (P (ptAt ps i)) <;> rfl
  · by_cases h2 : i = 0 ∧ k + 1 = ps.length
    · have hn : nextI ps.length k = i := by rw [next_last h2.2, h2.1]
      have hn1 : nextI ps.length i ≠ k := by rw [next_lt (by omega)]; omega
      have e : clashB (edgeOf ps i) (edgeOf ps k) = foldsB (edgeOf ps k) (edgeOf ps i) := by
        have d1 : ¬ (edgeOf ps i).m = (edgeOf ps k).n := by simp only [edgeOf]; omega
        have d2 : (edgeOf ps k).m = (edgeOf ps i).n := by simp only [edgeOf]; omega
        simp only [clashB]
        rw [if_neg (by simp only [edgeOf]; omega), if_neg d1, if_pos d2]
      have hb : P (edgeOf ps k).b = P (edgeOf ps i).a := by simp only [edgeOf]; rw [hn]
      rw [e]
      have hda : P (ptAt ps (nextI ps.length k)) = P (ptAt ps i) := by rw [hn]
      unfold apartI
      by_cases hd : P (ptAt ps i) = P (ptAt ps (nextI ps.length i)) ∨ P (ptAt ps k) = P (ptAt ps (nextI ps.length k))
      · rw [if_pos hd, meet_degenerate' hda, fold_degenerate hb hd.symm]; rfl
      · rw [if_neg hd, if_neg (fun h => h1 h.1), if_pos ⟨h2.1, h2.2, hda.symm⟩, folds_eq _ _ hb]
        simp only [edgeOf]
        rw [hn]
        cases onI (P (ptAt ps k)) (P (ptAt ps i)) (P (ptAt ps (nextI ps.length i))) <;> cases onI (P (ptAt ps i)) (P (ptAt ps (nextI ps.length i))) (P (ptAt ps k)) <;> rfl
    · have hn1 : nextI ps.length i ≠ k := by rw [next_lt (by omega)]; omega
      have hn2 : nextI ps.length k ≠ i := by
        by_cases hl : k + 1 < ps.length
        · rw [next_lt hl]; omega
        · rw [next_last (by omega)]; omega
      have e : clashB (edgeOf ps i) (edgeOf ps k) = meetB (edgeOf ps i) (edgeOf ps k) := by
        have d1 : ¬ (edgeOf ps i).m = (edgeOf ps k).n := by simp only [edgeOf]; omega
        have d2 : ¬ (edgeOf ps k).m = (edgeOf ps i).n := by simp only [edgeOf]; omega
        simp only [clashB]
        rw [if_neg (by simp only [edgeOf]; omega), if_neg d1, if_neg d2]
      rw [e, meet_eq]
      unfold apartI
      simp only [edgeOf]
      by_cases hd : P (ptAt ps i) = P (ptAt ps (nextI ps.length i)) ∨ P (ptAt ps k) = P (ptAt ps (nextI ps.length k))
      · rw [if_pos hd, Bool.not_not]
      · rw [if_neg hd, if_neg (fun h => h1 h.1), if_neg (fun h => h2 ⟨h.1, h.2.1⟩), Bool.not_not]

theorem firstI_cases (B : Nat → Bool) (n : Nat) : (firstI B n = -1 ∧ ∀ j, j < n → B j = false) ∨ ∃ k, k < n ∧ firstI B n = k ∧ B k = true ∧ ∀ j, j < k → B j = false := by
  unfold firstI
  cases h : (List.range n).find? B with
  | none =>
    refine .inl ⟨rfl, fun j hj => ?_⟩
    rw [List.find?_eq_none] at h
    simpa using h j (List.mem_range.2 hj)
  | some k =>
    rw [List.find?_range_eq_some] at h
    exact .inr ⟨k, by simpa using h.2.1, rfl, h.1, fun j hj => by simpa using h.2.2 j hj⟩

theorem clashRow_iff (ps : List CP) (i : Nat) : clashRow ps i = true ↔ ∃ j, j < ps.length ∧ clashB (edgeOf ps i) (edgeOf ps j) = true := by
  unfold clashRow
  rw [bne_iff_ne]
  rcases firstI_cases (fun j => clashB (edgeOf ps i) (edgeOf ps j)) ps.length with ⟨h, hn⟩ | ⟨k, hk, h, hB, _⟩
  · rw [h]
    refine ⟨fun h => absurd rfl h, ?_⟩
    rintro ⟨j, hj, hc⟩
    have := hn j hj
    rw [hc] at this
    cases this
  · rw [h]
    exact ⟨fun _ => ⟨k, hk, hB⟩, fun _ => by omega⟩

theorem first_eq (ps : List CP) (h3 : 3 ≤ ps.length) : firstI (clashRow ps) ps.length = firstI (badRow (xy ps)) (xy ps).length := by
  rw [xy_length]
  have hbad : ∀ i, badRow (xy ps) i = true → ∃ k, i < k ∧ k < ps.length ∧ clashB (edgeOf ps i) (edgeOf ps k) = true := by
    intro i h
    rw [badRow, List.any_eq_true] at h
    obtain ⟨k, hk, hc⟩ := h
    simp only [Bool.and_eq_true, decide_eq_true_eq] at hc
    have hk' : k < ps.length := by rw [← xy_length]; exact List.mem_range.1 hk
    exact ⟨k, hc.1, hk', by rw [clash_eq ps h3 i k hc.1 hk']; exact hc.2⟩
  rcases firstI_cases (clashRow ps) ps.length with ⟨h, hn⟩ | ⟨i, hi, h, hB, hlt⟩
  · rw [h]
    refine (firstI_none fun j hj => ?_).symm
    cases hb : badRow (xy ps) j with
    | false => rfl
    | true =>
      obtain ⟨k, h1, h2, h4⟩ := hbad j hb
      have := hn j hj
      rw [(clashRow_iff ps j).2 ⟨k, h2, h4⟩] at this
      cases this
  · rw [h]
    obtain ⟨j, hj, hc⟩ := (clashRow_iff ps i).1 hB
    have hij : i < j := by
      rcases Nat.lt_trichotomy i j with h1 | h1 | h1
      · exact h1
      · subst h1; rw [clash_diag] at hc; cases hc
      · rw [clash_symm ps h3 i j hi hj] at hc
        have := hlt j h1
        rw [(clashRow_iff ps j).2 ⟨i, hi, hc⟩] at this
        cases this
    refine (firstI_some hi ?_ fun j' hj' => ?_).symm
    · refine badRow_true hij (by rw [xy_length]; exact hj) ?_
      have := clash_eq ps h3 i j hij hj
      rw [hc] at this
      cases hx : apL (xy ps) i j with
      | false => rfl
      | true => rw [hx] at this; cases this
    · cases hb : badRow (xy ps) j' with
      | false => rfl
      | true =>
        obtain ⟨k, h1, h2, h4⟩ := hbad j' hb
        have := hlt j' hj'
        rw [(clashRow_iff ps j').2 ⟨k, h2, h4⟩] at this
        cases this

end Go.Proofs.Ytlicmfhgjonmnaa
