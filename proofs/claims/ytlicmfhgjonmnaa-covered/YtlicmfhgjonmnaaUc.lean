/- Triangles that hold a point: what the program asks, what the document asks. Own work. -/
import Derived.Test.YtlicmfhgjonmnaaUa
namespace Go.Proofs.Ytlicmfhgjonmnaa
open Go.RowKit
set_option linter.unusedVariables false

theorem clean_corner {a b c : Int × Int} (h : tI a b c ≠ 0) : Clean a b b c := by
  have h2 : tI b c a ≠ 0 := by rw [← tI_cyc]; exact h
  refine ⟨fun _ k => absurd rfl k, fun _ _ => ?_, fun _ _ => ?_, fun k => absurd rfl k, fun k => ?_⟩
  · cases q : onI a b c with
    | false => rfl
    | true => exact absurd ((onI_iff _ _ _).1 q).1 h
  · cases q : onI b c a with
    | false => rfl
    | true => exact absurd ((onI_iff _ _ _).1 q).1 h2
  · have := k.1
    rw [(tI_end a b).2, Int.zero_mul] at this
    omega

theorem tri_simple {a b c : Int × Int} (h : 0 < tI a b c) : Simple [a, b, c] := by
  obtain ⟨n1, n2, n3⟩ := tri_ne h
  have h1 : tI a b c ≠ 0 := by omega
  have h2 : tI b c a ≠ 0 := by rw [← tI_cyc]; exact h1
  have h3 : tI c a b ≠ 0 := by rw [tI_cyc]; exact h1
  have k1 := clean_corner h1
  have k2 := clean_corner h2
  have k3 := clean_corner h3
  refine ⟨by simp [n1, n2, Ne.symm n3], by simp, ?_⟩
  have eQ : edges [a, b, c] = [(a, b), (b, c), (c, a)] := rfl
  intro e he f hf hne
  rw [eQ] at he hf
  simp only [List.mem_cons, List.not_mem_nil, or_false] at he hf
  rcases he with rfl | rfl | rfl <;> rcases hf with rfl | rfl | rfl
  · exact absurd rfl hne
  · exact k1
  · exact k3.swap
  · exact k1.swap
  · exact absurd rfl hne
  · exact k2
  · exact k3
  · exact k2.swap
  · exact absurd rfl hne

theorem tri_place {a b c : Int × Int} (h : 0 < tI a b c) (p : Int × Int) : (placeI [a, b, c] p).1 = 0 ↔ ¬ InT a b c p := by
  have e : tw [a, b, c] = tI a b c := by
    unfold tw
    show sumE _ [(a, b), (b, c), (c, a)] = _
    simp only [sumE]
    have := cp_tri a b c
    omega
  have ec : ccw [a, b, c] = [a, b, c] := if_pos (by omega)
  have k := cut_out (tri_simple h) (C := [(a, b, c)]) (by rw [ec]; exact (CutA.tri h).cut) p
  rw [k]
  constructor
  · exact fun g => g (a, b, c) (by simp)
  · intro g t ht
    rw [List.mem_singleton] at ht
    subst ht; exact g

/-- Does the point lie in the triangle, on its edges, too? Strictly within? -/
def inB (l : List (Int × Int)) (p : Int × Int) (t : Nat × Nat × Nat) : Bool := decide (0 ≤ tI (pAt l t.1) (pAt l t.2.1) p) && decide (0 ≤ tI (pAt l t.2.1) (pAt l t.2.2) p) && decide (0 ≤ tI (pAt l t.2.2) (pAt l t.1) p)
def stB (l : List (Int × Int)) (p : Int × Int) (t : Nat × Nat × Nat) : Bool := decide (0 < tI (pAt l t.1) (pAt l t.2.1) p) && decide (0 < tI (pAt l t.2.1) (pAt l t.2.2) p) && decide (0 < tI (pAt l t.2.2) (pAt l t.1) p)

theorem inB_iff (l : List (Int × Int)) (p : Int × Int) (t : Nat × Nat × Nat) : inB l p t = true ↔ InC (pts l t) p := by
  simp only [inB, Bool.and_eq_true, decide_eq_true_eq, InC, InT, pts]
  exact ⟨fun h => ⟨h.1.1, h.1.2, h.2⟩, fun h => ⟨⟨h.1, h.2.1⟩, h.2.2⟩⟩

theorem stB_iff (l : List (Int × Int)) (p : Int × Int) (t : Nat × Nat × Nat) : stB l p t = true ↔ Within3 (pts l t) p := by
  simp only [stB, Bool.and_eq_true, decide_eq_true_eq, Within3, pts]
  exact ⟨fun h => ⟨h.1.1, h.1.2, h.2⟩, fun h => ⟨⟨h.1, h.2.1⟩, h.2.2⟩⟩

def firstIn (l : List (Int × Int)) (p : Int × Int) : Int := firstI (fun i => inB l p (tAt (cutT l) i)) (cutT l).length

theorem find_in {l : List (Int × Int)} (hs : Simple l) (p : Int × Int) : findI l p = firstIn l p := by
  unfold findI firstIn
  refine firstI_congr fun i hi => ?_
  have pos := (cutT_good hs).cut.pos _ (pts_mem (l := l) hi)
  unfold holdI
  rw [Bool.eq_iff_iff, bne_iff_ne, inB_iff]
  have := tri_place pos p
  exact ⟨fun g => Classical.byContradiction fun q => g (this.2 q), fun g q => this.1 q g⟩

theorem out_first {l : List (Int × Int)} (hs : Simple l) (p : Int × Int) : (placeI l p).1 = 0 ↔ firstIn l p = -1 := by
  rw [cut_out hs (cutT_good hs).cut p]
  unfold firstIn
  constructor
  · intro h
    refine firstI_none fun j hj => ?_
    cases q : inB l p (tAt (cutT l) j) with
    | false => rfl
    | true => exact absurd ((inB_iff _ _ _).1 q) (h _ (pts_mem hj))
  · intro h t ht hi
    rcases firstI_cases (fun i => inB l p (tAt (cutT l) i)) (cutT l).length with ⟨_, h2⟩ | ⟨k, _, h1, _⟩
    · obtain ⟨t0, ht0, rfl⟩ := List.mem_map.1 ht
      obtain ⟨i, hi2, e⟩ := List.getElem_of_mem ht0
      have e2 : tAt (cutT l) i = t0 := by unfold tAt; simp [List.getD_eq_getElem?_getD, List.getElem?_eq_getElem hi2, e]
      have := h2 i hi2
      rw [e2, (inB_iff _ _ _).2 hi] at this
      cases this
    · omega

/-- In how many of the first k triangles the point lies strictly. -/
def cntI (l : List (Int × Int)) (p : Int × Int) (k : Nat) : Int := sumI (fun i => if stB l p (tAt (cutT l) i) then 1 else 0) k

theorem two_at {T : List (Nat × Nat × Nat)} {l : List (Int × Int)} {i j : Nat} (hij : i < j) (hj : j < T.length) : ∃ l1 l2 l3, T.map (pts l) = l1 ++ pts l (tAt T i) :: (l2 ++ pts l (tAt T j) :: l3) := by
  have ei : tAt T i = T[i] := by unfold tAt; simp [List.getD_eq_getElem?_getD, List.getElem?_eq_getElem (show i < T.length by omega)]
  have ej : tAt T j = T[j] := by unfold tAt; simp [List.getD_eq_getElem?_getD, List.getElem?_eq_getElem hj]
  have e1 : T = T.take i ++ T[i] :: T.drop (i + 1) := by
    conv => lhs; rw [← List.take_append_drop i T, List.drop_eq_getElem_cons (show i < T.length by omega)]
  have e2 : T.drop (i + 1) = (T.drop (i + 1)).take (j - i - 1) ++ T[j] :: T.drop (j + 1) := by
    have := (List.take_append_drop (j - i - 1) (T.drop (i + 1))).symm
    rw [List.drop_drop, show i + 1 + (j - i - 1) = j by omega, List.drop_eq_getElem_cons hj] at this
    exact this
  rw [ei, ej]
  refine ⟨(T.take i).map (pts l), ((T.drop (i + 1)).take (j - i - 1)).map (pts l), (T.drop (j + 1)).map (pts l), ?_⟩
  conv => lhs; rw [e1, e2]
  rw [List.map_append, List.map_cons, List.map_append, List.map_cons]

theorem cnt_plain {l : List (Int × Int)} (hs : Simple l) (p : Int × Int) : ∀ k, k ≤ (cutT l).length → (cntI l p k = 0 ∧ ∀ i, i < k → stB l p (tAt (cutT l) i) = false) ∨ (cntI l p k = 1 ∧ ∃ i, i < k ∧ stB l p (tAt (cutT l) i) = true)
  | 0, _ => .inl ⟨rfl, fun i hi => by omega⟩
  | k + 1, hk => by
    have kc := ccw_all hs
    have step : cntI l p (k + 1) = cntI l p k + if stB l p (tAt (cutT l) k) then 1 else 0 := rfl
    rcases cnt_plain hs p k (by omega) with ⟨h1, h2⟩ | ⟨h1, i, hi, h2⟩
    · cases q : stB l p (tAt (cutT l) k) with
      | false =>
        left
        rw [step, h1, q]
        refine ⟨rfl, fun i hi => ?_⟩
        by_cases e : i = k
        · rw [e]; exact q
        · exact h2 i (by omega)
      | true =>
        right
        rw [step, h1, q]
        exact ⟨rfl, k, by omega, q⟩
    · right
      have : stB l p (tAt (cutT l) k) = false := by
        cases q : stB l p (tAt (cutT l) k) with
        | false => rfl
        | true =>
          obtain ⟨l1, l2, l3, e⟩ := two_at (T := cutT l) (l := l) hi (by omega)
          exact ((cutT_good hs).cut.strict_one kc.simple kc.rho e ((stB_iff _ _ _).1 h2) ((stB_iff _ _ _).1 q)).elim
      rw [step, h1, this]
      exact ⟨rfl, i, by omega, h2⟩

theorem cnt_end {l : List (Int × Int)} (hs : Simple l) (p : Int × Int) : (cntI l p (cutT l).length = 0 ∨ cntI l p (cutT l).length = 1) ∧ (cntI l p (cutT l).length ≠ 0 → (placeI l p).1 = 1) := by
  rcases cnt_plain hs p _ (Nat.le_refl _) with ⟨h1, h2⟩ | ⟨h1, i, hi, h2⟩
  · exact ⟨.inl h1, fun g => absurd h1 g⟩
  · exact ⟨.inr h1, fun _ => cut_in hs (cutT_good hs).cut (pts_mem hi) ((stB_iff _ _ _).1 h2)⟩

end Go.Proofs.Ytlicmfhgjonmnaa
