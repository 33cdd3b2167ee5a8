/- Every chain has a corner whose triangle is empty; every polygon of four corners or more has one. Own work. (And what follows from it: Gn, Gp, Gq, Gr, Gs, Gt, Gu, Gv, Gw, Gx.) -/
import Derived.Test.YtlicmfhgjonmnaaGm
namespace Go.Proofs.Ytlicmfhgjonmnaa

section
set_option linter.unusedVariables false

theorem snoc_of_ne {l : List (Int × Int)} (h : l ≠ []) : ∃ a b, l = a ++ [b] := ⟨l.dropLast, l.getLast h, (List.dropLast_concat_getLast h).symm⟩

/-- The chain's first corner lies furthest to the right. -/
theorem ear_first {n : Nat} (ih : ∀ q0 c qk o, c.length ≤ n → Chain q0 c qk o → EarIn (q0 :: c ++ [qk]) o) {q0 qk w : Int × Int} {r o : List (Int × Int)} (h : Chain q0 (w :: r) qk o) (hr : r ≠ []) (hl : (w :: r).length ≤ n + 1)
    (far : ∀ x ∈ w :: r ++ [qk], LexLe x q0) : EarIn (q0 :: (w :: r) ++ [qk]) o := by
  by_cases free : ∀ x ∈ r, ¬ Tri qk q0 w x
  · obtain ⟨l, u, x, w', m, e, hD, hf⟩ := ih w r qk (o ++ [q0]) (by simp at hl; omega) (h.shorter hr far free)
    refine ⟨q0 :: l, u, x, w', m, ?_, hD, fun y hy => hf y ?_⟩
    · have : q0 :: (w :: r) ++ [qk] = q0 :: (w :: r ++ [qk]) := rfl
      rw [this, e]; rfl
    · simp only [List.cons_append, List.mem_cons, List.mem_append, List.not_mem_nil, or_false] at hy ⊢
      rcases hy with g | (g | g) | g
      · exact .inr (.inr g)
      · exact .inl (.inl g)
      · exact .inl (.inr g)
      · exact .inr (.inl g)
  · have he : ∃ x ∈ r, Tri qk q0 w x := by
      apply Classical.byContradiction
      intro g
      exact free fun x hx hT => g ⟨x, hx, hT⟩
    obtain ⟨z, hz, -, cl, rd⟩ := peak_any (u := qk) (v := q0) (w := w) (r := r) h.poly far he
    have dg := h.diag (v := q0) (z := z) (by simp) (by simp [hz]) cl rd
    obtain ⟨r1, r2, rfl⟩ := List.append_of_mem hz
    have eP : q0 :: (w :: (r1 ++ z :: r2)) ++ qk :: o = q0 :: (w :: r1) ++ z :: (r2 ++ qk :: o) := by simp
    have ch : Chain q0 (w :: r1) z (r2 ++ qk :: o) := by
      refine ⟨by rw [← eP]; exact h.simple, by simp, fun e he => ?_, ?_⟩
      · rw [← eP] at he; exact (dg e he).rev1
      · obtain ⟨s, hs, hf⟩ := h.far
        refine ⟨s, by simp [hs], fun x hx => hf x ?_⟩
        simp only [List.cons_append, List.mem_cons, List.mem_append, List.not_mem_nil, or_false] at hx ⊢
        rcases hx with g | g | g | g
        · exact .inl g
        · exact .inr (.inl g)
        · exact .inr (.inr (.inl (.inl g)))
        · exact .inr (.inr (.inl (.inr (.inl g))))
    obtain ⟨l, u, x, w', m, e, hD, hf⟩ := ih q0 (w :: r1) z (r2 ++ qk :: o) (by simp at hl ⊢; omega) ch
    refine ⟨l, u, x, w', m ++ r2 ++ [qk], ?_, hD, fun y hy => hf y ?_⟩
    · have : q0 :: (w :: (r1 ++ z :: r2)) ++ [qk] = (q0 :: (w :: r1) ++ [z]) ++ (r2 ++ [qk]) := by simp
      rw [this, e]; simp
    · simp only [List.mem_append, List.mem_cons, List.not_mem_nil, or_false] at hy ⊢
      rcases hy with (g | (g | g) | g) | g
      · exact .inl (.inl g)
      · exact .inl (.inr g)
      · exact .inr (.inl g)
      · exact .inr (.inr (.inl g))
      · exact .inr (.inr (.inr g))

/-- A corner within the chain lies furthest to the right. -/
theorem ear_middle {n : Nat} (ih : ∀ q0 c qk o, c.length ≤ n → Chain q0 c qk o → EarIn (q0 :: c ++ [qk]) o) {q0 qk u v w : Int × Int} {c o a1 b1 : List (Int × Int)} (h : Chain q0 c qk o) (hl : c.length ≤ n + 1)
    (eQ : q0 :: c ++ [qk] = a1 ++ u :: v :: w :: b1) (hab : b1 ++ a1 ≠ []) (far : ∀ x ∈ q0 :: c ++ [qk], LexLe x v) : EarIn (q0 :: c ++ [qk]) o := by
  have e1 : q0 :: c ++ [qk] = (a1 ++ [u]) ++ (v :: w :: b1) := by rw [eQ]; simp
  have e2 : v :: w :: (b1 ++ a1) ++ [u] = (v :: w :: b1) ++ (a1 ++ [u]) := by simp
  have hsR : Simple (v :: w :: (b1 ++ a1) ++ [u]) := by rw [e2]; have := h.poly; rw [e1] at this; exact this.rot
  have farR : ∀ x ∈ w :: (b1 ++ a1) ++ [u], LexLe x v := by
    intro x hx
    refine far x ?_
    rw [eQ]
    simp only [List.cons_append, List.mem_cons, List.mem_append, List.not_mem_nil, or_false] at hx ⊢
    rcases hx with g | (g | g) | g
    · exact .inr (.inr (.inr (.inl g)))
    · exact .inr (.inr (.inr (.inr g)))
    · exact .inl g
    · exact .inr (.inl g)
  have hlen : c.length + 2 = a1.length + b1.length + 3 := by
    have := congrArg List.length eQ
    simp at this; omega
  by_cases free : ∀ x ∈ b1 ++ a1, ¬ Tri u v w x
  · refine ⟨a1, u, v, w, b1, eQ, tip_turn hsR farR, fun y hy => ?_⟩
    simp only [List.mem_append] at hy
    rcases hy with (g | g) | g
    · exact free y (by simp [g])
    · exact free y (by simp [g])
    · exact h.tip_out e1 e2 hab free farR y g
  · have he : ∃ x ∈ b1 ++ a1, Tri u v w x := by
      apply Classical.byContradiction
      intro g
      exact free fun x hx hT => g ⟨x, hx, hT⟩
    obtain ⟨z, hz, -, cl, rd⟩ := peak_any hsR farR he
    have clQ : ∀ e ∈ edges (q0 :: c ++ [qk]), Clean v z e.1 e.2 := by
      intro e he
      refine cl e ?_
      rw [e2]; rw [e1] at he
      exact (edges_rot _ _).mem_iff.1 he
    have rdQ : ∀ K : Int, 0 < K → ∀ x, onI (sc K v) (sc K z) x = true → x ≠ sc K v → x ≠ sc K z → wc x ((q0 :: c ++ [qk]).map (sc K)) ≠ 0 := by
      intro K hK x k1 k2 k3
      have := rd K hK x k1 k2 k3
      rw [e2, List.map_append, wc_rot, ← List.map_append, ← e1] at this
      exact this
    have hvQ : v ∈ q0 :: c ++ [qk] := by rw [eQ]; simp
    have hzQ : z ∈ q0 :: c ++ [qk] := by
      rw [eQ]
      rcases List.mem_append.1 hz with g | g
      · simp [g]
      · simp [g]
    have dg := h.diag hvQ hzQ clQ rdQ
    have eP0 : q0 :: c ++ qk :: o = (q0 :: c ++ [qk]) ++ o := by simp
    obtain ⟨s, hs, hf⟩ := h.far
    rcases List.mem_append.1 hz with hb | ha
    · obtain ⟨b2, b3, rfl⟩ := List.append_of_mem hb
      have eP : q0 :: c ++ qk :: o = (a1 ++ [u]) ++ (v :: (w :: b2) ++ z :: (b3 ++ o)) := by rw [eP0, eQ]; simp
      have eR : v :: (w :: b2) ++ z :: (b3 ++ o ++ a1 ++ [u]) = (v :: (w :: b2) ++ z :: (b3 ++ o)) ++ (a1 ++ [u]) := by simp
      have ch : Chain v (w :: b2) z (b3 ++ o ++ a1 ++ [u]) := by
        refine ⟨?_, by simp, fun e he => ?_, ⟨s, by simp [hs], fun x hx => hf x ?_⟩⟩
        · rw [eR]; have := h.simple; rw [eP] at this; exact this.rot
        · refine (dg e ?_).rev1
          rw [eP]; rw [eR] at he
          exact (edges_rot _ _).mem_iff.2 he
        · rw [eQ]
          simp only [List.cons_append, List.mem_cons, List.mem_append, List.not_mem_nil, or_false] at hx ⊢
          rcases hx with g | g | g | g
          · exact .inr (.inr (.inl g))
          · exact .inr (.inr (.inr (.inl g)))
          · exact .inr (.inr (.inr (.inr (.inl g))))
          · exact .inr (.inr (.inr (.inr (.inr (.inl g)))))
      obtain ⟨l, u', x, w', m, e, hD, hf'⟩ := ih v (w :: b2) z _ (by simp at hlen ⊢; omega) ch
      refine ⟨a1 ++ [u] ++ l, u', x, w', m ++ b3, ?_, hD, fun y hy => hf' y ?_⟩
      · have : q0 :: c ++ [qk] = (a1 ++ [u]) ++ (v :: (w :: b2) ++ [z]) ++ b3 := by rw [eQ]; simp
        rw [this, e]; simp
      · simp only [List.mem_append, List.mem_cons, List.not_mem_nil, or_false] at hy ⊢
        rcases hy with (((g | g) | g) | g | g) | g
        · exact .inr (.inl (.inr g))
        · exact .inr (.inr g)
        · exact .inl (.inl g)
        · exact .inl (.inr g)
        · exact .inr (.inl (.inl (.inl g)))
        · exact .inr (.inl (.inl (.inr g)))
    · obtain ⟨a2, a3, rfl⟩ := List.append_of_mem ha
      have eP : q0 :: c ++ qk :: o = a2 ++ (z :: (a3 ++ [u]) ++ v :: (w :: b1 ++ o)) := by rw [eP0, eQ]; simp
      have eR : z :: (a3 ++ [u]) ++ v :: (w :: b1 ++ o ++ a2) = (z :: (a3 ++ [u]) ++ v :: (w :: b1 ++ o)) ++ a2 := by simp
      have ch : Chain z (a3 ++ [u]) v (w :: b1 ++ o ++ a2) := by
        refine ⟨?_, by simp, fun e he => ?_, ⟨s, by simp [hs], fun x hx => hf x ?_⟩⟩
        · rw [eR]; have := h.simple; rw [eP] at this; exact this.rot
        · refine dg e ?_
          rw [eP]; rw [eR] at he
          exact (edges_rot _ _).mem_iff.2 he
        · rw [eQ]
          simp only [List.cons_append, List.mem_cons, List.mem_append, List.not_mem_nil, or_false] at hx ⊢
          rcases hx with g | (g | g) | g
          · exact .inl (.inr (.inl g))
          · exact .inl (.inr (.inr g))
          · exact .inr (.inl g)
          · exact .inr (.inr (.inl g))
      obtain ⟨l, u', x, w', m, e, hD, hf'⟩ := ih z (a3 ++ [u]) v _ (by simp at hlen ⊢; omega) ch
      refine ⟨a2 ++ l, u', x, w', m ++ w :: b1, ?_, hD, fun y hy => hf' y ?_⟩
      · have : q0 :: c ++ [qk] = a2 ++ (z :: (a3 ++ [u]) ++ [v]) ++ (w :: b1) := by rw [eQ]; simp
        rw [this, e]; simp
      · simp only [List.cons_append, List.mem_append, List.mem_cons] at hy ⊢
        rcases hy with ((g | g) | g | g | g) | g
        · exact .inr (.inr (.inr g))
        · exact .inl (.inl g)
        · exact .inl (.inr g)
        · exact .inr (.inl g)
        · exact .inr (.inr (.inl (.inl g)))
        · exact .inr (.inr (.inl (.inr g)))

/-- In every chain there is a corner whose triangle holds no other corner. -/
theorem ear_in : ∀ (n : Nat) (q0 : Int × Int) (c : List (Int × Int)) (qk : Int × Int) (o : List (Int × Int)), c.length ≤ n → Chain q0 c qk o → EarIn (q0 :: c ++ [qk]) o
  | 0, q0, c, qk, o, hl, h => by
    have := h.some
    cases c with
    | nil => exact absurd rfl this
    | cons a t => simp at hl
  | n + 1, q0, c, qk, o, hl, h => by
    have ih := ear_in n
    match c, hl, h with
    | [], hl, h => exact absurd rfl h.some
    | [x], hl, h => exact ear_three h
    | w :: w2 :: r, hl, h =>
      obtain ⟨v, hv, hmax⟩ := exists_max (q0 :: (w :: w2 :: r) ++ [qk]) (by simp)
      have hv' : v = q0 ∨ v ∈ w :: w2 :: r ∨ v = qk := by
        simp only [List.cons_append, List.mem_cons, List.mem_append, List.not_mem_nil, or_false] at hv ⊢
        rcases hv with g | g | g | g | g
        · exact .inl g
        · exact .inr (.inl (.inl g))
        · exact .inr (.inl (.inr (.inl g)))
        · exact .inr (.inl (.inr (.inr g)))
        · exact .inr (.inr g)
      rcases hv' with g | g | g
      · subst g
        exact ear_first ih h (by simp) hl (fun x hx => hmax x (by simp only [List.cons_append, List.mem_cons] at hx ⊢; exact .inr hx))
      · obtain ⟨c1, c2, ec⟩ := List.append_of_mem g
        obtain ⟨a1, u, ea⟩ := snoc_of_ne (show q0 :: c1 ≠ [] by simp)
        cases eb : c2 ++ [qk] with
        | nil => simp at eb
        | cons w' b1 =>
          have eQ : q0 :: (w :: w2 :: r) ++ [qk] = a1 ++ u :: v :: w' :: b1 := by
            have : q0 :: (w :: w2 :: r) ++ [qk] = (q0 :: c1) ++ (v :: (c2 ++ [qk])) := by rw [ec]; simp
            rw [this, ea, eb]; simp
          refine ear_middle ih h hl eQ ?_ hmax
          intro e0
          have := congrArg List.length eQ
          have l0 := congrArg List.length e0
          simp only [List.length_append, List.length_cons, List.length_nil] at this l0
          omega
      · subst g
        refine EarIn.flip ?_
        have hf := h.flip
        have er : (q0 :: (w :: w2 :: r) ++ [v]).reverse = v :: (w :: w2 :: r).reverse ++ [q0] := by simp
        rw [er]
        cases ew : (w :: w2 :: r).reverse with
        | nil => simp at ew
        | cons a t =>
          rw [ew] at hf
          have lt := congrArg List.length ew
          simp at lt hl
          refine ear_first ih hf ?_ (by simp; omega) ?_
          · intro e; rw [e] at lt; simp at lt
          · intro x hx
            refine hmax x ?_
            have : x ∈ (q0 :: (w :: w2 :: r) ++ [v]).reverse := by
              rw [er, ew]
              simp only [List.cons_append, List.mem_cons] at hx ⊢
              exact .inr hx
            exact List.mem_reverse.1 this
end

section
set_option linter.unusedVariables false

def ng (p : Int × Int) : Int × Int := (-p.1, -p.2)
theorem ng_ng (p : Int × Int) : ng (ng p) = p := by unfold ng; simp
theorem ng_ne {p q : Int × Int} (h : p ≠ q) : ng p ≠ ng q := fun e => h (by rw [← ng_ng p, ← ng_ng q, e])
theorem tI_ng (a b c : Int × Int) : tI (ng a) (ng b) (ng c) = tI a b c := by unfold tI ng; grind
theorem onI_ng (a b p : Int × Int) : onI (ng a) (ng b) (ng p) = onI a b p := by
  rw [Bool.eq_iff_iff, onI_iff, onI_iff, tI_ng]
  have e : ((ng a).1 - (ng p).1) * ((ng b).1 - (ng p).1) = (a.1 - p.1) * (b.1 - p.1) := by unfold ng; grind
  have e' : ((ng a).2 - (ng p).2) * ((ng b).2 - (ng p).2) = (a.2 - p.2) * (b.2 - p.2) := by unfold ng; grind
  rw [e, e']
theorem Clean.ng {a b c d : Int × Int} (h : Clean a b c d) : Clean (ng a) (ng b) (ng c) (ng d) := by
  refine ⟨fun h1 h2 => ?_, fun h1 h2 => ?_, fun h1 h2 => ?_, fun h1 h2 => ?_, ?_⟩
  · rw [onI_ng]; exact h.oc (fun e => h1 (by rw [e])) (fun e => h2 (by rw [e]))
  · rw [onI_ng]; exact h.od (fun e => h1 (by rw [e])) (fun e => h2 (by rw [e]))
  · rw [onI_ng]; exact h.oa (fun e => h1 (by rw [e])) (fun e => h2 (by rw [e]))
  · rw [onI_ng]; exact h.ob (fun e => h1 (by rw [e])) (fun e => h2 (by rw [e]))
  · rw [tI_ng, tI_ng, tI_ng, tI_ng]; exact h.ox
theorem Simple.ng {l : List (Int × Int)} (h : Simple l) : Simple (l.map ng) := by
  refine ⟨?_, by simpa using h.three, ?_⟩
  · refine List.Pairwise.map _ ?_ h.nodup
    intro a b hab
    exact ng_ne hab
  · rw [edges_map]
    intro e he f hf hef
    obtain ⟨e', he', rfl⟩ := List.mem_map.1 he
    obtain ⟨f', hf', rfl⟩ := List.mem_map.1 hf
    exact (h.clean e' he' f' hf' (fun q => hef (by rw [q]))).ng
theorem LexLe.ng {a b : Int × Int} (h : LexLe a b) : LexLe (ng b) (ng a) := by
  unfold LexLe Go.Proofs.Ytlicmfhgjonmnaa.ng at *
  simp only
  omega
theorem Tri_ng {u v w x : Int × Int} : Tri (ng u) (ng v) (ng w) (ng x) ↔ Tri u v w x := by
  unfold Tri InT
  simp only [tI_ng]

/-- A corner whose triangle holds no other corner. -/
def Ear (P : List (Int × Int)) : Prop := ∃ u v w r, r ≠ [] ∧ (∃ l m, P = l ++ m ∧ v :: w :: r ++ [u] = m ++ l) ∧ tI u v w ≠ 0 ∧ ∀ x ∈ r, ¬ Tri u v w x

theorem Ear.rot {l m : List (Int × Int)} (h : Ear (l ++ m)) : Ear (m ++ l) := by
  obtain ⟨u, v, w, r, hr, ⟨l', m', e1, e2⟩, hD, hf⟩ := h
  refine ⟨u, v, w, r, hr, ?_, hD, hf⟩
  rcases List.append_eq_append_iff.1 e1 with ⟨a, g1, g2⟩ | ⟨a, g1, g2⟩
  · subst g1 g2
    exact ⟨a, m' ++ l, by simp, by rw [e2]; simp⟩
  · subst g1 g2
    exact ⟨m ++ l', a, by simp, by rw [e2]; simp⟩

theorem EarIn.ear {Q o : List (Int × Int)} (h : EarIn Q o) (ho : o ≠ []) : Ear (Q ++ o) := by
  obtain ⟨l, u, x, w, m, e, hD, hf⟩ := h
  refine ⟨u, x, w, m ++ o ++ l, by simp [ho], ⟨l ++ [u], x :: w :: m ++ o, by rw [e]; simp, by simp⟩, hD, fun y hy => hf y ?_⟩
  simp only [List.mem_append] at hy ⊢
  rcases hy with (g | g) | g
  · exact .inl (.inr g)
  · exact .inr g
  · exact .inl (.inl g)

theorem LexLe.trans {a b c : Int × Int} (h1 : LexLe a b) (h2 : LexLe b c) : LexLe a c := by unfold LexLe at *; omega
theorem LexLe.eq {a b : Int × Int} (h1 : LexLe a b) (h2 : LexLe b a) : a = b := by
  have : a.1 = b.1 ∧ a.2 = b.2 := by unfold LexLe at *; omega
  exact Prod.ext this.1 this.2

/-- What lies in a triangle and beyond all of its corners is one of them. -/
theorem tri_end {u v w z : Int × Int} (hD : tI u v w ≠ 0) (hT : Tri u v w z) (hu : LexLe u z) (hv : LexLe v z) (hw : LexLe w z) : z = u ∨ z = v ∨ z = w := by
  have main : ∀ {u v w : Int × Int}, 0 < tI u v w → InT u v w z → LexLe u z → LexLe v z → LexLe w z → z = u ∨ z = v ∨ z = w := by
    intro u v w hd hi hu hv hw
    have dv : tI v w u = tI u v w := (tI_cyc u v w).symm
    have dw : tI w u v = tI u v w := tI_cyc w u v
    have w0 : wt z u v w = 0 := by
      unfold wt
      rw [cr_far hu hv, cr_far hv hw, cr_far hw hu]; rfl
    rcases Int.lt_or_eq_of_le hi.1 with g1 | g1
    · rcases Int.lt_or_eq_of_le hi.2.1 with g2 | g2
      · rcases Int.lt_or_eq_of_le hi.2.2 with g3 | g3
        · have := wt_in hd g1 g2 g3; omega
        · rcases far_between hu hw (hi.cyc.cyc.on_uv (by omega) g3.symm) with q | q
          · exact .inl q
          · exact .inr (.inr q)
      · rcases far_between hw hv (hi.cyc.on_uv (by omega) g2.symm) with q | q
        · exact .inr (.inr q)
        · exact .inr (.inl q)
    · rcases far_between hv hu (hi.on_uv hd g1.symm) with q | q
      · exact .inr (.inl q)
      · exact .inl q
  have dr : tI w v u = - tI u v w := by unfold tI; grind
  rcases Int.lt_or_gt_of_ne hD with k | k
  · have hi : InT w v u z := hT.elim (fun h => absurd h (InT_neg k)) id
    rcases main (by omega) hi hw hv hu with q | q | q
    · exact .inr (.inr q)
    · exact .inr (.inl q)
    · exact .inl q
  · exact main k (hT.elim id (fun h => absurd h (InT_neg (by omega)))) hu hv hw

/-- Every polygon of four corners or more has a corner whose triangle holds no other corner. -/
theorem ear_any {P : List (Int × Int)} (hP : Simple P) (h4 : 4 ≤ P.length) : Ear P := by
  obtain ⟨v', hv', top⟩ := exists_max (P.map ng) (by intro e; have := congrArg List.length e; simp at this; subst this; simp at h4)
  obtain ⟨v, hv, rfl⟩ := List.mem_map.1 hv'
  obtain ⟨l, m, e⟩ := List.append_of_mem hv
  have eR : ∃ w r u, (v :: m) ++ l = v :: w :: r ++ [u] ∧ r ≠ [] := by
    have hlen : 4 ≤ ((v :: m) ++ l).length := by rw [e] at h4; simp at h4 ⊢; omega
    match hm : m ++ l with
    | [] => simp [hm] at hlen
    | [a] => simp [hm] at hlen
    | [a, b] => simp [hm] at hlen
    | a :: b :: c :: t =>
      obtain ⟨t', u, e'⟩ := snoc_of_ne (show b :: c :: t ≠ [] by simp)
      refine ⟨a, t', u, ?_, ?_⟩
      · show v :: (m ++ l) = _
        rw [hm, e']; rfl
      · intro q; rw [q] at e'; simp at e'
  obtain ⟨w, r, u, eR, hr⟩ := eR
  have hs : Simple (v :: w :: r ++ [u]) := by rw [← eR]; rw [e] at hP; exact hP.rot
  have back : Ear (v :: w :: r ++ [u]) → Ear P := by
    intro h
    rw [← eR] at h
    rw [e]; exact h.rot
  apply back
  have low : ∀ x ∈ v :: w :: r ++ [u], LexLe v x := by
    intro x hx
    have : x ∈ P := by
      rw [← eR] at hx; rw [e]
      simp only [List.mem_append] at hx ⊢
      exact hx.symm
    have := (top (ng x) (List.mem_map.2 ⟨x, this, rfl⟩)).ng
    rwa [ng_ng, ng_ng] at this
  have hsn : Simple (ng v :: ng w :: (r.map ng) ++ [ng u]) := by have := hs.ng; simpa using this
  have farn : ∀ x ∈ ng w :: (r.map ng) ++ [ng u], LexLe x (ng v) := by
    intro x hx
    have : ∃ y ∈ v :: w :: r ++ [u], ng y = x := by
      have : x ∈ (w :: r ++ [u]).map ng := by simpa using hx
      obtain ⟨y, hy, rfl⟩ := List.mem_map.1 this
      exact ⟨y, by simp only [List.cons_append, List.mem_cons] at hy ⊢; exact .inr hy, rfl⟩
    obtain ⟨y, hy, rfl⟩ := this
    exact (low y hy).ng
  have hD : tI u v w ≠ 0 := by have := tip_turn hsn farn; rwa [tI_ng] at this
  by_cases free : ∀ x ∈ r, ¬ Tri u v w x
  · exact ⟨u, v, w, r, hr, ⟨[], v :: w :: r ++ [u], by simp, by simp⟩, hD, free⟩
  · have he : ∃ x ∈ r.map ng, Tri (ng u) (ng v) (ng w) x := by
      apply Classical.byContradiction
      intro g
      exact free fun x hx hT => g ⟨ng x, List.mem_map.2 ⟨x, hx, rfl⟩, Tri_ng.2 hT⟩
    obtain ⟨z', hz', tz', cl', -⟩ := peak_any hsn farn he
    obtain ⟨z, hz, rfl⟩ := List.mem_map.1 hz'
    have tz : Tri u v w z := Tri_ng.1 tz'
    have cl : ∀ e ∈ edges (v :: w :: r ++ [u]), Clean v z e.1 e.2 := by
      intro e he
      have he' : (ng e.1, ng e.2) ∈ edges (ng v :: ng w :: (r.map ng) ++ [ng u]) := by
        have : ng v :: ng w :: (r.map ng) ++ [ng u] = (v :: w :: r ++ [u]).map ng := by simp
        rw [this, edges_map]
        exact List.mem_map.2 ⟨e, he, rfl⟩
      have := (cl' _ he').ng
      simpa only [ng_ng] using this
    obtain ⟨s, hs1, max⟩ := exists_max (v :: w :: r ++ [u]) (by simp)
    obtain ⟨r1, r2, rfl⟩ := List.append_of_mem hz
    have nd := hs.nodup
    have zv : z ≠ v := by
      intro q; subst q
      simp at nd
    have zw : z ≠ w := by
      intro q; subst q
      simp at nd
    have zu : z ≠ u := by
      intro q; subst q
      simp [List.nodup_append] at nd
    have sz : s ≠ z := by
      intro q; subst q
      rcases tri_end hD tz (max u (by simp)) (max v (by simp)) (max w (by simp)) with q | q | q
      · exact zu q
      · exact zv q
      · exact zw q
    have sv : s ≠ v := by
      intro q; subst q
      exact zv (LexLe.eq (max z (by simp)) (low z (by simp)))
    have eP1 : v :: w :: (r1 ++ z :: r2) ++ [u] = v :: (w :: r1) ++ z :: (r2 ++ [u]) := by simp
    have eP2 : z :: (r2 ++ [u]) ++ v :: (w :: r1) = (z :: (r2 ++ [u])) ++ (v :: w :: r1) := by simp
    have eP3 : v :: w :: (r1 ++ z :: r2) ++ [u] = (v :: w :: r1) ++ (z :: (r2 ++ [u])) := by simp
    by_cases side : s ∈ w :: r1
    · have ch : Chain z (r2 ++ [u]) v (w :: r1) := by
        refine ⟨?_, by simp, fun e he => ?_, ⟨s, side, fun x hx => max x ?_⟩⟩
        · rw [eP2]; rw [eP3] at hs; exact hs.rot
        · refine cl e ?_
          rw [eP2] at he; rw [eP3]
          exact (edges_rot _ _).mem_iff.2 he
        · rw [eP3]
          simp only [List.cons_append, List.mem_cons, List.mem_append, List.not_mem_nil, or_false] at hx ⊢
          rcases hx with g | (g | g) | g
          · exact .inr (.inr (.inr (.inl g)))
          · exact .inr (.inr (.inr (.inr (.inl g))))
          · exact .inr (.inr (.inr (.inr (.inr g))))
          · exact .inl g
      have := (ear_in _ _ _ _ _ (Nat.le_refl _) ch).ear (by simp)
      have e5 : z :: (r2 ++ [u]) ++ [v] ++ (w :: r1) = (z :: (r2 ++ [u])) ++ (v :: w :: r1) := by simp
      rw [e5] at this
      rw [eP3]
      exact this.rot
    · have side2 : s ∈ r2 ++ [u] := by
        rw [eP3] at hs1
        simp only [List.cons_append, List.mem_cons, List.mem_append, List.not_mem_nil, or_false] at hs1 side ⊢
        rcases hs1 with g | g | g | g | g
        · exact absurd g sv
        · exact absurd (.inl g) side
        · exact absurd (.inr g) side
        · exact absurd g sz
        · exact g
      have ch : Chain v (w :: r1) z (r2 ++ [u]) := by
        refine ⟨by rw [← eP1]; exact hs, by simp, fun e he => ?_, ⟨s, side2, fun x hx => max x ?_⟩⟩
        · rw [← eP1] at he
          exact (cl e he).rev1
        · rw [eP3]
          simp only [List.cons_append, List.mem_cons, List.mem_append, List.not_mem_nil, or_false] at hx ⊢
          rcases hx with g | g | g | g
          · exact .inl g
          · exact .inr (.inl g)
          · exact .inr (.inr (.inl g))
          · exact .inr (.inr (.inr (.inl g)))
      have := (ear_in _ _ _ _ _ (Nat.le_refl _) ch).ear (by simp)
      have e5 : v :: (w :: r1) ++ [z] ++ (r2 ++ [u]) = v :: w :: (r1 ++ z :: r2) ++ [u] := by simp
      rwa [e5] at this
end

section
set_option linter.unusedVariables false

def ad (p d : Int × Int) : Int × Int := (p.1 + d.1, p.2 + d.2)

theorem on_bounds {p q x : Int × Int} (h : onI p q x = true) : ((p.1 ≤ x.1 ∧ x.1 ≤ q.1) ∨ (q.1 ≤ x.1 ∧ x.1 ≤ p.1)) ∧ ((p.2 ≤ x.2 ∧ x.2 ≤ q.2) ∨ (q.2 ≤ x.2 ∧ x.2 ≤ p.2)) := by
  obtain ⟨_, h2, h3⟩ := (onI_iff _ _ _).1 h
  exact ⟨betw h2, betw h3⟩

theorem sc_lt {K a b : Int} (hK : 0 < K) (h : a < b) : K * a < K * b := Int.mul_lt_mul_of_pos_left h hK

/-- What lies apart in one of the two directions has nothing in common. -/
theorem off_sep {p q a b : Int × Int} (h : (p.1 < a.1 ∧ p.1 < b.1 ∧ q.1 < a.1 ∧ q.1 < b.1) ∨ (a.1 < p.1 ∧ b.1 < p.1 ∧ a.1 < q.1 ∧ b.1 < q.1) ∨
    (p.2 < a.2 ∧ p.2 < b.2 ∧ q.2 < a.2 ∧ q.2 < b.2) ∨ (a.2 < p.2 ∧ b.2 < p.2 ∧ a.2 < q.2 ∧ b.2 < q.2)) : Off p q a b := by
  apply Classical.byContradiction
  intro no
  obtain ⟨K, hK, x, x1, x2⟩ := meet_point no
  have b1 := on_bounds x1
  have b2 := on_bounds x2
  simp only [sc] at b1 b2
  rcases h with ⟨h1, h2, h3, h4⟩ | ⟨h1, h2, h3, h4⟩ | ⟨h1, h2, h3, h4⟩ | ⟨h1, h2, h3, h4⟩
  all_goals
    have := sc_lt hK h1
    have := sc_lt hK h2
    have := sc_lt hK h3
    have := sc_lt hK h4
    omega

def cx (a b d : Int × Int) : Int := (b.1 - a.1) * d.2 - (b.2 - a.2) * d.1

theorem tI_ad (K : Int) (a b x d : Int × Int) : tI (sc K a) (sc K b) (ad (sc K x) d) = K * (K * tI a b x + cx a b d) := by unfold tI sc ad cx; grind

theorem near_side {a b x : Int × Int} (d : Int × Int) (h : 0 < tI a b x) : ∃ K0 : Int, 0 < K0 ∧ ∀ K, K0 ≤ K → 0 < tI (sc K a) (sc K b) (ad (sc K x) d) := by
  refine ⟨(cx a b d).natAbs + 1, by omega, fun K hK => ?_⟩
  rw [tI_ad]
  have hK0 : 0 < K := by omega
  refine Int.mul_pos hK0 ?_
  have : K * 1 ≤ K * tI a b x := Int.mul_le_mul_of_nonneg_left (by omega) (by omega)
  omega

theorem mul_ge {K t : Int} (hK : 0 < K) (ht : 0 < t) : K ≤ K * t := by
  have : K * 1 ≤ K * t := Int.mul_le_mul_of_nonneg_left (by omega) (by omega)
  omega

theorem near_off {a b x : Int × Int} (h : onI a b x = false) (d d' : Int × Int) : ∃ K0 : Int, 0 < K0 ∧ ∀ K, K0 ≤ K → Off (ad (sc K x) d) (ad (sc K x) d') (sc K a) (sc K b) := by
  by_cases ht : tI a b x = 0
  · refine ⟨d.1.natAbs + d'.1.natAbs + d.2.natAbs + d'.2.natAbs + 1, by omega, fun K hK => off_sep ?_⟩
    have hK0 : 0 < K := by omega
    simp only [ad, sc]
    rcases not_on h ht with g | g
    · rcases Int.lt_or_le (a.1 - x.1) 0 with k | k
      · have k2 : b.1 - x.1 < 0 := by
          apply Classical.byContradiction; intro q
          have := Int.mul_nonpos_of_nonpos_of_nonneg (Int.le_of_lt k) (show 0 ≤ b.1 - x.1 by omega)
          omega
        have m1 := mul_ge hK0 (show 0 < x.1 - a.1 by omega)
        have m2 := mul_ge hK0 (show 0 < x.1 - b.1 by omega)
        rw [Int.mul_sub] at m1 m2
        right; left; omega
      · have k1 : 0 < a.1 - x.1 := by
          rcases Int.lt_or_eq_of_le k with q | q
          · exact q
          · rw [← q, Int.zero_mul] at g; omega
        have k2 : 0 < b.1 - x.1 := pos_of_mul_pos (Int.le_of_lt k1) g
        have m1 := mul_ge hK0 k1
        have m2 := mul_ge hK0 k2
        rw [Int.mul_sub] at m1 m2
        left; omega
    · rcases Int.lt_or_le (a.2 - x.2) 0 with k | k
      · have k2 : b.2 - x.2 < 0 := by
          apply Classical.byContradiction; intro q
          have := Int.mul_nonpos_of_nonpos_of_nonneg (Int.le_of_lt k) (show 0 ≤ b.2 - x.2 by omega)
          omega
        have m1 := mul_ge hK0 (show 0 < x.2 - a.2 by omega)
        have m2 := mul_ge hK0 (show 0 < x.2 - b.2 by omega)
        rw [Int.mul_sub] at m1 m2
        right; right; right; omega
      · have k1 : 0 < a.2 - x.2 := by
          rcases Int.lt_or_eq_of_le k with q | q
          · exact q
          · rw [← q, Int.zero_mul] at g; omega
        have k2 : 0 < b.2 - x.2 := pos_of_mul_pos (Int.le_of_lt k1) g
        have m1 := mul_ge hK0 k1
        have m2 := mul_ge hK0 k2
        rw [Int.mul_sub] at m1 m2
        right; right; left; omega
  · rcases Int.lt_or_gt_of_ne ht with k | k
    · have k' : 0 < tI b a x := by have := tI_neg a b x; omega
      obtain ⟨K1, p1, h1⟩ := near_side d k'
      obtain ⟨K2, p2, h2⟩ := near_side d' k'
      exact ⟨K1 + K2, by omega, fun K hK => (off_side (h1 K (by omega)) (h2 K (by omega))).rev2⟩
    · obtain ⟨K1, p1, h1⟩ := near_side d k
      obtain ⟨K2, p2, h2⟩ := near_side d' k
      exact ⟨K1 + K2, by omega, fun K hK => off_side (h1 K (by omega)) (h2 K (by omega))⟩

theorem near_all {x : Int × Int} (d d' : Int × Int) : ∀ {E : List ((Int × Int) × (Int × Int))}, (∀ e ∈ E, onI e.1 e.2 x = false) → ∃ K0 : Int, 0 < K0 ∧ ∀ K, K0 ≤ K → ∀ e ∈ E, Off (ad (sc K x) d) (ad (sc K x) d') (sc K e.1) (sc K e.2)
  | [], _ => ⟨1, by decide, fun K _ e he => by simp at he⟩
  | f :: E, h => by
    obtain ⟨K1, p1, h1⟩ := near_all d d' (E := E) fun e he => h e (by simp [he])
    obtain ⟨K2, p2, h2⟩ := near_off (h f (by simp)) d d'
    refine ⟨K1 + K2, by omega, fun K hK e he => ?_⟩
    rcases List.mem_cons.1 he with g | g
    · subst g; exact h2 K (by omega)
    · exact h1 K (by omega) e g

theorem ad_zero (p : Int × Int) : ad p (0, 0) = p := by unfold ad; simp

/-- What a path changes between two points that it does not part. -/
theorem path_strip {p q a b : Int × Int} {s : List (Int × Int)} (hpq : p.2 ≤ q.2) (h : ∀ e ∈ path a (s ++ [b]), Off p q e.1 e.2) :
    sumE (fun e => cr p e.1 e.2) (path a (s ++ [b])) - sumE (fun e => cr q e.1 e.2) (path a (s ++ [b])) = hh p q b - hh p q a := by
  rw [← sumE_sub, ← path_tele (fun v => hh p q v) a b s]
  exact sumE_congr fun e he => strip (h e he) hpq

/-- How the side is told: the step from the line that leads to its right. -/
def dd (u w : Int × Int) : Int × Int := if u.2 < w.2 then (1, 0) else if w.2 < u.2 then (-1, 0) else if u.1 < w.1 then (0, -1) else (0, 1)

theorem dd_right {u w : Int × Int} (h : u ≠ w) : cx u w (dd u w) < 0 := by
  unfold cx dd
  by_cases h1 : u.2 < w.2
  · rw [if_pos h1]; simp only; omega
  · rw [if_neg h1]
    by_cases h2 : w.2 < u.2
    · rw [if_pos h2]; simp only; omega
    · rw [if_neg h2]
      by_cases h3 : u.1 < w.1
      · rw [if_pos h3]; simp only; omega
      · rw [if_neg h3]; simp only
        have : u.1 ≠ w.1 := fun q => h (Prod.ext q (by omega))
        omega

/-- Between its ends: a point of a line that is neither of them. -/
theorem on_open {u w x : Int × Int} (h : onI u w x = true) (hu : x ≠ u) (hw : x ≠ w) : (u.2 < w.2 → u.2 < x.2 ∧ x.2 < w.2) ∧ (w.2 < u.2 → w.2 < x.2 ∧ x.2 < u.2) ∧
    (u.2 = w.2 → x.2 = u.2 ∧ (u.1 < w.1 → u.1 < x.1 ∧ x.1 < w.1) ∧ (w.1 < u.1 → w.1 < x.1 ∧ x.1 < u.1)) := by
  have ⟨b1, b2⟩ := on_bounds h
  have ht := ((onI_iff _ _ _).1 h).1
  have key : u.2 ≠ w.2 → x.2 ≠ u.2 ∧ x.2 ≠ w.2 := by
    intro hne
    unfold tI at ht
    refine ⟨fun q => hu ?_, fun q => hw ?_⟩
    · refine Prod.ext ?_ q
      rw [q] at ht
      have : (w.2 - u.2) * (x.1 - u.1) = 0 := by grind
      rcases Int.mul_eq_zero.1 this with g | g <;> omega
    · refine Prod.ext ?_ q
      rw [q] at ht
      have : (w.2 - u.2) * (x.1 - w.1) = 0 := by grind
      rcases Int.mul_eq_zero.1 this with g | g <;> omega
  refine ⟨fun k => ?_, fun k => ?_, fun k => ?_⟩
  · have := key (by omega); omega
  · have := key (by omega); omega
  · have q2 : x.2 = u.2 := by omega
    have q1 : x.1 ≠ u.1 := fun q => hu (Prod.ext q q2)
    have q3 : x.1 ≠ w.1 := fun q => hw (Prod.ext q (by omega))
    exact ⟨q2, fun _ => by omega, fun _ => by omega⟩

/-- What an edge changes: to its left the way goes round once more. -/
theorem jump {u w x : Int × Int} {r : List (Int × Int)} (huw : u ≠ w) (hx : onI u w x = true) (hxu : x ≠ u) (hxw : x ≠ w) (hE : ∀ e ∈ path w (r ++ [u]), onI e.1 e.2 x = false) :
    ∃ K0 : Int, 0 < K0 ∧ ∀ K, K0 ≤ K → wc (ad (sc K x) (ng (dd u w))) ((w :: r ++ [u]).map (sc K)) = wc (ad (sc K x) (dd u w)) ((w :: r ++ [u]).map (sc K)) + 1 := by
  obtain ⟨K0, p0, h0⟩ := near_all (dd u w) (ng (dd u w)) hE
  refine ⟨K0, p0, fun K hK => ?_⟩
  have hK0 : 0 < K := by omega
  obtain ⟨y1, hy1⟩ : ∃ y, y = ad (sc K x) (dd u w) := ⟨_, rfl⟩
  obtain ⟨y2, hy2⟩ : ∃ y, y = ad (sc K x) (ng (dd u w)) := ⟨_, rfl⟩
  have off : ∀ e ∈ path (sc K w) (r.map (sc K) ++ [sc K u]), Off y1 y2 e.1 e.2 := by
    intro e he
    have e0 : r.map (sc K) ++ [sc K u] = (r ++ [u]).map (sc K) := by simp
    rw [e0, path_map] at he
    obtain ⟨f, hf, rfl⟩ := List.mem_map.1 he
    rw [hy1, hy2]; exact h0 K hK f hf
  have tx : tI u w x = 0 := ((onI_iff _ _ _).1 hx).1
  have t1 : tI (sc K u) (sc K w) y1 < 0 := by
    rw [hy1, tI_ad, tx, Int.mul_zero, Int.zero_add]
    exact Int.mul_neg_of_pos_of_neg hK0 (dd_right huw)
  have t2 : 0 < tI (sc K u) (sc K w) y2 := by
    rw [hy2, tI_ad, tx, Int.mul_zero, Int.zero_add]
    have : cx u w (ng (dd u w)) = - cx u w (dd u w) := by unfold cx ng; grind
    rw [this]
    exact Int.mul_pos hK0 (by have := dd_right huw; omega)
  have split : ∀ y, wc y ((w :: r ++ [u]).map (sc K)) = sumE (fun e => cr y e.1 e.2) (path (sc K w) (r.map (sc K) ++ [sc K u])) + cr y (sc K u) (sc K w) := by
    intro y
    have e0 : (w :: r ++ [u]).map (sc K) = sc K w :: r.map (sc K) ++ [sc K u] := by simp
    rw [e0]
    unfold wc
    rw [edges_rest, sumE_append]
    simp [sumE]
  rw [← hy1, ← hy2, split y1, split y2]
  obtain ⟨o1, o2, o3⟩ := on_open hx hxu hxw
  have lt : ∀ {a b : Int}, a < b → K * a < K * b := fun h => sc_lt hK0 h
  by_cases h1 : u.2 < w.2
  · have ed : dd u w = (1, 0) := by unfold dd; rw [if_pos h1]
    have z1 : y1.2 = K * x.2 := by rw [hy1, ed]; simp [ad, sc]
    have z2 : y2.2 = K * x.2 := by rw [hy2, ed]; simp [ad, sc, ng]
    have ps := path_strip (p := y1) (q := y2) (by omega) off
    have hz : ∀ v, hh y1 y2 v = 0 := fun v => by unfold hh; rw [if_neg (by omega)]
    rw [hz, hz] at ps
    have l1 := lt (o1 h1).1
    have l2 := lt (o1 h1).2
    have c1 : cr y1 (sc K u) (sc K w) = 0 := by
      unfold cr
      rw [if_neg (by omega), if_neg (by simp only [sc]; omega)]
    have c2 : cr y2 (sc K u) (sc K w) = 1 := by
      unfold cr
      rw [if_pos ⟨by simp only [sc]; omega, by simp only [sc]; omega, t2⟩]
    omega
  · by_cases h2 : w.2 < u.2
    · have ed : dd u w = (-1, 0) := by unfold dd; rw [if_neg h1, if_pos h2]
      have z1 : y1.2 = K * x.2 := by rw [hy1, ed]; simp [ad, sc]
      have z2 : y2.2 = K * x.2 := by rw [hy2, ed]; simp [ad, sc, ng]
      have ps := path_strip (p := y1) (q := y2) (by omega) off
      have hz : ∀ v, hh y1 y2 v = 0 := fun v => by unfold hh; rw [if_neg (by omega)]
      rw [hz, hz] at ps
      have l1 := lt (o2 h2).1
      have l2 := lt (o2 h2).2
      have c1 : cr y1 (sc K u) (sc K w) = -1 := by
        unfold cr
        rw [if_neg (by omega), if_pos ⟨by simp only [sc]; omega, by simp only [sc]; omega, t1⟩]
      have c2 : cr y2 (sc K u) (sc K w) = 0 := by
        unfold cr
        rw [if_neg (by simp only [sc]; omega), if_neg (by omega)]
      omega
    · have he : u.2 = w.2 := by omega
      obtain ⟨x2, o4, o5⟩ := o3 he
      have ku : (sc K u).2 = K * x.2 := by simp only [sc]; rw [x2]
      have kw : (sc K w).2 = K * x.2 := by simp only [sc]; rw [x2, he]
      have c0 : ∀ y, cr y (sc K u) (sc K w) = 0 := by
        intro y
        unfold cr
        rw [if_neg (by omega), if_neg (by omega)]
      rw [c0, c0]
      by_cases h3 : u.1 < w.1
      · have ed : dd u w = (0, -1) := by unfold dd; rw [if_neg h1, if_neg h2, if_pos h3]
        have z1 : y1 = (K * x.1, K * x.2 - 1) := by rw [hy1, ed]; simp [ad, sc]; omega
        have z2 : y2 = (K * x.1, K * x.2 + 1) := by rw [hy2, ed]; simp [ad, sc, ng]
        have ps := path_strip (p := y1) (q := y2) (by rw [z1, z2]; simp only; omega) off
        have tt : ∀ v : Int × Int, tI y1 y2 v = 2 * (K * x.1 - v.1) := fun v => by rw [z1, z2]; unfold tI; grind
        have l1 := lt (o4 h3).1
        have l2 := lt (o4 h3).2
        have hu : hh y1 y2 (sc K u) = 0 := by
          unfold hh
          rw [if_neg (by rw [tt]; simp only [sc]; omega)]
        have hw : hh y1 y2 (sc K w) = 1 := by
          unfold hh
          rw [if_pos ⟨by rw [z1, kw]; simp only; omega, by rw [z2, kw]; simp only; omega, by rw [tt]; simp only [sc]; omega⟩]
        omega
      · have h3' : w.1 < u.1 := by
          have : u.1 ≠ w.1 := fun q => huw (Prod.ext q he)
          omega
        have ed : dd u w = (0, 1) := by unfold dd; rw [if_neg h1, if_neg h2, if_neg h3]
        have z1 : y1 = (K * x.1, K * x.2 + 1) := by rw [hy1, ed]; simp [ad, sc]
        have z2 : y2 = (K * x.1, K * x.2 - 1) := by rw [hy2, ed]; simp [ad, sc, ng]; omega
        have ps := path_strip (p := y2) (q := y1) (by rw [z1, z2]; simp only; omega) (fun e he => (off e he).rev1)
        have tt : ∀ v : Int × Int, tI y2 y1 v = 2 * (K * x.1 - v.1) := fun v => by rw [z1, z2]; unfold tI; grind
        have l1 := lt (o5 h3').1
        have l2 := lt (o5 h3').2
        have hw : hh y2 y1 (sc K w) = 0 := by
          unfold hh
          rw [if_neg (by rw [tt]; simp only [sc]; omega)]
        have hu : hh y2 y1 (sc K u) = 1 := by
          unfold hh
          rw [if_pos ⟨by rw [z2, ku]; simp only; omega, by rw [z1, ku]; simp only; omega, by rw [tt]; simp only [sc]; omega⟩]
        omega
end

section
set_option linter.unusedVariables false

theorem last_in {u w : Int × Int} {r : List (Int × Int)} {e : (Int × Int) × (Int × Int)} (h : e ∈ path w (r ++ [u])) : e ∈ edges (w :: r ++ [u]) := by rw [edges_rest]; exact List.mem_append_left _ h
theorem last_mem (u w : Int × Int) (r : List (Int × Int)) : (u, w) ∈ edges (w :: r ++ [u]) := by rw [edges_rest]; simp

/-- A polygon without an ear's corner is one. -/
theorem clip {u v w : Int × Int} {r : List (Int × Int)} (hs : Simple (v :: w :: r ++ [u])) (hr : r ≠ []) (hD : tI u v w ≠ 0) (free : ∀ x ∈ r, ¬ Tri u v w x) : Simple (w :: r ++ [u]) := by
  have nd := hs.nodup
  have nd' : (w :: r ++ [u]).Nodup := (List.nodup_cons.1 nd).2
  have hn := nd
  simp only [List.cons_append, List.nodup_cons, List.mem_cons, List.mem_append, List.not_mem_nil, or_false, not_or, List.nodup_append] at hn
  obtain ⟨⟨n1, n2, n3⟩, ⟨n5, n6⟩, n7, n9, n10⟩ := hn
  have n8 : u ∉ r := fun hu => n10 u hu u (by simp) rfl
  have mvw : (v, w) ∈ edges (v :: w :: r ++ [u]) := by rw [edges_ear]; simp
  have muv : (u, v) ∈ edges (v :: w :: r ++ [u]) := by rw [edges_ear]; simp
  have main : ∀ e ∈ path w (r ++ [u]), Clean u w e.1 e.2 := by
    intro e g
    have mQ : e ∈ edges (v :: w :: r ++ [u]) := by rw [edges_ear]; simp [g]
    rcases path_class hr g with ⟨a1, a2⟩ | ⟨a1, a2⟩ | ⟨a1, a2⟩
    · have c1 : e.1 ≠ v ∧ e.1 ≠ w ∧ e.1 ≠ u := ⟨fun q => n2 (q ▸ a1), fun q => n5 (q ▸ a1), fun q => n8 (q ▸ a1)⟩
      have c2 : e.2 ≠ v ∧ e.2 ≠ w ∧ e.2 ≠ u := ⟨fun q => n2 (q ▸ a2), fun q => n5 (q ▸ a2), fun q => n8 (q ▸ a2)⟩
      have o1 : Off e.1 e.2 u v := (hs.clean _ mQ _ muv (fun q => c1.2.2 (by rw [q]))).off c1.2.2 c1.1 c2.2.2 c2.1
      have o2 : Off e.1 e.2 v w := (hs.clean _ mQ _ mvw (fun q => c1.1 (by rw [q]))).off c1.1 c1.2.1 c2.1 c2.2.1
      exact (ear_off' hD (free _ a1) (free _ a2) o1 o2).clean
    · refine ⟨fun _ k => absurd a1 k, fun _ _ => on_uw' hD (free _ a2), fun k1 k2 => ?_, fun k _ => absurd a1.symm k, ?_⟩
      · exact hs.corner mQ (x := u) (by simp) k1 k2
      · rintro ⟨k, _⟩; rw [a1, (tI_same u w).2.1, Int.zero_mul] at k; omega
    · refine ⟨fun _ _ => on_uw' hD (free _ a1), fun k _ => absurd a2 k, fun _ k => absurd a2.symm k, fun k1 k2 => ?_, ?_⟩
      · exact hs.corner mQ (x := w) (by simp) k1 k2
      · rintro ⟨k, _⟩; rw [a2, (tI_same u w).1, Int.mul_zero] at k; omega
  have pin : ∀ {e}, e ∈ path w (r ++ [u]) → e ∈ edges (v :: w :: r ++ [u]) := fun g => by rw [edges_ear]; simp [g]
  refine ⟨nd', ?_, ?_⟩
  · have : 0 < r.length := List.length_pos_iff.2 hr
    simp; omega
  · intro e he f hf hef
    rw [edges_rest] at he hf
    rcases List.mem_append.1 he with g | g
    · rcases List.mem_append.1 hf with k | k
      · exact hs.clean e (pin g) f (pin k) hef
      · have : f = (u, w) := by simpa using k
        subst this
        exact (main e g).swap
    · have : e = (u, w) := by simpa using g
      subst this
      rcases List.mem_append.1 hf with k | k
      · exact main f k
      · have : f = (u, w) := by simpa using k
        exact absurd this.symm hef

/-- A point of an edge, no end, is on no other edge. -/
theorem last_open {u w x : Int × Int} {r : List (Int × Int)} (hs : Simple (w :: r ++ [u])) (hx : onI u w x = true) (hxu : x ≠ u) (hxw : x ≠ w) : ∀ e ∈ path w (r ++ [u]), onI e.1 e.2 x = false := by
  intro e he
  have hr : r ≠ [] := by intro q; subst q; have := hs.three; simp at this
  have hn := hs.nodup
  simp only [List.cons_append, List.nodup_cons, List.mem_cons, List.mem_append, List.not_mem_nil, or_false, not_or, List.nodup_append] at hn
  obtain ⟨⟨n5, n6⟩, n7, n9, n10⟩ := hn
  have n8 : u ∉ r := fun hu => n10 u hu u (by simp) rfl
  have em := last_in he
  have um := last_mem u w r
  cases q : onI e.1 e.2 x with
  | false => rfl
  | true =>
    exfalso
    rcases path_class hr he with ⟨a1, a2⟩ | ⟨a1, a2⟩ | ⟨a1, a2⟩
    · have c1 : e.1 ≠ w ∧ e.1 ≠ u := ⟨fun q => n5 (q ▸ a1), fun q => n8 (q ▸ a1)⟩
      have c2 : e.2 ≠ w ∧ e.2 ≠ u := ⟨fun q => n5 (q ▸ a2), fun q => n8 (q ▸ a2)⟩
      have o : Off e.1 e.2 u w := (hs.clean _ em _ um (fun q => c1.2 (by rw [q]))).off c1.2 c1.1 c2.2 c2.1
      exact no_common (hs.ne em) (Ne.symm n6) o q hx
    · have c2 : e.2 ≠ w ∧ e.2 ≠ u := ⟨fun q => n5 (q ▸ a2), fun q => n8 (q ▸ a2)⟩
      have k1 : onI u w e.2 = false := hs.corner um (edges_mem em).2 c2.2 c2.1
      have k2 : onI w e.2 u = false := by have := hs.corner em (x := u) (by simp) (by rw [a1]; exact Ne.symm n6) (Ne.symm c2.2); rwa [a1] at this
      rw [a1] at q
      exact hxw (only_end (Ne.symm n6) (Ne.symm c2.1) k1 k2 hx q)
    · have c1 : e.1 ≠ w ∧ e.1 ≠ u := ⟨fun q => n5 (q ▸ a1), fun q => n8 (q ▸ a1)⟩
      have k1 : onI u w e.1 = false := hs.corner um (edges_mem em).1 c1.2 c1.1
      have k2 : onI e.1 u w = false := by have := hs.corner em (x := w) (by simp) (Ne.symm c1.1) (by rw [a2]; exact n6); rwa [a2] at this
      rw [a2] at q
      exact hxu (only_end (a := w) (b := u) (d := e.1) n6 (Ne.symm c1.2) (by rw [onI_comm]; exact k1) (by rw [onI_comm]; exact k2) (by rw [onI_comm]; exact hx) (by rw [onI_comm]; exact q))

section
variable {u v w : Int × Int} {r : List (Int × Int)}

/-- All over the inside of an empty triangle the rest goes round equally often. -/
theorem Tip.rest (h : Tip u v w r) {p q : Int × Int} (p1 : 0 < tI u v p) (p2 : 0 < tI v w p) (p3 : 0 < tI w u p) (q1 : 0 < tI u v q) (q2 : 0 < tI v w q) (q3 : 0 < tI w u q) : wc p (w :: r ++ [u]) = wc q (w :: r ++ [u]) := by
  obtain ⟨n1, n2, n3, n4, n5, n6, n7⟩ := h.nd
  have hD := h.turn
  have hs := h.simple
  have dv : tI v w u = tI u v w := (tI_cyc u v w).symm
  have dw : tI w u v = tI u v w := tI_cyc w u v
  have mvw : (v, w) ∈ edges (v :: w :: r ++ [u]) := by rw [edges_ear]; simp
  have muv : (u, v) ∈ edges (v :: w :: r ++ [u]) := by rw [edges_ear]; simp
  have ip : InT u v w p := ⟨by omega, by omega, by omega⟩
  have iq : InT u v w q := ⟨by omega, by omega, by omega⟩
  have o3 : Off p q w u := off_side p3 q3
  have fr : ∀ x ∈ r, ¬ Tri u v w x := by
    intro x hx hT
    rcases hT with g | g
    · exact h.free x hx g
    · exact InT_neg (by have : tI w v u = - tI u v w := by unfold tI; grind
                        omega) g
  refine wc_same fun e he => ?_
  rw [edges_rest] at he
  rcases List.mem_append.1 he with g | g
  · have mQ : e ∈ edges (v :: w :: r ++ [u]) := by rw [edges_ear]; simp [g]
    rcases path_class h.some g with ⟨a1, a2⟩ | ⟨a1, a2⟩ | ⟨a1, a2⟩
    · have c1 : e.1 ≠ v ∧ e.1 ≠ w ∧ e.1 ≠ u := ⟨fun q => n2 (q ▸ a1), fun q => n4 (q ▸ a1), fun q => n7 (q ▸ a1)⟩
      have c2 : e.2 ≠ v ∧ e.2 ≠ w ∧ e.2 ≠ u := ⟨fun q => n2 (q ▸ a2), fun q => n4 (q ▸ a2), fun q => n7 (q ▸ a2)⟩
      have o1 : Off e.1 e.2 u v := (hs.clean _ mQ _ muv (fun q => c1.2.2 (by rw [q]))).off c1.2.2 c1.1 c2.2.2 c2.1
      have o2 : Off e.1 e.2 v w := (hs.clean _ mQ _ mvw (fun q => c1.1 (by rw [q]))).off c1.1 c1.2.1 c2.1 c2.2.1
      exact tri_off hD (hs.ne mQ) (h.free _ a1) (h.free _ a2) o1 o2 (ear_off' (by omega) (fr _ a1) (fr _ a2) o1 o2).swap.rev2 ip iq
    · have c2 : e.2 ≠ v ∧ e.2 ≠ w ∧ e.2 ≠ u := ⟨fun q => n2 (q ▸ a2), fun q => n4 (q ▸ a2), fun q => n7 (q ▸ a2)⟩
      have o1 : Off e.1 e.2 u v := (hs.clean _ mQ _ muv (fun q => c2.1 (by rw [q]))).off (by rw [a1]; exact n5) (by rw [a1]; exact Ne.symm n1) c2.2.2 c2.1
      rw [a1] at o1 ⊢
      exact spoke_off (u := w) (v := u) (w := v) (by omega) (fun k => h.free _ a2 k.cyc) o1 ip.cyc.cyc iq.cyc.cyc o3.pa
    · have c1 : e.1 ≠ v ∧ e.1 ≠ w ∧ e.1 ≠ u := ⟨fun q => n2 (q ▸ a1), fun q => n4 (q ▸ a1), fun q => n7 (q ▸ a1)⟩
      have o1 : Off e.1 e.2 v w := (hs.clean _ mQ _ mvw (fun q => c1.1 (by rw [q]))).off c1.1 c1.2.1 (by rw [a2]; exact Ne.symm n3) (by rw [a2]; exact Ne.symm n5)
      rw [a2] at o1 ⊢
      exact (spoke_off hD (h.free _ a1) o1.rev1 ip iq o3.pb).rev2
  · have : e = (u, w) := by simpa using g
    subst this
    exact o3.rev2

theorem Tip.scaled (h : Tip u v w r) {K : Int} (hK : 0 < K) : Tip (sc K u) (sc K v) (sc K w) (r.map (sc K)) := by
  refine ⟨?_, by simpa using h.some, ?_, ?_⟩
  · have := h.simple.sc hK; simpa using this
  · rw [tI_sc]; exact (sc_sign hK).1.2 h.turn
  · intro x hx
    obtain ⟨x0, hx0, rfl⟩ := List.mem_map.1 hx
    exact fun k => h.free x0 hx0 ((InT_sc hK).1 k)

end

def Free (p : Int × Int) (P : List (Int × Int)) : Prop := ∀ e ∈ edges P, onI e.1 e.2 p = false

/-- A way goes round a point not at all or once, always the same way. -/
def Rho (P : List (Int × Int)) (ρ : Int) : Prop := (ρ = 1 ∨ ρ = -1) ∧ ∀ K : Int, 0 < K → ∀ p, Free p (P.map (sc K)) → wc p (P.map (sc K)) = 0 ∨ wc p (P.map (sc K)) = ρ

theorem sc_sc (K L : Int) (p : Int × Int) : sc K (sc L p) = sc (K * L) p := by unfold sc; simp only [Int.mul_assoc]
theorem map_sc (K L : Int) (P : List (Int × Int)) : (P.map (sc L)).map (sc K) = P.map (sc (K * L)) := by
  rw [List.map_map]; congr 1; funext p; exact sc_sc K L p
theorem sc_one (p : Int × Int) : sc 1 p = p := by unfold sc; simp
theorem map_one (P : List (Int × Int)) : P.map (sc 1) = P := by
  have : sc 1 = id := funext sc_one
  rw [this]; simp

theorem Rho.scaled {P : List (Int × Int)} {ρ K : Int} (h : Rho P ρ) (hK : 0 < K) : Rho (P.map (sc K)) ρ :=
  ⟨h.1, fun L hL p hp => by rw [map_sc] at hp ⊢; exact h.2 _ (Int.mul_pos hL hK) p hp⟩
theorem Rho.at {P : List (Int × Int)} {ρ : Int} (h : Rho P ρ) {p : Int × Int} (hp : Free p P) : wc p P = 0 ∨ wc p P = ρ := by
  have := h.2 1 (by decide) p (by rw [map_one]; exact hp)
  rwa [map_one] at this
theorem Free.rot {p : Int × Int} {l m : List (Int × Int)} (h : Free p (l ++ m)) : Free p (m ++ l) := fun e he => h e ((edges_rot l m).mem_iff.2 he)
theorem Rho.rot {l m : List (Int × Int)} {ρ : Int} (h : Rho (l ++ m) ρ) : Rho (m ++ l) ρ :=
  ⟨h.1, fun K hK p hp => by
    have := h.2 K hK p (by rw [List.map_append] at hp ⊢; exact hp.rot)
    rw [List.map_append, wc_rot, ← List.map_append] at this
    exact this⟩
end

section
set_option linter.unusedVariables false

section
variable {u v w : Int × Int} {r : List (Int × Int)} {ρ : Int}

theorem Tip.clip (h : Tip u v w r) : Simple (w :: r ++ [u]) := by
  refine Go.Proofs.Ytlicmfhgjonmnaa.clip h.simple h.some (by have := h.turn; omega) fun x hx hT => ?_
  rcases hT with g | g
  · exact h.free x hx g
  · exact InT_neg (by have := h.turn
                      have : tI w v u = - tI u v w := by unfold tI; grind
                      omega) g

/-- The rest, all over the inside of the triangle. -/
theorem Tip.const (h : Tip u v w r) (hR : Rho (w :: r ++ [u]) ρ) {p : Int × Int} (p1 : 0 < tI u v p) (p2 : 0 < tI v w p) (p3 : 0 < tI w u p) :
    (wc p (w :: r ++ [u]) = 0 ∧ ρ = 1) ∨ (wc p (w :: r ++ [u]) = -1 ∧ ρ = -1) := by
  have h20 : (0 : Int) < 2 := by decide
  obtain ⟨n1, n2, n3, n4, n5, n6, n7⟩ := h.nd
  have hD := h.turn
  obtain ⟨x, hx⟩ : ∃ x : Int × Int, x = (u.1 + w.1, u.2 + w.2) := ⟨_, rfl⟩
  have zt : ∀ a b : Int × Int, tI (sc 2 a) (sc 2 b) x = 2 * (tI a b u + tI a b w) := by intro a b; subst hx; unfold tI sc; grind
  have xon : onI (sc 2 u) (sc 2 w) x = true := by
    subst hx
    rw [onI_iff]
    refine ⟨by unfold tI sc; grind, ?_, ?_⟩
    · have e : ((sc 2 u).1 - (u.1 + w.1)) * ((sc 2 w).1 - (u.1 + w.1)) = -((u.1 - w.1) * (u.1 - w.1)) := by unfold sc; grind
      have := sq_nonneg (u.1 - w.1); simp only at *; omega
    · have e : ((sc 2 u).2 - (u.2 + w.2)) * ((sc 2 w).2 - (u.2 + w.2)) = -((u.2 - w.2) * (u.2 - w.2)) := by unfold sc; grind
      have := sq_nonneg (u.2 - w.2); simp only at *; omega
  have x1 : 0 < tI (sc 2 u) (sc 2 v) x := by rw [zt, (tI_same u v).1]; omega
  have x2 : 0 < tI (sc 2 v) (sc 2 w) x := by rw [zt, (tI_same v w).2.1, ← tI_cyc u v w]; omega
  have xu : x ≠ sc 2 u := by intro q; rw [q, (tI_same (sc 2 u) (sc 2 v)).1] at x1; omega
  have xw : x ≠ sc 2 w := by intro q; rw [q, (tI_same (sc 2 v) (sc 2 w)).2.1] at x2; omega
  have uw2 : sc 2 u ≠ sc 2 w := sc_ne h20 (Ne.symm n5)
  have e2 : (w :: r ++ [u]).map (sc 2) = sc 2 w :: r.map (sc 2) ++ [sc 2 u] := by simp
  have hs2 : Simple (sc 2 w :: r.map (sc 2) ++ [sc 2 u]) := by rw [← e2]; exact h.clip.sc h20
  have lo := last_open hs2 xon xu xw
  obtain ⟨K1, k1, j1⟩ := jump uw2 xon xu xw lo
  obtain ⟨K2, k2, j2⟩ := near_all (dd (sc 2 u) (sc 2 w)) (ng (dd (sc 2 u) (sc 2 w))) lo
  obtain ⟨K3, k3, j3⟩ := near_side (dd (sc 2 u) (sc 2 w)) x1
  obtain ⟨K4, k4, j4⟩ := near_side (dd (sc 2 u) (sc 2 w)) x2
  obtain ⟨K, hK⟩ : ∃ K, K = K1 + K2 + K3 + K4 := ⟨_, rfl⟩
  have hK0 : 0 < K := by omega
  have J := j1 K (by omega)
  have N := j2 K (by omega)
  have S1 := j3 K (by omega)
  have S2 := j4 K (by omega)
  obtain ⟨y1, hy1⟩ : ∃ y, y = ad (sc K x) (dd (sc 2 u) (sc 2 w)) := ⟨_, rfl⟩
  obtain ⟨y2, hy2⟩ : ∃ y, y = ad (sc K x) (ng (dd (sc 2 u) (sc 2 w))) := ⟨_, rfl⟩
  rw [← hy1, ← hy2] at J
  have tx : tI (sc 2 u) (sc 2 w) x = 0 := ((onI_iff _ _ _).1 xon).1
  have dr := dd_right uw2
  have T1 : tI (sc K (sc 2 u)) (sc K (sc 2 w)) y1 < 0 := by
    rw [hy1, tI_ad, tx, Int.mul_zero, Int.zero_add]
    exact Int.mul_neg_of_pos_of_neg hK0 dr
  have T2 : 0 < tI (sc K (sc 2 u)) (sc K (sc 2 w)) y2 := by
    rw [hy2, tI_ad, tx, Int.mul_zero, Int.zero_add]
    have : cx (sc 2 u) (sc 2 w) (ng (dd (sc 2 u) (sc 2 w))) = - cx (sc 2 u) (sc 2 w) (dd (sc 2 u) (sc 2 w)) := by unfold cx ng; grind
    rw [this]
    exact Int.mul_pos hK0 (by omega)
  have S3 : 0 < tI (sc K (sc 2 w)) (sc K (sc 2 u)) y1 := by rw [tI_neg]; omega
  rw [← hy1] at S1 S2
  have eK : (sc 2 w :: r.map (sc 2) ++ [sc 2 u]).map (sc K) = (w :: r ++ [u]).map (sc (K * 2)) := by rw [← e2, map_sc]
  have hK2 : 0 < K * 2 := by omega
  have edge : ∀ e ∈ edges ((sc 2 w :: r.map (sc 2) ++ [sc 2 u]).map (sc K)), e = (sc K (sc 2 u), sc K (sc 2 w)) ∨ Off y1 y2 e.1 e.2 := by
    intro e he
    rw [edges_map] at he
    obtain ⟨f, hf, rfl⟩ := List.mem_map.1 he
    rw [edges_rest] at hf
    rcases List.mem_append.1 hf with g | g
    · right
      rw [hy1, hy2]; exact N f g
    · left
      have : f = (sc 2 u, sc 2 w) := by simpa using g
      rw [this]
  have F1 : Free y1 ((sc 2 w :: r.map (sc 2) ++ [sc 2 u]).map (sc K)) := by
    intro e he
    rcases edge e he with g | g
    · subst g
      simp only
      cases q : onI (sc K (sc 2 u)) (sc K (sc 2 w)) y1 with
      | false => rfl
      | true => have := ((onI_iff _ _ _).1 q).1; omega
    · exact g.ap
  have F2 : Free y2 ((sc 2 w :: r.map (sc 2) ++ [sc 2 u]).map (sc K)) := by
    intro e he
    rcases edge e he with g | g
    · subst g
      simp only
      cases q : onI (sc K (sc 2 u)) (sc K (sc 2 w)) y2 with
      | false => rfl
      | true => have := ((onI_iff _ _ _).1 q).1; omega
    · exact g.aq
  rw [eK] at F1 F2 J
  have R1 := hR.2 _ hK2 y1 F1
  have R2 := hR.2 _ hK2 y2 F2
  have same : wc p (w :: r ++ [u]) = wc y1 ((w :: r ++ [u]).map (sc (K * 2))) := by
    rw [← wc_sc hK2 p]
    have tp := h.scaled hK2
    have e3 : (w :: r ++ [u]).map (sc (K * 2)) = sc (K * 2) w :: r.map (sc (K * 2)) ++ [sc (K * 2) u] := by simp
    rw [e3]
    simp only [sc_sc] at S1 S2 S3
    refine tp.rest ?_ ?_ ?_ S1 S2 S3
    · rw [tI_sc]; exact (sc_sign hK2).1.2 p1
    · rw [tI_sc]; exact (sc_sign hK2).1.2 p2
    · rw [tI_sc]; exact (sc_sign hK2).1.2 p3
  rw [same]
  have := hR.1
  omega

theorem Tip.rho_in (h : Tip u v w r) (hR : Rho (w :: r ++ [u]) ρ) {p : Int × Int} (p1 : 0 < tI u v p) (p2 : 0 < tI v w p) (p3 : 0 < tI w u p) :
    wc p (v :: w :: r ++ [u]) = 0 ∨ wc p (v :: w :: r ++ [u]) = ρ := by
  rw [wc_ear, wt_in h.turn p1 p2 p3]
  have := h.const hR p1 p2 p3
  omega

theorem Tip.rho (h : Tip u v w r) (hR : Rho (w :: r ++ [u]) ρ) {p : Int × Int} (hp : Free p (v :: w :: r ++ [u])) : wc p (v :: w :: r ++ [u]) = 0 ∨ wc p (v :: w :: r ++ [u]) = ρ := by
  obtain ⟨n1, n2, n3, n4, n5, n6, n7⟩ := h.nd
  have hD := h.turn
  have dv : tI v w u = tI u v w := (tI_cyc u v w).symm
  have dw : tI w u v = tI u v w := tI_cyc w u v
  have mvw : (v, w) ∈ edges (v :: w :: r ++ [u]) := by rw [edges_ear]; simp
  have muv : (u, v) ∈ edges (v :: w :: r ++ [u]) := by rw [edges_ear]; simp
  have f1 := hp _ muv
  have f2 := hp _ mvw
  simp only at f1 f2
  by_cases hi : InT u v w p
  · have p1 : 0 < tI u v p := by
      rcases Int.lt_or_eq_of_le hi.1 with g | g
      · exact g
      · have := hi.on_uv hD g.symm; rw [f1] at this; cases this
    have p2 : 0 < tI v w p := by
      rcases Int.lt_or_eq_of_le hi.2.1 with g | g
      · exact g
      · have := hi.cyc.on_uv (by omega) g.symm; rw [f2] at this; cases this
    rcases Int.lt_or_eq_of_le hi.2.2 with p3 | p3
    · exact h.rho_in hR p1 p2 p3
    · have pu : p ≠ u := by intro q; subst q; rw [on_self'] at f1; cases f1
      have pw : p ≠ w := by intro q; subst q; rw [on_self] at f2; cases f2
      obtain ⟨K1, k1, j1⟩ := near_all (0, 0) (dd u w) hp
      obtain ⟨K2, k2, j2⟩ := near_side (dd u w) p1
      obtain ⟨K3, k3, j3⟩ := near_side (dd u w) p2
      obtain ⟨K, hK⟩ : ∃ K, K = K1 + K2 + K3 := ⟨_, rfl⟩
      have hK0 : 0 < K := by omega
      have N := j1 K (by omega)
      have S1 := j2 K (by omega)
      have S2 := j3 K (by omega)
      have S3 : 0 < tI (sc K w) (sc K u) (ad (sc K p) (dd u w)) := by
        rw [tI_neg, tI_ad]
        have : tI u w p = 0 := by have := tI_neg w u p; omega
        rw [this, Int.mul_zero, Int.zero_add]
        have := Int.mul_neg_of_pos_of_neg hK0 (dd_right (Ne.symm n5))
        omega
      have e1 : (v :: w :: r ++ [u]).map (sc K) = sc K v :: sc K w :: r.map (sc K) ++ [sc K u] := by simp
      have e2 : (w :: r ++ [u]).map (sc K) = sc K w :: r.map (sc K) ++ [sc K u] := by simp
      have hR' := hR.scaled hK0
      rw [e2] at hR'
      have := (h.scaled hK0).rho_in hR' S1 S2 S3
      rw [← wc_sc hK0 p]
      have same : wc (sc K p) ((v :: w :: r ++ [u]).map (sc K)) = wc (ad (sc K p) (dd u w)) ((v :: w :: r ++ [u]).map (sc K)) := by
        refine wc_same fun e he => ?_
        rw [edges_map] at he
        obtain ⟨f, hf, rfl⟩ := List.mem_map.1 he
        have := N f hf
        rwa [ad_zero] at this
      rw [same, e1]
      exact this
  · rw [wc_ear, wt_out hD hi, Int.zero_add]
    refine hR.at fun e he => ?_
    rw [edges_rest] at he
    rcases List.mem_append.1 he with g | g
    · exact hp e (by rw [edges_ear]; simp [g])
    · have : e = (u, w) := by simpa using g
      subst this
      exact on_uw hD hi

end

theorem Free.flip {a b p : Int × Int} {r s : List (Int × Int)} (h : Free p (a :: r ++ b :: s)) : Free p (b :: r.reverse ++ a :: s.reverse) := by
  intro e he
  have := h _ (mem_flip.1 he)
  simp only [sw] at this
  rw [onI_comm]; exact this

theorem Rho.flip {a b : Int × Int} {r s : List (Int × Int)} {ρ : Int} (h : Rho (a :: r ++ b :: s) ρ) : Rho (b :: r.reverse ++ a :: s.reverse) (-ρ) := by
  refine ⟨by have := h.1; omega, fun K hK p hp => ?_⟩
  have e1 : (b :: r.reverse ++ a :: s.reverse).map (sc K) = sc K b :: (r.map (sc K)).reverse ++ sc K a :: (s.map (sc K)).reverse := by simp
  have e2 : (a :: r ++ b :: s).map (sc K) = sc K a :: r.map (sc K) ++ sc K b :: s.map (sc K) := by simp
  rw [e1] at hp ⊢
  have hp' := hp.flip
  rw [List.reverse_reverse, List.reverse_reverse] at hp'
  have := h.2 K hK p (by rw [e2]; exact hp')
  rw [e2] at this
  rw [wc_flip]
  omega

theorem Tip.rho_all {u v w : Int × Int} {r : List (Int × Int)} {ρ : Int} (h : Tip u v w r) (hR : Rho (w :: r ++ [u]) ρ) : Rho (v :: w :: r ++ [u]) ρ := by
  refine ⟨hR.1, fun K hK p hp => ?_⟩
  have e1 : (v :: w :: r ++ [u]).map (sc K) = sc K v :: sc K w :: r.map (sc K) ++ [sc K u] := by simp
  have e2 : (w :: r ++ [u]).map (sc K) = sc K w :: r.map (sc K) ++ [sc K u] := by simp
  have hR' := hR.scaled hK
  rw [e2] at hR'
  rw [e1] at hp ⊢
  exact (h.scaled hK).rho hR' hp

/-- An ear, told the other way round. -/
theorem ear_flip {u v w : Int × Int} {r : List (Int × Int)} (hs : Simple (v :: w :: r ++ [u])) : Simple (v :: u :: r.reverse ++ [w]) := by
  have e1 : v :: w :: r ++ [u] = v :: (w :: r) ++ u :: [] := rfl
  rw [e1] at hs
  have := hs.flip
  have e2 : u :: (w :: r).reverse ++ v :: [].reverse = (u :: r.reverse ++ [w]) ++ [v] := by simp
  rw [e2] at this
  have := this.rot
  simpa using this

theorem ear_rho {u v w : Int × Int} {r : List (Int × Int)} {ρ : Int} (hs : Simple (v :: w :: r ++ [u])) (hr : r ≠ []) (hD : tI u v w ≠ 0) (free : ∀ x ∈ r, ¬ Tri u v w x) (hR : Rho (w :: r ++ [u]) ρ) : Rho (v :: w :: r ++ [u]) ρ := by
  have dr : tI w v u = - tI u v w := by unfold tI; grind
  rcases Int.lt_or_gt_of_ne hD with k | k
  · have tip : Tip w v u r.reverse := ⟨ear_flip hs, by simpa using hr, by omega, fun x hx hi => free x (by simpa using hx) (.inr hi)⟩
    have hR' : Rho (u :: r.reverse ++ [w]) (-ρ) := by
      have := Rho.flip (a := w) (b := u) (r := r) (s := []) hR
      simpa using this
    have := tip.rho_all hR'
    have h2 : Rho (w :: (u :: r.reverse).reverse ++ v :: [].reverse) (-(-ρ)) := Rho.flip (a := v) (b := w) (r := u :: r.reverse) (s := []) this
    have e3 : w :: (u :: r.reverse).reverse ++ v :: [].reverse = (w :: r ++ [u]) ++ [v] := by simp
    rw [e3, Int.neg_neg] at h2
    have := h2.rot
    simpa using this
  · exact (Tip.mk hs hr k fun x hx hi => free x hx (.inl hi)).rho_all hR

theorem tri_turn {u v w : Int × Int} (hs : Simple [u, v, w]) : tI u v w ≠ 0 := by
  intro h0
  have hn := hs.nodup
  simp only [List.nodup_cons, List.mem_cons, List.not_mem_nil, or_false, not_or] at hn
  obtain ⟨⟨n1, n2⟩, n3, _⟩ := hn
  have eQ : edges [u, v, w] = [(u, v), (v, w), (w, u)] := rfl
  rcases coll3 h0 with g | g | g
  · have q := hs.corner (e := (u, v)) (by rw [eQ]; simp) (x := w) (by simp) (Ne.symm n2) (Ne.symm n3)
    simp only at q; rw [g] at q; cases q
  · have q := hs.corner (e := (v, w)) (by rw [eQ]; simp) (x := u) (by simp) n1 n2
    simp only at q; rw [g] at q; cases q
  · have q := hs.corner (e := (w, u)) (by rw [eQ]; simp) (x := v) (by simp) n3 (Ne.symm n1)
    simp only at q; rw [g] at q; cases q

theorem tri_rho {u v w : Int × Int} (hD : 0 < tI u v w) : Rho [u, v, w] 1 := by
  refine ⟨.inl rfl, fun K hK p hp => ?_⟩
  have e : [u, v, w].map (sc K) = [sc K u, sc K v, sc K w] := rfl
  rw [e] at hp ⊢
  have hD' : 0 < tI (sc K u) (sc K v) (sc K w) := by rw [tI_sc]; exact (sc_sign hK).1.2 hD
  have dv := (tI_cyc (sc K u) (sc K v) (sc K w)).symm
  have dw := tI_cyc (sc K w) (sc K u) (sc K v)
  rw [wc_tri]
  have eQ : edges [sc K u, sc K v, sc K w] = [(sc K u, sc K v), (sc K v, sc K w), (sc K w, sc K u)] := rfl
  have k1 := hp (sc K u, sc K v) (by rw [eQ]; simp)
  have k2 := hp (sc K v, sc K w) (by rw [eQ]; simp)
  have k3 := hp (sc K w, sc K u) (by rw [eQ]; simp)
  simp only at k1 k2 k3
  by_cases hi : InT (sc K u) (sc K v) (sc K w) p
  · right
    refine wt_in hD' ?_ ?_ ?_
    · rcases Int.lt_or_eq_of_le hi.1 with g | g
      · exact g
      · have := hi.on_uv hD' g.symm; rw [k1] at this; cases this
    · rcases Int.lt_or_eq_of_le hi.2.1 with g | g
      · exact g
      · have := hi.cyc.on_uv (by omega) g.symm; rw [k2] at this; cases this
    · rcases Int.lt_or_eq_of_le hi.2.2 with g | g
      · exact g
      · have := hi.cyc.cyc.on_uv (by omega) g.symm; rw [k3] at this; cases this
  · left; exact wt_out hD' hi

theorem tri_rho' {u v w : Int × Int} (hD : tI u v w ≠ 0) : ∃ ρ, Rho [u, v, w] ρ := by
  rcases Int.lt_or_gt_of_ne hD with k | k
  · have dr : tI w v u = - tI u v w := by unfold tI; grind
    have := Rho.flip (a := w) (b := u) (r := [v]) (s := []) (tri_rho (u := w) (v := v) (w := u) (by omega))
    exact ⟨_, this⟩
  · exact ⟨_, tri_rho k⟩

/-- Every simple polygon goes round a point not at all or once, always the same way. -/
theorem rho_any : ∀ (n : Nat) (P : List (Int × Int)), P.length ≤ n → Simple P → ∃ ρ, Rho P ρ
  | 0, P, hl, hP => by have := hP.three; omega
  | n + 1, P, hl, hP => by
    by_cases h4 : 4 ≤ P.length
    · obtain ⟨u, v, w, r, hr, ⟨l, m, e1, e2⟩, hD, free⟩ := ear_any hP h4
      have hs : Simple (v :: w :: r ++ [u]) := by rw [e2]; rw [e1] at hP; exact hP.rot
      have hl' : (w :: r ++ [u]).length ≤ n := by
        have := congrArg List.length e2
        rw [e1] at hl
        simp at this hl ⊢; omega
      obtain ⟨ρ, hR⟩ := rho_any n (w :: r ++ [u]) hl' (clip hs hr hD free)
      refine ⟨ρ, ?_⟩
      have := ear_rho hs hr hD free hR
      rw [e2] at this
      rw [e1]; exact this.rot
    · have h3 := hP.three
      match P, h3, h4, hP with
      | [u, v, w], _, _, hP => exact tri_rho' (tri_turn hP)
      | [], h3, _, _ => simp at h3
      | [_], h3, _, _ => simp at h3
      | [_, _], h3, _, _ => simp at h3
      | _ :: _ :: _ :: _ :: _, _, h4, _ => simp at h4

theorem Simple.rho {P : List (Int × Int)} (h : Simple P) : ∃ ρ, Rho P ρ := rho_any _ P (Nat.le_refl _) h
end

section
set_option linter.unusedVariables false

theorem ng_cx (a b d : Int × Int) : cx a b (ng d) = - cx a b d := by unfold cx ng; grind

/-- To the left and to the right of an edge. -/
theorem sides {u w : Int × Int} {r : List (Int × Int)} {ρ : Int} (hs : Simple (w :: r ++ [u])) (hR : Rho (w :: r ++ [u]) ρ) {x : Int × Int} (hx : onI u w x = true) (hxu : x ≠ u) (hxw : x ≠ w) :
    ∃ K0 : Int, 0 < K0 ∧ ∀ K, K0 ≤ K → Free (ad (sc K x) (dd u w)) ((w :: r ++ [u]).map (sc K)) ∧ Free (ad (sc K x) (ng (dd u w))) ((w :: r ++ [u]).map (sc K)) ∧
      ((ρ = 1 ∧ wc (ad (sc K x) (dd u w)) ((w :: r ++ [u]).map (sc K)) = 0 ∧ wc (ad (sc K x) (ng (dd u w))) ((w :: r ++ [u]).map (sc K)) = 1) ∨
       (ρ = -1 ∧ wc (ad (sc K x) (dd u w)) ((w :: r ++ [u]).map (sc K)) = -1 ∧ wc (ad (sc K x) (ng (dd u w))) ((w :: r ++ [u]).map (sc K)) = 0)) := by
  have uw : u ≠ w := hs.ne (last_mem u w r)
  have lo := last_open hs hx hxu hxw
  obtain ⟨K1, k1, j1⟩ := jump uw hx hxu hxw lo
  obtain ⟨K2, k2, j2⟩ := near_all (dd u w) (ng (dd u w)) lo
  refine ⟨K1 + K2, by omega, fun K hK => ?_⟩
  have hK0 : 0 < K := by omega
  have J := j1 K (by omega)
  have N := j2 K (by omega)
  have tx : tI u w x = 0 := ((onI_iff _ _ _).1 hx).1
  have dr := dd_right uw
  have T1 : tI (sc K u) (sc K w) (ad (sc K x) (dd u w)) < 0 := by
    rw [tI_ad, tx, Int.mul_zero, Int.zero_add]
    exact Int.mul_neg_of_pos_of_neg hK0 dr
  have T2 : 0 < tI (sc K u) (sc K w) (ad (sc K x) (ng (dd u w))) := by
    rw [tI_ad, tx, Int.mul_zero, Int.zero_add, ng_cx]
    exact Int.mul_pos hK0 (by omega)
  have edge : ∀ e ∈ edges ((w :: r ++ [u]).map (sc K)), e = (sc K u, sc K w) ∨ Off (ad (sc K x) (dd u w)) (ad (sc K x) (ng (dd u w))) e.1 e.2 := by
    intro e he
    rw [edges_map] at he
    obtain ⟨f, hf, rfl⟩ := List.mem_map.1 he
    rw [edges_rest] at hf
    rcases List.mem_append.1 hf with g | g
    · exact .inr (N f g)
    · left
      have : f = (u, w) := by simpa using g
      rw [this]
  have F1 : Free (ad (sc K x) (dd u w)) ((w :: r ++ [u]).map (sc K)) := by
    intro e he
    rcases edge e he with g | g
    · subst g
      simp only
      cases q : onI (sc K u) (sc K w) (ad (sc K x) (dd u w)) with
      | false => rfl
      | true => have := ((onI_iff _ _ _).1 q).1; omega
    · exact g.ap
  have F2 : Free (ad (sc K x) (ng (dd u w))) ((w :: r ++ [u]).map (sc K)) := by
    intro e he
    rcases edge e he with g | g
    · subst g
      simp only
      cases q : onI (sc K u) (sc K w) (ad (sc K x) (ng (dd u w))) with
      | false => rfl
      | true => have := ((onI_iff _ _ _).1 q).1; omega
    · exact g.aq
  refine ⟨F1, F2, ?_⟩
  have R1 := hR.2 _ hK0 _ F1
  have R2 := hR.2 _ hK0 _ F2
  have := hR.1
  omega

def md (u w : Int × Int) : Int × Int := (u.1 + w.1, u.2 + w.2)

theorem md_on (u w : Int × Int) : onI (sc 2 u) (sc 2 w) (md u w) = true := by
  unfold md
  rw [onI_iff]
  refine ⟨by unfold tI sc; grind, ?_, ?_⟩
  · have e : ((sc 2 u).1 - (u.1 + w.1)) * ((sc 2 w).1 - (u.1 + w.1)) = -((u.1 - w.1) * (u.1 - w.1)) := by unfold sc; grind
    have := sq_nonneg (u.1 - w.1); simp only at *; omega
  · have e : ((sc 2 u).2 - (u.2 + w.2)) * ((sc 2 w).2 - (u.2 + w.2)) = -((u.2 - w.2) * (u.2 - w.2)) := by unfold sc; grind
    have := sq_nonneg (u.2 - w.2); simp only at *; omega

theorem md_ne {u w : Int × Int} (h : u ≠ w) : md u w ≠ sc 2 u ∧ md u w ≠ sc 2 w := by
  have : u.1 ≠ w.1 ∨ u.2 ≠ w.2 := by
    apply Classical.byContradiction; intro q
    exact h (Prod.ext (by omega) (by omega))
  refine ⟨fun q => ?_, fun q => ?_⟩
  all_goals
    have q1 := congrArg Prod.fst q
    have q2 := congrArg Prod.snd q
    simp only [md, sc] at q1 q2
    omega

theorem ends_of {P : List (Int × Int)} (h : 2 ≤ P.length) : ∃ w r u, P = w :: r ++ [u] := by
  match P, h with
  | a :: b :: t, _ =>
    obtain ⟨r, u, e⟩ := snoc_of_ne (show b :: t ≠ [] by simp)
    exact ⟨a, r, u, by rw [e]; rfl⟩
  | [], h => simp at h
  | [_], h => simp at h

theorem map_last (K : Int) (u w : Int × Int) (r : List (Int × Int)) : (w :: r ++ [u]).map (sc K) = sc K w :: r.map (sc K) ++ [sc K u] := by simp

/-- It goes round one way. -/
theorem Rho.unique {P : List (Int × Int)} {ρ ρ' : Int} (hs : Simple P) (h : Rho P ρ) (h' : Rho P ρ') : ρ = ρ' := by
  obtain ⟨w, r, u, rfl⟩ := ends_of (show 2 ≤ P.length by have := hs.three; omega)
  have h20 : (0 : Int) < 2 := by decide
  have uw : u ≠ w := hs.ne (last_mem u w r)
  have ne := md_ne uw
  have s2 := hs.sc h20
  have r2 := h.scaled h20
  have r2' := h'.scaled h20
  rw [map_last] at s2 r2 r2'
  obtain ⟨K1, k1, j1⟩ := sides s2 r2 (md_on u w) ne.1 ne.2
  obtain ⟨K2, k2, j2⟩ := sides s2 r2' (md_on u w) ne.1 ne.2
  obtain ⟨_, _, a⟩ := j1 (K1 + K2) (by omega)
  obtain ⟨_, _, b⟩ := j2 (K1 + K2) (by omega)
  omega

section
variable {u v w : Int × Int} {r : List (Int × Int)}

/-- The rest of a polygon goes round as it does. -/
theorem Tip.rho_rest {ρ : Int} (h : Tip u v w r) (hR : Rho (v :: w :: r ++ [u]) ρ) : Rho (w :: r ++ [u]) ρ := by
  obtain ⟨ρ', h'⟩ := h.clip.rho
  have := Rho.unique h.simple hR (h.rho_all h')
  rw [this]; exact h'

theorem Tip.region_in (h : Tip u v w r) (hR : Rho (v :: w :: r ++ [u]) 1) {p : Int × Int} (p1 : 0 < tI u v p) (p2 : 0 < tI v w p) (p3 : 0 < tI w u p) : wc p (v :: w :: r ++ [u]) = 1 := by
  rw [wc_ear, wt_in h.turn p1 p2 p3]
  have := h.const (h.rho_rest hR) p1 p2 p3
  omega

/-- The triangle of an ear lies within. -/
theorem Tip.region (h : Tip u v w r) (hR : Rho (v :: w :: r ++ [u]) 1) {p : Int × Int} (hp : Free p (v :: w :: r ++ [u])) (hi : InT u v w p) : wc p (v :: w :: r ++ [u]) = 1 := by
  obtain ⟨n1, n2, n3, n4, n5, n6, n7⟩ := h.nd
  have hD := h.turn
  have dv : tI v w u = tI u v w := (tI_cyc u v w).symm
  have dw : tI w u v = tI u v w := tI_cyc w u v
  have mvw : (v, w) ∈ edges (v :: w :: r ++ [u]) := by rw [edges_ear]; simp
  have muv : (u, v) ∈ edges (v :: w :: r ++ [u]) := by rw [edges_ear]; simp
  have f1 := hp _ muv
  have f2 := hp _ mvw
  simp only at f1 f2
  have p1 : 0 < tI u v p := by
    rcases Int.lt_or_eq_of_le hi.1 with g | g
    · exact g
    · have := hi.on_uv hD g.symm; rw [f1] at this; cases this
  have p2 : 0 < tI v w p := by
    rcases Int.lt_or_eq_of_le hi.2.1 with g | g
    · exact g
    · have := hi.cyc.on_uv (by omega) g.symm; rw [f2] at this; cases this
  rcases Int.lt_or_eq_of_le hi.2.2 with p3 | p3
  · exact h.region_in hR p1 p2 p3
  · obtain ⟨K1, k1, j1⟩ := near_all (0, 0) (dd u w) hp
    obtain ⟨K2, k2, j2⟩ := near_side (dd u w) p1
    obtain ⟨K3, k3, j3⟩ := near_side (dd u w) p2
    obtain ⟨K, hK⟩ : ∃ K, K = K1 + K2 + K3 := ⟨_, rfl⟩
    have hK0 : 0 < K := by omega
    have N := j1 K (by omega)
    have S1 := j2 K (by omega)
    have S2 := j3 K (by omega)
    have S3 : 0 < tI (sc K w) (sc K u) (ad (sc K p) (dd u w)) := by
      rw [tI_neg, tI_ad]
      have : tI u w p = 0 := by have := tI_neg w u p; omega
      rw [this, Int.mul_zero, Int.zero_add]
      have := Int.mul_neg_of_pos_of_neg hK0 (dd_right (Ne.symm n5))
      omega
    have e1 : (v :: w :: r ++ [u]).map (sc K) = sc K v :: sc K w :: r.map (sc K) ++ [sc K u] := by simp
    have hR' := hR.scaled hK0
    rw [e1] at hR'
    have := (h.scaled hK0).region_in hR' S1 S2 S3
    rw [← wc_sc hK0 p]
    have same : wc (sc K p) ((v :: w :: r ++ [u]).map (sc K)) = wc (ad (sc K p) (dd u w)) ((v :: w :: r ++ [u]).map (sc K)) := by
      refine wc_same fun e he => ?_
      rw [edges_map] at he
      obtain ⟨f, hf, rfl⟩ := List.mem_map.1 he
      have := N f hf
      rwa [ad_zero] at this
    rw [same, e1]
    exact this

end
end

section
set_option linter.unusedVariables false

/-- A polygon cut in two by a line (from qk to q0) that meets nothing. -/
structure Link (q0 : Int × Int) (c : List (Int × Int)) (qk : Int × Int) (o : List (Int × Int)) : Prop where
  simple : Simple (q0 :: c ++ qk :: o)
  some : c ≠ []
  shut : ∀ e ∈ edges (q0 :: c ++ qk :: o), Clean qk q0 e.1 e.2
  others : o ≠ []

section
variable {q0 qk : Int × Int} {c o : List (Int × Int)}

theorem Link.edge_in (h : Link q0 c qk o) {e : (Int × Int) × (Int × Int)} (he : e ∈ path q0 (c ++ [qk])) : e ∈ edges (q0 :: c ++ qk :: o) := by
  rw [edges_two]; exact List.mem_append_left _ he

theorem Link.edge_out (h : Link q0 c qk o) {e : (Int × Int) × (Int × Int)} (he : e ∈ path qk (o ++ [q0])) : e ∈ edges (q0 :: c ++ qk :: o) := by
  rw [edges_two]; exact List.mem_append_right _ he

theorem Link.apart (h : Link q0 c qk o) {x y : Int × Int} (hx : x ∈ q0 :: c ++ [qk]) (hy : y ∈ o) : x ≠ y := by
  have hn := h.simple.nodup
  have e : q0 :: c ++ qk :: o = (q0 :: c ++ [qk]) ++ o := by simp
  rw [e, List.nodup_append] at hn
  exact hn.2.2 x hx y hy

theorem Link.poly (h : Link q0 c qk o) : Simple (q0 :: c ++ [qk]) := by
  have e : q0 :: c ++ qk :: o = (q0 :: c ++ [qk]) ++ o := by simp
  have hn := h.simple.nodup
  rw [e, List.nodup_append] at hn
  have he : edges (q0 :: c ++ [qk]) = path q0 (c ++ [qk]) ++ [(qk, q0)] := edges_rest qk q0 c
  refine ⟨hn.1, ?_, ?_⟩
  · have := h.some
    cases c with
    | nil => exact absurd rfl this
    | cons a t => simp
  · intro e1 h1 f1 h2 hne
    rw [he] at h1 h2
    simp only [List.mem_append, List.mem_cons, List.not_mem_nil, or_false] at h1 h2
    rcases h1 with h1 | h1 <;> rcases h2 with h2 | h2
    · exact h.simple.clean _ (h.edge_in h1) _ (h.edge_in h2) hne
    · subst h2; exact (h.shut _ (h.edge_in h1)).swap
    · subst h1; exact h.shut _ (h.edge_in h2)
    · subst h1; subst h2; exact absurd rfl hne

theorem Link.out_off (h : Link q0 c qk o) {e : (Int × Int) × (Int × Int)} (he : e ∈ edges (q0 :: c ++ qk :: o)) (h1 : e.1 ∈ o) (h2 : e.2 ∈ o) {f : (Int × Int) × (Int × Int)} (hf : f ∈ edges (q0 :: c ++ [qk])) : Off e.1 e.2 f.1 f.2 := by
  have m := edges_mem hf
  have a1 := h.apart m.1 h1
  have a2 := h.apart m.1 h2
  have a3 := h.apart m.2 h1
  have a4 := h.apart m.2 h2
  rw [edges_rest qk q0 c] at hf
  simp only [List.mem_append, List.mem_cons, List.not_mem_nil, or_false] at hf
  rcases hf with hf | hf
  · exact (h.simple.clean _ he _ (h.edge_in hf) (fun q => a1 (by rw [q]))).off (Ne.symm a1) (Ne.symm a3) (Ne.symm a2) (Ne.symm a4)
  · subst hf
    exact ((h.shut _ he).off a1 a2 a3 a4).swap

theorem Link.in_list (h : Link q0 c qk o) {x : Int × Int} (hx : x ∈ q0 :: c ++ [qk]) : x ∈ q0 :: c ++ qk :: o := by
  simp only [List.cons_append, List.mem_cons, List.mem_append, List.not_mem_nil, or_false] at hx ⊢
  rcases hx with g | g | g
  · exact .inl g
  · exact .inr (.inl g)
  · exact .inr (.inr (.inl g))

theorem Link.out_on (h : Link q0 c qk o) {f : (Int × Int) × (Int × Int)} (hf : f ∈ edges (q0 :: c ++ [qk])) {y : Int × Int} (hy : y ∈ o) : onI f.1 f.2 y = false := by
  have m := edges_mem hf
  have a1 := h.apart m.1 hy
  have a2 := h.apart m.2 hy
  have hyP : y ∈ q0 :: c ++ qk :: o := by simp [hy]
  rw [edges_rest qk q0 c] at hf
  simp only [List.mem_append, List.mem_cons, List.not_mem_nil, or_false] at hf
  rcases hf with hf | hf
  · exact h.simple.corner (h.edge_in hf) hyP (Ne.symm a1) (Ne.symm a2)
  · subst hf
    obtain ⟨z, hz⟩ := begins hyP
    exact (h.shut _ hz).oc (Ne.symm a1) (Ne.symm a2)

theorem Link.mixed (h : Link q0 c qk o) {e : (Int × Int) × (Int × Int)} (he : e ∈ path qk (o ++ [q0])) (hne : e.1 ∈ o ∨ e.2 ∈ o) {f : (Int × Int) × (Int × Int)} (hf : f ∈ edges (q0 :: c ++ [qk])) : Clean e.1 e.2 f.1 f.2 := by
  have m := edges_mem hf
  rw [edges_rest qk q0 c] at hf
  simp only [List.mem_append, List.mem_cons, List.not_mem_nil, or_false] at hf
  rcases hf with hf | hf
  · refine h.simple.clean _ (h.edge_out he) _ (h.edge_in hf) ?_
    intro q
    rcases hne with g | g
    · exact h.apart m.1 g (by rw [q])
    · exact h.apart m.2 g (by rw [q])
  · subst hf; exact (h.shut _ (h.edge_out he)).swap

theorem Link.out_same (h : Link q0 c qk o) {K : Int} (hK : 0 < K) {a b : Int × Int} (ha : a ∈ o) (hab : a ≠ b) (hc : ∀ f ∈ edges (q0 :: c ++ [qk]), Clean a b f.1 f.2) {x : Int × Int} (hx : onI (sc K a) (sc K b) x = true) (hxb : x ≠ sc K b ∨ b ∈ o) : ∀ f ∈ edges (q0 :: c ++ [qk]), Off (sc K a) x (sc K f.1) (sc K f.2) := by
  intro f hf
  have m := edges_mem hf
  have n1 := h.apart m.1 ha
  have n2 := h.apart m.2 ha
  have hfn := h.poly.ne hf
  have cl := hc f hf
  have sab := sc_ne hK hab
  by_cases g1 : b = f.1
  · have nb : b ∉ o := fun hb => h.apart m.1 hb g1.symm
    have hx' : x ≠ sc K b := hxb.elim id (fun hb => absurd hb nb)
    have o1 : onI a b f.2 = false := cl.od (Ne.symm (Ne.symm n2)) (by rw [g1]; exact Ne.symm hfn)
    have o2 : onI b f.2 a = false := by
      have := cl.oa (Ne.symm n1) (Ne.symm n2)
      rw [← g1] at this; exact this
    have := share_off sab (sc_ne hK (by rw [g1]; exact hfn : b ≠ f.2)) (by rw [onI_sc hK]; exact o1) (by rw [onI_sc hK]; exact o2) hx hx'
    rw [← g1]; exact this
  · by_cases g2 : b = f.2
    · have nb : b ∉ o := fun hb => h.apart m.2 hb g2.symm
      have hx' : x ≠ sc K b := hxb.elim id (fun hb => absurd hb nb)
      have o1 : onI a b f.1 = false := cl.oc (Ne.symm (Ne.symm n1)) (Ne.symm g1)
      have o2 : onI b f.1 a = false := by
        have := cl.oa (Ne.symm n1) (Ne.symm n2)
        rw [onI_comm, ← g2] at this; exact this
      have := share_off sab (sc_ne hK g1) (by rw [onI_sc hK]; exact o1) (by rw [onI_sc hK]; exact o2) hx hx'
      rw [← g2]; exact this.rev2
    · have := (cl.off (Ne.symm n1) (Ne.symm n2) g1 g2).sc hK
      exact sub_off sab (sc_ne hK hfn) this hx

/-- The other part. -/
theorem Link.other (h : Link q0 c qk o) : Link qk o q0 c := by
  have e1 : q0 :: c ++ qk :: o = (q0 :: c) ++ (qk :: o) := rfl
  have e2 : qk :: o ++ q0 :: c = (qk :: o) ++ (q0 :: c) := rfl
  refine ⟨?_, h.others, fun e he => ?_, h.some⟩
  · have := h.simple; rw [e1] at this; rw [e2]; exact this.rot
  · rw [e2] at he
    exact (h.shut e (by rw [e1]; exact (edges_rot _ _).mem_iff.2 he)).rev1

theorem dd_sw {u w : Int × Int} (h : u ≠ w) : dd w u = ng (dd u w) := by
  unfold dd
  by_cases h1 : u.2 < w.2
  · rw [if_neg (show ¬ w.2 < u.2 by omega), if_pos h1, if_pos h1]; rfl
  · by_cases h2 : w.2 < u.2
    · rw [if_pos h2, if_neg h1, if_pos h2]; rfl
    · rw [if_neg h2, if_neg h1, if_neg h1, if_neg h2]
      by_cases h3 : u.1 < w.1
      · rw [if_neg (show ¬ w.1 < u.1 by omega), if_pos h3]; rfl
      · have h4 : w.1 < u.1 := by
          have : u.1 ≠ w.1 := fun q => h (Prod.ext q (by omega))
          omega
        rw [if_pos h4, if_neg h3]; rfl

theorem Link.ne (h : Link q0 c qk o) : qk ≠ q0 := h.poly.ne (last_mem qk q0 c)

/-- The line's points are on no edge. -/
theorem Link.open (h : Link q0 c qk o) {x : Int × Int} (hx : onI qk q0 x = true) (h1 : x ≠ qk) (h2 : x ≠ q0) : Free x (q0 :: c ++ qk :: o) := by
  intro e he
  rw [edges_two] at he
  rcases List.mem_append.1 he with g | g
  · exact last_open h.poly hx h1 h2 e g
  · exact last_open h.other.poly (by rw [onI_comm]; exact hx) h2 h1 e g

theorem Link.scaled (h : Link q0 c qk o) {K : Int} (hK : 0 < K) : Link (sc K q0) (c.map (sc K)) (sc K qk) (o.map (sc K)) := by
  have e1 : sc K q0 :: c.map (sc K) ++ sc K qk :: o.map (sc K) = (q0 :: c ++ qk :: o).map (sc K) := by simp
  refine ⟨by rw [e1]; exact h.simple.sc hK, by simpa using h.some, fun e he => ?_, by simpa using h.others⟩
  rw [e1, edges_map] at he
  obtain ⟨f, hf, rfl⟩ := List.mem_map.1 he
  exact (h.shut f hf).sc hK

/-- Cut along a line that lies within, both parts go round as the whole. -/
theorem Link.parts {ρ : Int} (h : Link q0 c qk o) (hR : Rho (q0 :: c ++ qk :: o) ρ)
    (rd : ∀ K : Int, 0 < K → ∀ x, onI (sc K qk) (sc K q0) x = true → x ≠ sc K qk → x ≠ sc K q0 → wc x ((q0 :: c ++ qk :: o).map (sc K)) ≠ 0) : Rho (q0 :: c ++ [qk]) ρ ∧ Rho (qk :: o ++ [q0]) ρ := by
  have h20 : (0 : Int) < 2 := by decide
  obtain ⟨ρ1, r1⟩ := h.poly.rho
  obtain ⟨ρ2, r2⟩ := h.other.poly.rho
  have ne := md_ne h.ne
  have on := md_on qk q0
  have l2 := h.scaled h20
  have eP : (q0 :: c ++ qk :: o).map (sc 2) = sc 2 q0 :: c.map (sc 2) ++ sc 2 qk :: o.map (sc 2) := by simp
  have s1 := r1.scaled h20
  have s2 := r2.scaled h20
  have sP := hR.scaled h20
  rw [map_last] at s1 s2
  rw [eP] at sP
  have fr := l2.open on ne.1 ne.2
  obtain ⟨K1, k1, j1⟩ := sides l2.poly s1 on ne.1 ne.2
  obtain ⟨K2, k2, j2⟩ := sides l2.other.poly s2 (by rw [onI_comm]; exact on) ne.2 ne.1
  obtain ⟨K3, k3, j3⟩ := near_all (0, 0) (dd (sc 2 qk) (sc 2 q0)) fr
  obtain ⟨K, hK⟩ : ∃ K, K = K1 + K2 + K3 := ⟨_, rfl⟩
  have hK0 : 0 < K := by omega
  obtain ⟨a1, a2, a3⟩ := j1 K (by omega)
  obtain ⟨b1, b2, b3⟩ := j2 K (by omega)
  have N := j3 K (by omega)
  rw [dd_sw l2.ne, ng_ng] at b3
  have v0 := rd 2 h20 _ on ne.1 ne.2
  rw [eP, ← wc_sc hK0] at v0
  have same : wc (sc K (md qk q0)) ((sc 2 q0 :: c.map (sc 2) ++ sc 2 qk :: o.map (sc 2)).map (sc K)) = wc (ad (sc K (md qk q0)) (dd (sc 2 qk) (sc 2 q0))) ((sc 2 q0 :: c.map (sc 2) ++ sc 2 qk :: o.map (sc 2)).map (sc K)) := by
    refine wc_same fun e he => ?_
    rw [edges_map] at he
    obtain ⟨f, hf, rfl⟩ := List.mem_map.1 he
    have := N f hf
    rwa [ad_zero] at this
  have free : Free (ad (sc K (md qk q0)) (dd (sc 2 qk) (sc 2 q0))) ((sc 2 q0 :: c.map (sc 2) ++ sc 2 qk :: o.map (sc 2)).map (sc K)) := by
    intro e he
    rw [edges_map] at he
    obtain ⟨f, hf, rfl⟩ := List.mem_map.1 he
    exact (N f hf).aq
  have val := sP.2 K hK0 _ free
  rw [same] at v0
  have eS : ∀ y, wc y ((sc 2 q0 :: c.map (sc 2) ++ sc 2 qk :: o.map (sc 2)).map (sc K)) = wc y ((sc 2 q0 :: c.map (sc 2) ++ [sc 2 qk]).map (sc K)) + wc y ((sc 2 qk :: o.map (sc 2) ++ [sc 2 q0]).map (sc K)) := by
    intro y
    have := wc_split y (sc K (sc 2 q0)) (sc K (sc 2 qk)) ((c.map (sc 2)).map (sc K)) ((o.map (sc 2)).map (sc K))
    simpa using this
  rw [eS] at v0 val
  have : ρ1 = ρ ∧ ρ2 = ρ := by omega
  exact ⟨this.1 ▸ r1, this.2 ▸ r2⟩

theorem path_at {e : (Int × Int) × (Int × Int)} : ∀ {a : Int × Int} {s : List (Int × Int)}, e ∈ path a s → ∃ s1 s2, a :: s = s1 ++ e.1 :: e.2 :: s2
  | a, [], h => by simp [path] at h
  | a, b :: s, h => by
    simp only [path, List.mem_cons] at h
    rcases h with h | h
    · subst h; exact ⟨[], s, rfl⟩
    · obtain ⟨s1, s2, e'⟩ := path_at h
      exact ⟨a :: s1, s2, by rw [e']; rfl⟩

/-- Any edge can be told as the last one. -/
theorem edge_last {l : List (Int × Int)} {e : (Int × Int) × (Int × Int)} (hl : 2 ≤ l.length) (h : e ∈ edges l) : ∃ l1 l2 r, l = l1 ++ l2 ∧ l2 ++ l1 = e.2 :: r ++ [e.1] := by
  cases l with
  | nil => simp at hl
  | cons a t =>
    have h' : e ∈ path a (t ++ [a]) := h
    obtain ⟨s1, s2, q⟩ := path_at h'
    rcases List.eq_nil_or_concat s2 with g | ⟨s3, z, g⟩
    · subst g
      have q' : (a :: t) ++ [a] = (s1 ++ [e.1]) ++ [e.2] := by simpa using q
      obtain ⟨q1, q2⟩ := List.append_inj' q' rfl
      have q2 : a = e.2 := by simpa using q2
      cases s1 with
      | nil =>
        have := congrArg List.length q1
        simp at this hl
        rw [this] at hl; simp at hl
      | cons b s =>
        have hb : a = b := by have := q1; simp at this; exact this.1
        refine ⟨[], a :: t, s, by simp, ?_⟩
        rw [List.append_nil, q1, ← q2, hb]
    · rw [List.concat_eq_append] at g
      subst g
      have q' : (a :: t) ++ [a] = (s1 ++ e.1 :: e.2 :: s3) ++ [z] := by simpa using q
      obtain ⟨q1, q2⟩ := List.append_inj' q' rfl
      exact ⟨s1 ++ [e.1], e.2 :: s3, s3 ++ s1, by rw [q1]; simp, by simp⟩

/-- Neither part goes round a corner of the other. -/
theorem Link.none {ρ : Int} (h : Link q0 c qk o) (hR : Rho (q0 :: c ++ qk :: o) ρ) (r1 : Rho (q0 :: c ++ [qk]) ρ) (r2 : Rho (qk :: o ++ [q0]) ρ) : ∀ y ∈ o, wc y (q0 :: c ++ [qk]) = 0 := by
  intro y hy
  have h20 : (0 : Int) < 2 := by decide
  have fy : Free y (q0 :: c ++ [qk]) := fun f hf => h.out_on hf hy
  rcases r1.at fy with g | bad
  · exact g
  exfalso
  obtain ⟨y', hy'⟩ := begins (show y ∈ qk :: o ++ [q0] by simp [hy])
  have yq0 : q0 ≠ y := h.apart (by simp) hy
  have hpath : (y, y') ∈ path qk (o ++ [q0]) := by
    have := hy'
    rw [edges_rest] at this
    rcases List.mem_append.1 this with g | g
    · exact g
    · have : (y, y') = (q0, qk) := by simpa using g
      exact absurd (congrArg Prod.fst this).symm yq0
  have hne : y ≠ y' := h.other.poly.ne hy'
  have mix : ∀ f ∈ edges (q0 :: c ++ [qk]), Clean y y' f.1 f.2 := fun f hf => h.mixed hpath (.inl hy) hf
  have ne := md_ne hne
  have on := md_on y y'
  have offs := h.out_same h20 hy hne mix on (.inl ne.2)
  obtain ⟨l1, l2, t, e1, e2⟩ := edge_last (by simp) hy'
  simp only at e2
  have sR : Simple (y' :: t ++ [y]) := by rw [← e2]; have := h.other.poly; rw [e1] at this; exact this.rot
  have rR : Rho (y' :: t ++ [y]) ρ := by rw [← e2]; rw [e1] at r2; exact r2.rot
  have sR2 := sR.sc h20
  have rR2 := rR.scaled h20
  rw [map_last] at sR2 rR2
  obtain ⟨K1, k1, j1⟩ := sides sR2 rR2 on ne.1 ne.2
  have fQ : ∀ e ∈ edges ((q0 :: c ++ [qk]).map (sc 2)), onI e.1 e.2 (md y y') = false := by
    intro e he
    rw [edges_map] at he
    obtain ⟨f, hf, rfl⟩ := List.mem_map.1 he
    exact (offs f hf).aq
  have vQ : wc (md y y') ((q0 :: c ++ [qk]).map (sc 2)) = ρ := by
    rw [← bad, ← wc_sc h20 y]
    refine (wc_same fun e he => ?_).symm
    rw [edges_map] at he
    obtain ⟨f, hf, rfl⟩ := List.mem_map.1 he
    exact offs f hf
  obtain ⟨K2, k2, j2⟩ := near_all (0, 0) (dd (sc 2 y) (sc 2 y')) fQ
  obtain ⟨K3, k3, j3⟩ := near_all (0, 0) (ng (dd (sc 2 y) (sc 2 y'))) fQ
  obtain ⟨K, hK⟩ : ∃ K, K = K1 + K2 + K3 := ⟨_, rfl⟩
  have hK0 : 0 < K := by omega
  obtain ⟨a1, a2, a3⟩ := j1 K (by omega)
  have N2 := j2 K (by omega)
  have N3 := j3 K (by omega)
  have two : ∃ z, wc z (((y' :: t ++ [y]).map (sc 2)).map (sc K)) = ρ ∧ Free z (((y' :: t ++ [y]).map (sc 2)).map (sc K)) ∧ ∀ e ∈ edges ((q0 :: c ++ [qk]).map (sc 2)), Off (sc K (md y y')) z (sc K e.1) (sc K e.2) := by
    rw [map_last 2]
    rcases a3 with ⟨g1, g2, g3⟩ | ⟨g1, g2, g3⟩
    · exact ⟨_, by rw [g3, g1], a2, fun e he => by have := N3 e he; rwa [ad_zero] at this⟩
    · exact ⟨_, by rw [g2, g1], a1, fun e he => by have := N2 e he; rwa [ad_zero] at this⟩
  obtain ⟨z, z1, z2, z3⟩ := two
  have hK2 : 0 < K * 2 := by omega
  rw [map_sc] at z1 z2
  have w1 : wc z ((q0 :: c ++ [qk]).map (sc (K * 2))) = ρ := by
    rw [← vQ, ← wc_sc hK0 (md y y'), map_sc]
    refine (wc_same fun e he => ?_).symm
    rw [← map_sc, edges_map] at he
    obtain ⟨f, hf, rfl⟩ := List.mem_map.1 he
    exact z3 f hf
  have f1 : Free z ((q0 :: c ++ [qk]).map (sc (K * 2))) := by
    intro e he
    rw [← map_sc, edges_map] at he
    obtain ⟨f, hf, rfl⟩ := List.mem_map.1 he
    exact (z3 f hf).aq
  have w2 : wc z ((qk :: o ++ [q0]).map (sc (K * 2))) = ρ := by
    rw [← e2, List.map_append, wc_rot, ← List.map_append, ← e1] at z1
    exact z1
  have f2 : Free z ((qk :: o ++ [q0]).map (sc (K * 2))) := by
    rw [← e2, List.map_append] at z2
    have := z2.rot
    rw [← List.map_append, ← e1] at this
    exact this
  have eS : wc z ((q0 :: c ++ qk :: o).map (sc (K * 2))) = wc z ((q0 :: c ++ [qk]).map (sc (K * 2))) + wc z ((qk :: o ++ [q0]).map (sc (K * 2))) := by
    have := wc_split z (sc (K * 2) q0) (sc (K * 2) qk) (c.map (sc (K * 2))) (o.map (sc (K * 2)))
    simpa using this
  have fP : Free z ((q0 :: c ++ qk :: o).map (sc (K * 2))) := by
    intro e he
    rw [edges_map] at he
    obtain ⟨f, hf, rfl⟩ := List.mem_map.1 he
    rw [edges_two] at hf
    rcases List.mem_append.1 hf with g | g
    · exact f1 _ (by rw [edges_map]; exact List.mem_map.2 ⟨f, last_in g, rfl⟩)
    · exact f2 _ (by rw [edges_map]; exact List.mem_map.2 ⟨f, last_in g, rfl⟩)
  have := hR.2 _ hK2 z fP
  have := hR.1
  omega

end
end

section
set_option linter.unusedVariables false

/-- An ear within, whose tip is neither the first nor the last corner. -/
def EarP (P : List (Int × Int)) : Prop := ∃ l a x b m, P = l ++ a :: x :: b :: m ∧ 0 < tI a x b ∧ ∀ y ∈ l ++ m, ¬ InT a x b y

theorem strict_in {a x b y : Int × Int} (pos : 0 < tI a x b) (hi : InT a x b y) (k1 : onI a x y = false) (k2 : onI x b y = false) (k3 : onI b a y = false) : 0 < tI a x y ∧ 0 < tI x b y ∧ 0 < tI b a y := by
  have dv := (tI_cyc a x b).symm
  have dw := tI_cyc b a x
  refine ⟨?_, ?_, ?_⟩
  · rcases Int.lt_or_eq_of_le hi.1 with g | g
    · exact g
    · have := hi.on_uv pos g.symm; rw [k1] at this; cases this
  · rcases Int.lt_or_eq_of_le hi.2.1 with g | g
    · exact g
    · have := hi.cyc.on_uv (by omega) g.symm; rw [k2] at this; cases this
  · rcases Int.lt_or_eq_of_le hi.2.2 with g | g
    · exact g
    · have := hi.cyc.cyc.on_uv (by omega) g.symm; rw [k3] at this; cases this

theorem ear_out {Q : List (Int × Int)} {y : Int × Int} (hs : Simple Q) (hR : Rho Q 1) {l m : List (Int × Int)} {a x b : Int × Int} (e : Q = l ++ a :: x :: b :: m) (pos : 0 < tI a x b) (emp : ∀ y ∈ l ++ m, ¬ InT a x b y)
    (fy : Free y Q) (w0 : wc y Q = 0) : ¬ InT a x b y := by
  intro hi
  by_cases h0 : m ++ l = []
  · have hm : m = [] := (List.append_eq_nil_iff.1 h0).1
    have hl : l = [] := (List.append_eq_nil_iff.1 h0).2
    subst hm hl
    have e' : Q = [a, x, b] := e
    subst e'
    have eQ : edges [a, x, b] = [(a, x), (x, b), (b, a)] := rfl
    have k1 := fy (a, x) (by rw [eQ]; simp)
    have k2 := fy (x, b) (by rw [eQ]; simp)
    have k3 := fy (b, a) (by rw [eQ]; simp)
    obtain ⟨g1, g2, g3⟩ := strict_in pos hi k1 k2 k3
    rw [wc_tri, wt_in pos g1 g2 g3] at w0
    omega
  · have e1 : Q = (l ++ [a]) ++ (x :: b :: m) := by rw [e]; simp
    have e2 : x :: b :: (m ++ l) ++ [a] = (x :: b :: m) ++ (l ++ [a]) := by simp
    have tip : Tip a x b (m ++ l) := by
      refine ⟨by rw [e2]; rw [e1] at hs; exact hs.rot, h0, pos, fun z hz => emp z ?_⟩
      simp only [List.mem_append] at hz ⊢
      exact hz.symm
    have hR' : Rho (x :: b :: (m ++ l) ++ [a]) 1 := by rw [e2]; rw [e1] at hR; exact hR.rot
    have fy' : Free y (x :: b :: (m ++ l) ++ [a]) := by rw [e2]; rw [e1] at fy; exact fy.rot
    have := tip.region hR' fy' hi
    rw [e2, wc_rot, ← e1] at this
    omega

/-- The turn at the corner furthest to the right, where its triangle is empty. -/
theorem tip_pos {u v w : Int × Int} {r : List (Int × Int)} (hs : Simple (v :: w :: r ++ [u])) (hr : r ≠ []) (far : ∀ x ∈ w :: r ++ [u], LexLe x v) (free : ∀ x ∈ r, ¬ Tri u v w x) (hR : Rho (v :: w :: r ++ [u]) 1) : 0 < tI u v w := by
  have hD := tip_turn hs far
  have h20 : (0 : Int) < 2 := by decide
  rcases Int.lt_or_gt_of_ne hD with k | k
  · exfalso
    have dr : tI w v u = - tI u v w := by unfold tI; grind
    have tip : Tip w v u r.reverse := ⟨ear_flip hs, by simpa using hr, by omega, fun x hx hi => free x (by simpa using hx) (.inr hi)⟩
    have tip2 := tip.scaled h20
    have far' : ∀ x ∈ sc 2 u :: r.reverse.map (sc 2) ++ [sc 2 w], LexLe x (sc 2 v) := by
      intro x hx
      have : x ∈ (u :: r.reverse ++ [w]).map (sc 2) := by simpa using hx
      obtain ⟨x0, hx0, rfl⟩ := List.mem_map.1 this
      refine (far x0 ?_).sc h20
      simp only [List.cons_append, List.mem_cons, List.mem_append, List.mem_reverse, List.not_mem_nil, or_false] at hx0 ⊢
      rcases hx0 with h | h | h
      · exact .inr (.inr h)
      · exact .inr (.inl h)
      · exact .inl h
    have zt : ∀ a b : Int × Int, tI (sc 2 a) (sc 2 b) (md w u) = 2 * (tI a b w + tI a b u) := by intro a b; unfold md tI sc; grind
    have t1 : 0 < tI (sc 2 w) (sc 2 v) (md w u) := by rw [zt, (tI_same w v).1]; omega
    have t2 : 0 < tI (sc 2 v) (sc 2 u) (md w u) := by rw [zt, (tI_same v u).2.1, ← tI_cyc w v u]; omega
    have t3 : tI (sc 2 u) (sc 2 w) (md w u) = 0 := by rw [zt, (tI_same u w).1, (tI_same u w).2.1]; rfl
    have one := tip2.one far' ⟨by omega, by omega, by omega⟩ t1 t2
    have uw : u ≠ w := (hs.rot (l := [v]) (m := w :: r ++ [u])).ne (e := (u, w)) |> fun _ => by
      intro q; subst q
      have := hs.nodup
      simp at this
    have ne := md_ne (Ne.symm uw)
    have on := md_on w u
    have cl := (tip2.clip)
    have lo := last_open cl on ne.1 ne.2
    have fr : Free (md w u) (sc 2 v :: sc 2 u :: r.reverse.map (sc 2) ++ [sc 2 w]) := by
      intro e he
      rw [edges_ear] at he
      simp only [List.mem_cons, List.mem_append, List.not_mem_nil, or_false] at he
      rcases he with g | g | g
      · subst g
        simp only
        cases q : onI (sc 2 v) (sc 2 u) (md w u) with
        | false => rfl
        | true => have := ((onI_iff _ _ _).1 q).1; omega
      · exact lo e g
      · subst g
        simp only
        cases q : onI (sc 2 w) (sc 2 v) (md w u) with
        | false => rfl
        | true => have := ((onI_iff _ _ _).1 q).1; omega
    have hRf : Rho (v :: u :: r.reverse ++ [w]) (-1) := by
      have h2 : Rho (u :: (w :: r).reverse ++ v :: [].reverse) (-1) := Rho.flip (a := v) (b := u) (r := w :: r) (s := []) hR
      have e3 : u :: (w :: r).reverse ++ v :: [].reverse = (u :: r.reverse ++ [w]) ++ [v] := by simp
      rw [e3] at h2
      have := h2.rot
      simpa using this
    have e1 : (v :: u :: r.reverse ++ [w]).map (sc 2) = sc 2 v :: sc 2 u :: r.reverse.map (sc 2) ++ [sc 2 w] := by simp
    have := hRf.2 2 h20 (md w u) (by rw [e1]; exact fr)
    rw [e1, one] at this
    omega
  · exact k

theorem tri_pos {a x b : Int × Int} (hs : Simple [a, x, b]) (hR : Rho [a, x, b] 1) : 0 < tI a x b := by
  rcases Int.lt_or_gt_of_ne (tri_turn hs) with k | k
  · have dr : tI b x a = - tI a x b := by unfold tI; grind
    have := Rho.flip (a := b) (b := a) (r := [x]) (s := []) (tri_rho (u := b) (v := x) (w := a) (by omega))
    have := Rho.unique hs hR this
    omega
  · exact k

/-- The corner furthest to the right: an ear there, and one of the rest; or a line to another corner, and an ear on either side. -/
theorem earP_max {n : Nat} (ih : ∀ P : List (Int × Int), P.length ≤ n → Simple P → Rho P 1 → EarP P) {u v w : Int × Int} {r : List (Int × Int)} (hl : (v :: w :: r ++ [u]).length ≤ n + 1) (hs : Simple (v :: w :: r ++ [u])) (hr : r ≠ [])
    (far : ∀ x ∈ w :: r ++ [u], LexLe x v) (hR : Rho (v :: w :: r ++ [u]) 1) :
    ((0 < tI u v w ∧ ∀ x ∈ r, ¬ InT u v w x) ∧ ∃ l a x b m, w :: r ++ [u] = l ++ a :: x :: b :: m ∧ 0 < tI a x b ∧ ∀ y ∈ v :: (l ++ m), ¬ InT a x b y) ∨
    ∃ r1 z r2, r = r1 ++ z :: r2 ∧ (∃ l a x b m, v :: (w :: r1) ++ [z] = l ++ a :: x :: b :: m ∧ 0 < tI a x b ∧ ∀ y ∈ l ++ m ++ (r2 ++ [u]), ¬ InT a x b y) ∧
      ∃ l a x b m, z :: (r2 ++ [u]) ++ [v] = l ++ a :: x :: b :: m ∧ 0 < tI a x b ∧ ∀ y ∈ l ++ m ++ (w :: r1), ¬ InT a x b y := by
  by_cases free : ∀ x ∈ r, ¬ Tri u v w x
  · left
    have pos := tip_pos hs hr far free hR
    have tip : Tip u v w r := ⟨hs, hr, pos, fun x hx hi => free x hx (.inl hi)⟩
    refine ⟨⟨pos, tip.free⟩, ?_⟩
    obtain ⟨l, a, x, b, m, e, p, emp⟩ := ih (w :: r ++ [u]) (by simp at hl ⊢; omega) tip.clip (tip.rho_rest hR)
    refine ⟨l, a, x, b, m, e, p, fun y hy => ?_⟩
    rcases List.mem_cons.1 hy with g | g
    · subst g
      have fy : Free y (w :: r ++ [u]) := by
        intro f hf
        have hn := hs.nodup
        have hyn : y ∉ w :: r ++ [u] := (List.nodup_cons.1 hn).1
        have m := edges_mem hf
        rw [edges_rest] at hf
        rcases List.mem_append.1 hf with g | g
        · refine hs.corner (by rw [edges_ear]; simp [g]) (by simp) (fun q => hyn (q ▸ m.1)) (fun q => hyn (q ▸ m.2))
        · have : f = (u, w) := by simpa using g
          subst this
          simp only
          cases q : onI u w y with
          | false => rfl
          | true =>
            have := ((onI_iff _ _ _).1 q).1
            have := tI_neg' u w y
            omega
      exact ear_out tip.clip (tip.rho_rest hR) e p emp fy (wc_far far)
    · exact emp y g
  · right
    have he : ∃ x ∈ r, Tri u v w x := by
      apply Classical.byContradiction
      intro g
      exact free fun x hx hT => g ⟨x, hx, hT⟩
    obtain ⟨z, hz, -, cl, rd⟩ := peak_any hs far he
    obtain ⟨r1, r2, rfl⟩ := List.append_of_mem hz
    have eP : v :: w :: (r1 ++ z :: r2) ++ [u] = v :: (w :: r1) ++ z :: (r2 ++ [u]) := by simp
    have lk : Link v (w :: r1) z (r2 ++ [u]) := ⟨by rw [← eP]; exact hs, by simp, fun e he => (cl e (by rw [eP]; exact he)).rev1, by simp⟩
    have hR' : Rho (v :: (w :: r1) ++ z :: (r2 ++ [u])) 1 := by rw [← eP]; exact hR
    obtain ⟨q1, q2⟩ := lk.parts hR' (fun K hK x k1 k2 k3 => by
      have := rd K hK x (by rw [onI_comm]; exact k1) k3 k2
      rw [eP] at this; exact this)
    have hR2 : Rho (z :: (r2 ++ [u]) ++ v :: (w :: r1)) 1 := by
      have e1 : v :: (w :: r1) ++ z :: (r2 ++ [u]) = (v :: (w :: r1)) ++ (z :: (r2 ++ [u])) := rfl
      rw [e1] at hR'
      exact hR'.rot
    refine ⟨r1, z, r2, rfl, ?_, ?_⟩
    · obtain ⟨l, a, x, b, m, e, p, emp⟩ := ih (v :: (w :: r1) ++ [z]) (by simp at hl ⊢; omega) lk.poly q1
      refine ⟨l, a, x, b, m, e, p, fun y hy => ?_⟩
      rcases List.mem_append.1 hy with g | g
      · exact emp y g
      · exact ear_out lk.poly q1 e p emp (fun f hf => lk.out_on hf g) (lk.none hR' q1 q2 y g)
    · obtain ⟨l, a, x, b, m, e, p, emp⟩ := ih (z :: (r2 ++ [u]) ++ [v]) (by simp at hl ⊢; omega) lk.other.poly q2
      refine ⟨l, a, x, b, m, e, p, fun y hy => ?_⟩
      rcases List.mem_append.1 hy with g | g
      · exact emp y g
      · exact ear_out lk.other.poly q2 e p emp (fun f hf => lk.other.out_on hf g) (lk.other.none hR2 q2 q1 y g)

/-- A polygon told counterclockwise has an ear that lies within, away from its last edge. -/
theorem earP_any : ∀ (n : Nat) (P : List (Int × Int)), P.length ≤ n → Simple P → Rho P 1 → EarP P
  | 0, P, hl, hP, _ => by have := hP.three; omega
  | n + 1, P, hl, hP, hR => by
    have ih := earP_any n
    by_cases h4 : 4 ≤ P.length
    · obtain ⟨v, hv, top⟩ := exists_max P (by intro q; rw [q] at h4; simp at h4)
      obtain ⟨l0, m0, eP⟩ := List.append_of_mem hv
      have hR0 : Rho (v :: m0 ++ l0) 1 := by rw [eP] at hR; exact hR.rot
      have hs0 : Simple (v :: m0 ++ l0) := by rw [eP] at hP; exact hP.rot
      have far0 : ∀ x ∈ m0 ++ l0, LexLe x v := fun x hx => top x (by rw [eP]; simp only [List.mem_append, List.mem_cons] at hx ⊢; rcases hx with g | g; exact .inr (.inr g); exact .inl g)
      have len : (m0 ++ l0).length + 1 = P.length := by rw [eP]; simp; omega
      obtain ⟨w, r, u, e0⟩ := ends_of (show 2 ≤ (m0 ++ l0).length by omega)
      have er : v :: m0 ++ l0 = v :: w :: r ++ [u] := by show v :: (m0 ++ l0) = _; rw [e0]; rfl
      have hr : r ≠ [] := by intro q; subst q; rw [e0] at len; simp at len; omega
      rw [er] at hs0 hR0
      rw [e0] at far0
      have key := earP_max ih (by rw [← er]; show (v :: (m0 ++ l0)).length ≤ n + 1; simp only [List.length_cons]; omega) hs0 hr far0 hR0
      rcases key with ⟨⟨pos, emp⟩, l, a, x, b, m, e, p, emp'⟩ | ⟨r1, z, r2, rfl, ⟨l, a, x, b, m, e, p, emp⟩, l', a', x', b', m', e', p', emp'⟩
      · cases l0 with
        | nil =>
          refine ⟨v :: l, a, x, b, m, ?_, p, emp'⟩
          rw [List.append_nil] at e0
          rw [eP, e0, e]; simp
        | cons c l1 =>
          cases m0 with
          | nil =>
            refine ⟨l, a, x, b, m ++ [v], ?_, p, fun y hy => emp' y ?_⟩
            · rw [List.nil_append] at e0
              rw [eP, e0, e]; simp
            · simp only [List.mem_append, List.mem_cons, List.not_mem_nil, or_false] at hy ⊢
              rcases hy with g | g | g
              · exact .inr (.inl g)
              · exact .inr (.inr g)
              · exact .inl g
          | cons d m1 =>
            obtain ⟨l2, u', e3⟩ := snoc_of_ne (show c :: l1 ≠ [] by simp)
            have e4 : d :: (m1 ++ l2) ++ [u'] = w :: r ++ [u] := by rw [← e0, e3]; simp
            have e5 : (d :: (m1 ++ l2)) ++ [u'] = (w :: r) ++ [u] := e4
            obtain ⟨e6, e7⟩ := List.append_inj' e5 rfl
            have e7 : u' = u := by simpa using e7
            have e8 : d = w ∧ m1 ++ l2 = r := by simpa using e6
            refine ⟨l2, u, v, w, m1, ?_, pos, fun y hy => emp y ?_⟩
            · rw [eP, e3, e7, e8.1]; simp
            · rw [← e8.2]
              simp only [List.mem_append] at hy ⊢
              exact hy.symm
      · have e1 : m0 ++ l0 = (w :: r1) ++ (z :: (r2 ++ [u])) := by rw [e0]; simp
        rcases List.append_eq_append_iff.1 e1 with ⟨t, g1, g2⟩ | ⟨t, g1, g2⟩
        · -- z stands before v
          refine ⟨t ++ l', a', x', b', m' ++ m0, ?_, p', fun y hy => emp' y ?_⟩
          · have : P = t ++ (z :: (r2 ++ [u]) ++ [v]) ++ m0 := by rw [eP, g2]; simp
            rw [this, e']; simp
          · rw [g1]
            simp only [List.mem_append] at hy ⊢
            rcases hy with (k | k) | k | k
            · exact .inr (.inr k)
            · exact .inl (.inl k)
            · exact .inl (.inr k)
            · exact .inr (.inl k)
        · cases t with
          | nil =>
            have g2 : l0 = z :: (r2 ++ [u]) := by simpa using g2.symm
            have g1 : m0 = w :: r1 := by simpa using g1
            refine ⟨l', a', x', b', m' ++ m0, ?_, p', fun y hy => emp' y ?_⟩
            · have : P = (z :: (r2 ++ [u]) ++ [v]) ++ m0 := by rw [eP, g2]; simp
              rw [this, e']; simp
            · rw [← g1]
              simp only [List.mem_append] at hy ⊢
              rcases hy with k | k | k
              · exact .inl (.inl k)
              · exact .inl (.inr k)
              · exact .inr k
          | cons z' t' =>
            have g3 : z = z' ∧ r2 ++ [u] = t' ++ l0 := by simpa using g2
            refine ⟨l0 ++ l, a, x, b, m ++ t', ?_, p, fun y hy => emp y ?_⟩
            · have : P = l0 ++ (v :: (w :: r1) ++ [z]) ++ t' := by rw [eP, g1, g3.1]; simp
              rw [this, e]; simp
            · rw [g3.2]
              simp only [List.mem_append] at hy ⊢
              rcases hy with (k | k) | k | k
              · exact .inr (.inr k)
              · exact .inl (.inl k)
              · exact .inl (.inr k)
              · exact .inr (.inl k)
    · have h3 := hP.three
      match P, h3, h4, hP, hR with
      | [a, x, b], _, _, hP, hR => exact ⟨[], a, x, b, [], rfl, tri_pos hP hR, fun y hy => by simp at hy⟩
      | [], h3, _, _, _ => simp at h3
      | [_], h3, _, _, _ => simp at h3
      | [_, _], h3, _, _, _ => simp at h3
      | _ :: _ :: _ :: _ :: _, _, h4, _, _ => simp at h4
end

section
set_option linter.unusedVariables false

def cp (a b : Int × Int) : Int := a.1 * b.2 - a.2 * b.1
theorem cp_anti (a b : Int × Int) : cp b a = - cp a b := by unfold cp; grind
theorem cp_tri (a b c : Int × Int) : cp a b + cp b c + cp c a = tI a b c := by unfold cp tI; grind

/-- Twice the area. -/
def tw (P : List (Int × Int)) : Int := sumE (fun e => cp e.1 e.2) (edges P)

theorem tw_rot (l m : List (Int × Int)) : tw (l ++ m) = tw (m ++ l) := sumE_perm (edges_rot l m)
theorem tw_ear (u v w : Int × Int) (r : List (Int × Int)) : tw (v :: w :: r ++ [u]) = tI u v w + tw (w :: r ++ [u]) := by
  unfold tw
  rw [edges_ear, edges_rest]
  simp only [sumE, sumE_append]
  have := cp_tri u v w
  have := cp_anti w u
  omega

theorem tw_pos : ∀ (n : Nat) (P : List (Int × Int)), P.length ≤ n → Simple P → Rho P 1 → 0 < tw P
  | 0, P, hl, hP, _ => by have := hP.three; omega
  | n + 1, P, hl, hP, hR => by
    obtain ⟨l, a, x, b, m, e, pos, emp⟩ := earP_any _ P (Nat.le_refl _) hP hR
    have e1 : P = (l ++ [a]) ++ (x :: b :: m) := by rw [e]; simp
    have e2 : x :: b :: (m ++ l) ++ [a] = (x :: b :: m) ++ (l ++ [a]) := by simp
    have et : tw P = tw (x :: b :: (m ++ l) ++ [a]) := by rw [e1, e2, tw_rot]
    rw [et, tw_ear]
    by_cases h0 : m ++ l = []
    · rw [h0]
      have : tw (b :: [] ++ [a]) = 0 := by
        unfold tw
        show sumE _ [(b, a), (a, b)] = 0
        simp only [sumE]
        have := cp_anti a b
        omega
      omega
    · have tip : Tip a x b (m ++ l) := by
        refine ⟨by rw [e2]; rw [e1] at hP; exact hP.rot, h0, pos, fun z hz => emp z ?_⟩
        simp only [List.mem_append] at hz ⊢
        exact hz.symm
      have hR' : Rho (x :: b :: (m ++ l) ++ [a]) 1 := by rw [e2]; rw [e1] at hR; exact hR.rot
      have := tw_pos n (b :: (m ++ l) ++ [a]) (by rw [e] at hl; simp at hl ⊢; omega) tip.clip (tip.rho_rest hR')
      omega

theorem tw_flip (a b : Int × Int) (r s : List (Int × Int)) : tw (b :: r.reverse ++ a :: s.reverse) = - tw (a :: r ++ b :: s) := by
  unfold tw
  rw [sumE_perm (edges_flip a b r s), sumE_map, ← sumE_neg]
  exact sumE_congr fun e _ => by simp only [sw]; exact cp_anti e.1 e.2

/-- The area's sign tells how a polygon is told. -/
theorem tw_sign {P : List (Int × Int)} {ρ : Int} (hs : Simple P) (hR : Rho P ρ) : (ρ = 1 ↔ 0 < tw P) ∧ (ρ = -1 ↔ tw P < 0) := by
  rcases hR.1 with g | g
  · subst g
    have := tw_pos _ P (Nat.le_refl _) hs hR
    omega
  · subst g
    obtain ⟨w, r, u, rfl⟩ := ends_of (show 2 ≤ P.length by have := hs.three; omega)
    have e : w :: r ++ [u] = w :: r ++ u :: [] := rfl
    rw [e] at hs hR ⊢
    have := tw_pos _ _ (Nat.le_refl _) hs.flip hR.flip
    rw [tw_flip] at this
    omega

theorem cr_nn {p a b : Int × Int} (h : 0 ≤ tI a b p) : 0 ≤ cr p a b := by
  unfold cr
  by_cases h1 : a.2 ≤ p.2 ∧ p.2 < b.2 ∧ 0 < tI a b p
  · rw [if_pos h1]; decide
  · rw [if_neg h1, if_neg (by omega)]; decide
theorem wt_nn {p u v w : Int × Int} (hD : 0 < tI u v w) : 0 ≤ wt p u v w := by
  by_cases hi : InT u v w p
  · unfold wt
    have := cr_nn hi.1
    have := cr_nn hi.2.1
    have := cr_nn hi.2.2
    omega
  · rw [wt_out hD hi]; decide

abbrev T3 := (Int × Int) × (Int × Int) × (Int × Int)

def sumT (F : T3 → Int) : List T3 → Int
  | [] => 0
  | t :: C => F t + sumT F C

theorem sumT_append (F : T3 → Int) : ∀ l m, sumT F (l ++ m) = sumT F l + sumT F m
  | [], m => by simp [sumT]
  | t :: l, m => by simp only [List.cons_append, sumT, sumT_append F l m]; omega
theorem sumT_congr {F G : T3 → Int} : ∀ {C : List T3}, (∀ t ∈ C, F t = G t) → sumT F C = sumT G C
  | [], _ => rfl
  | t :: C, h => by
    simp only [sumT]
    rw [h t (by simp), sumT_congr fun x hx => h x (by simp [hx])]
theorem sumT_nn {F : T3 → Int} : ∀ {C : List T3}, (∀ t ∈ C, 0 ≤ F t) → 0 ≤ sumT F C
  | [], _ => by simp [sumT]
  | t :: C, h => by
    simp only [sumT]
    have := h t (by simp)
    have := sumT_nn (C := C) fun x hx => h x (by simp [hx])
    omega
theorem sumT_map (F : T3 → Int) (g : T3 → T3) : ∀ C, sumT F (C.map g) = sumT (fun t => F (g t)) C
  | [] => rfl
  | t :: C => by simp only [List.map, sumT, sumT_map F g C]

/-- Triangles, told counterclockwise, whose edges are together the polygon's. -/
structure CutG (P : List (Int × Int)) (C : List T3) : Prop where
  pos : ∀ t ∈ C, 0 < tI t.1 t.2.1 t.2.2
  bal : ∀ F : Int × Int → Int × Int → Int, (∀ a b, F b a = - F a b) → sumT (fun t => F t.1 t.2.1 + F t.2.1 t.2.2 + F t.2.2 t.1) C = sumE (fun e => F e.1 e.2) (edges P)
  ring : ∀ e ∈ edges P, ∃ t ∈ C, e = (t.1, t.2.1) ∨ e = (t.2.1, t.2.2) ∨ e = (t.2.2, t.1)

def sc3 (K : Int) (t : T3) : T3 := (sc K t.1, sc K t.2.1, sc K t.2.2)

theorem CutG.scaled {P : List (Int × Int)} {C : List T3} (h : CutG P C) {K : Int} (hK : 0 < K) : CutG (P.map (sc K)) (C.map (sc3 K)) := by
  refine ⟨fun t ht => ?_, fun F hF => ?_, fun e he => ?_⟩
  · obtain ⟨t0, h0, rfl⟩ := List.mem_map.1 ht
    simp only [sc3]
    rw [tI_sc]; exact (sc_sign hK).1.2 (h.pos t0 h0)
  · rw [sumT_map, edges_map, sumE_map]
    exact h.bal (fun a b => F (sc K a) (sc K b)) (fun a b => hF _ _)
  · rw [edges_map] at he
    obtain ⟨f, hf, rfl⟩ := List.mem_map.1 he
    obtain ⟨t, ht, g⟩ := h.ring f hf
    refine ⟨sc3 K t, List.mem_map.2 ⟨t, ht, rfl⟩, ?_⟩
    rcases g with g | g | g
    · left; rw [g]; rfl
    · right; left; rw [g]; rfl
    · right; right; rw [g]; rfl

/-- The triangles' areas are together the polygon's. -/
theorem CutG.area {P : List (Int × Int)} {C : List T3} (h : CutG P C) : sumT (fun t => tI t.1 t.2.1 t.2.2) C = tw P := by
  unfold tw
  rw [← h.bal cp cp_anti]
  exact sumT_congr fun t _ => (cp_tri _ _ _).symm

theorem CutG.wind {P : List (Int × Int)} {C : List T3} (h : CutG P C) (p : Int × Int) : sumT (fun t => wt p t.1 t.2.1 t.2.2) C = wc p P := by
  unfold wc
  rw [← h.bal (fun a b => cr p a b) (fun a b => cr_anti p a b)]
  exact sumT_congr fun t _ => rfl

def InC (t : T3) (p : Int × Int) : Prop := InT t.1 t.2.1 t.2.2 p
def Within3 (t : T3) (p : Int × Int) : Prop := 0 < tI t.1 t.2.1 p ∧ 0 < tI t.2.1 t.2.2 p ∧ 0 < tI t.2.2 t.1 p

theorem CutG.ge_one {P : List (Int × Int)} {C : List T3} (h : CutG P C) {t : T3} (ht : t ∈ C) {p : Int × Int} (hp : Within3 t p) : 1 ≤ wc p P := by
  rw [← h.wind p]
  obtain ⟨l, m, e⟩ := List.append_of_mem ht
  have nn : ∀ x ∈ C, 0 ≤ wt p x.1 x.2.1 x.2.2 := fun x hx => wt_nn (h.pos x hx)
  rw [e] at nn ⊢
  rw [sumT_append]
  simp only [sumT]
  have := sumT_nn (F := fun x => wt p x.1 x.2.1 x.2.2) (C := l) fun x hx => nn x (by simp [hx])
  have := sumT_nn (F := fun x => wt p x.1 x.2.1 x.2.2) (C := m) fun x hx => nn x (by simp [hx])
  have : wt p t.1 t.2.1 t.2.2 = 1 := wt_in (h.pos t ht) hp.1 hp.2.1 hp.2.2
  omega

theorem CutG.ge_two {P : List (Int × Int)} {C l1 l2 l3 : List T3} (h : CutG P C) {t t' : T3} (e : C = l1 ++ t :: (l2 ++ t' :: l3)) {p : Int × Int} (hp : Within3 t p) (hp' : Within3 t' p) : 2 ≤ wc p P := by
  rw [← h.wind p]
  have nn : ∀ x ∈ C, 0 ≤ wt p x.1 x.2.1 x.2.2 := fun x hx => wt_nn (h.pos x hx)
  have w1 : wt p t.1 t.2.1 t.2.2 = 1 := wt_in (h.pos t (by rw [e]; simp)) hp.1 hp.2.1 hp.2.2
  have w2 : wt p t'.1 t'.2.1 t'.2.2 = 1 := wt_in (h.pos t' (by rw [e]; simp)) hp'.1 hp'.2.1 hp'.2.2
  rw [e] at nn ⊢
  rw [sumT_append]
  simp only [sumT]
  rw [sumT_append]
  simp only [sumT]
  have := sumT_nn (F := fun x => wt p x.1 x.2.1 x.2.2) (C := l1) fun x hx => nn x (by simp [hx])
  have := sumT_nn (F := fun x => wt p x.1 x.2.1 x.2.2) (C := l2) fun x hx => nn x (by simp [hx])
  have := sumT_nn (F := fun x => wt p x.1 x.2.1 x.2.2) (C := l3) fun x hx => nn x (by simp [hx])
  omega

theorem split_two {C : List T3} {t t' : T3} (ht : t ∈ C) (ht' : t' ∈ C) (hne : t ≠ t') : (∃ l1 l2 l3, C = l1 ++ t :: (l2 ++ t' :: l3)) ∨ ∃ l1 l2 l3, C = l1 ++ t' :: (l2 ++ t :: l3) := by
  obtain ⟨l, m, e⟩ := List.append_of_mem ht
  rw [e] at ht'
  rcases List.mem_append.1 ht' with g | g
  · obtain ⟨a, b, e'⟩ := List.append_of_mem g
    right
    exact ⟨a, b, m, by rw [e, e']; simp⟩
  · rcases List.mem_cons.1 g with g | g
    · exact absurd g.symm hne
    · obtain ⟨a, b, e'⟩ := List.append_of_mem g
      left
      exact ⟨l, a, b, by rw [e, e']⟩

theorem cx_mid (a b c p : Int × Int) : cx a b (a.1 + b.1 + c.1 - 3 * p.1, a.2 + b.2 + c.2 - 3 * p.2) = tI a b c - 3 * tI a b p := by unfold cx tI; grind

/-- What lies in one of the triangles lies in the polygon. -/
theorem CutG.inside {P : List (Int × Int)} {C : List T3} (h : CutG P C) (hR : Rho P 1) {t : T3} (ht : t ∈ C) {p : Int × Int} (hp : InC t p) (fr : Free p P) : wc p P = 1 := by
  obtain ⟨a, b, c⟩ := t
  have hD := h.pos _ ht
  simp only [InC] at hp hD
  obtain ⟨p1, p2, p3⟩ := hp
  obtain ⟨d, hd⟩ : ∃ d : Int × Int, d = (a.1 + b.1 + c.1 - 3 * p.1, a.2 + b.2 + c.2 - 3 * p.2) := ⟨_, rfl⟩
  have c1 : cx a b d = tI a b c - 3 * tI a b p := by rw [hd]; exact cx_mid a b c p
  have c2 : cx b c d = tI b c a - 3 * tI b c p := by
    rw [hd, ← cx_mid b c a p]; congr 2 <;> omega
  have c3 : cx c a d = tI c a b - 3 * tI c a p := by
    rw [hd, ← cx_mid c a b p]; congr 2 <;> omega
  have dv := (tI_cyc a b c).symm
  have dw := tI_cyc c a b
  obtain ⟨K1, k1, j1⟩ := near_all (0, 0) d fr
  obtain ⟨K, hK⟩ : ∃ K, K = K1 + 3 := ⟨_, rfl⟩
  have hK0 : 0 < K := by omega
  have N := j1 K (by omega)
  have st : ∀ {t D : Int}, 0 ≤ t → 0 < D → 0 < K * (K * t + (D - 3 * t)) := by
    intro t D ht hD
    refine Int.mul_pos hK0 ?_
    have : K * t = K1 * t + 3 * t := by rw [hK, Int.add_mul]
    have := Int.mul_nonneg (Int.le_of_lt k1) ht
    omega
  have w : Within3 (sc3 K (a, b, c)) (ad (sc K p) d) := by
    refine ⟨?_, ?_, ?_⟩
    · simp only [sc3]; rw [tI_ad, c1]; exact st p1 hD
    · simp only [sc3]; rw [tI_ad, c2]; exact st p2 (by omega)
    · simp only [sc3]; rw [tI_ad, c3]; exact st p3 (by omega)
  have g1 := (h.scaled hK0).ge_one (List.mem_map.2 ⟨_, ht, rfl⟩) w
  have same : wc (sc K p) (P.map (sc K)) = wc (ad (sc K p) d) (P.map (sc K)) := by
    refine wc_same fun e he => ?_
    rw [edges_map] at he
    obtain ⟨f, hf, rfl⟩ := List.mem_map.1 he
    have := N f hf
    rwa [ad_zero] at this
  rw [← same, wc_sc hK0] at g1
  have := hR.at fr
  omega

/-- What lies in the polygon lies in one of the triangles. -/
theorem CutG.covers {P : List (Int × Int)} {C : List T3} (h : CutG P C) {p : Int × Int} (hp : wc p P ≠ 0 ∨ ¬ Free p P) : ∃ t ∈ C, InC t p := by
  rcases hp with hp | hp
  · apply Classical.byContradiction
    intro no
    apply hp
    rw [← h.wind p]
    have : ∀ t ∈ C, wt p t.1 t.2.1 t.2.2 = 0 := fun t ht => wt_out (h.pos t ht) fun hi => no ⟨t, ht, hi⟩
    rw [sumT_congr (G := fun _ => 0) this]
    clear this hp no h
    induction C with
    | nil => rfl
    | cons t C ih => simp only [sumT]; omega
  · apply Classical.byContradiction
    intro no
    apply hp
    intro e he
    cases q : onI e.1 e.2 p with
    | false => rfl
    | true =>
      exfalso
      obtain ⟨t, ht, g⟩ := h.ring e he
      have hD := h.pos t ht
      have dv := (tI_cyc t.1 t.2.1 t.2.2).symm
      have dw := tI_cyc t.2.2 t.1 t.2.1
      have ia : InT t.1 t.2.1 t.2.2 t.1 := ⟨by rw [(tI_same t.1 t.2.1).1]; decide, by omega, by rw [(tI_same t.2.2 t.1).2.1]; decide⟩
      have ib : InT t.1 t.2.1 t.2.2 t.2.1 := ⟨by rw [(tI_same t.1 t.2.1).2.1]; decide, by rw [(tI_same t.2.1 t.2.2).1]; decide, by omega⟩
      have ic : InT t.1 t.2.1 t.2.2 t.2.2 := ⟨by omega, by rw [(tI_same t.2.1 t.2.2).2.1]; decide, by rw [(tI_same t.2.2 t.1).1]; decide⟩
      refine no ⟨t, ht, ?_⟩
      rcases g with g | g | g
      · rw [g] at q; exact ia.between ib q
      · rw [g] at q; exact ib.between ic q
      · rw [g] at q; exact ic.between ia q
end

section
set_option linter.unusedVariables false

theorem open_side {u w c x : Int × Int} (hD : 0 < tI u w c) (hx : onI u w x = true) (hxu : x ≠ u) (hxw : x ≠ w) : 0 < tI w c x ∧ 0 < tI c u x := by
  have dv := (tI_cyc u w c).symm
  have dw := tI_cyc c u w
  obtain ⟨n1, n2, n3⟩ := tri_ne hD
  have iu : InT u w c u := ⟨by rw [(tI_same u w).1]; decide, by omega, by rw [(tI_same c u).2.1]; decide⟩
  have iw : InT u w c w := ⟨by rw [(tI_same u w).2.1]; decide, by rw [(tI_same w c).1]; decide, by omega⟩
  have hi := iu.between iw hx
  have no : ∀ {a b d : Int × Int}, tI a b d ≠ 0 → onI a b d = false := by
    intro a b d h
    cases q : onI a b d with
    | false => rfl
    | true => exact absurd ((onI_iff _ _ _).1 q).1 h
  constructor
  · rcases Int.lt_or_eq_of_le hi.2.1 with g | g
    · exact g
    · exact absurd (only_end n1 n2 (no (by omega)) (no (by omega)) hx (hi.cyc.on_uv (by omega) g.symm)) hxw
  · rcases Int.lt_or_eq_of_le hi.2.2 with g | g
    · exact g
    · have := hi.cyc.cyc.on_uv (by omega) g.symm
      exact absurd (only_end (a := w) (b := u) (d := c) (Ne.symm n1) (Ne.symm n3) (by rw [onI_comm]; exact no (by omega)) (by rw [onI_comm]; exact no (by omega)) (by rw [onI_comm]; exact hx) (by rw [onI_comm]; exact this)) hxu

section
variable {P : List (Int × Int)} {C : List T3}

/-- No triangle holds a point of an edge strictly. -/
theorem CutG.strict_open (h : CutG P C) (hs : Simple P) (hR : Rho P 1) {t : T3} (ht : t ∈ C) {e : (Int × Int) × (Int × Int)} (he : e ∈ edges P) {x : Int × Int} (hx : onI e.1 e.2 x = true) (h1 : x ≠ e.1) (h2 : x ≠ e.2) : ¬ Within3 t x := by
  intro hw
  obtain ⟨u, w⟩ := e
  simp only at hx h1 h2
  obtain ⟨l1, l2, r, e1, e2⟩ := edge_last (by have := hs.three; omega) he
  simp only at e2
  have sR : Simple (w :: r ++ [u]) := by rw [← e2]; rw [e1] at hs; exact hs.rot
  have rR : Rho (w :: r ++ [u]) 1 := by rw [← e2]; rw [e1] at hR; exact hR.rot
  obtain ⟨t', ht', ring⟩ := h.ring _ he
  have hD' := h.pos t' ht'
  have tx : tI u w x = 0 := ((onI_iff _ _ _).1 hx).1
  have hne : t ≠ t' := by
    intro q; subst q
    obtain ⟨g1, g2, g3⟩ := hw
    rcases ring with g | g | g
    all_goals
      have q1 := congrArg Prod.fst g
      have q2 := congrArg Prod.snd g
      simp only at q1 q2
      rw [q1, q2] at tx
      omega
  obtain ⟨K1, k1, j1⟩ := sides sR rR hx h1 h2
  have third : ∃ c, 0 < tI u w c ∧ ∀ K : Int, ∀ y, 0 < tI (sc K u) (sc K w) y → 0 < tI (sc K w) (sc K c) y → 0 < tI (sc K c) (sc K u) y → Within3 (sc3 K t') y := by
    obtain ⟨a, b, c⟩ := t'
    simp only at hD' ring
    have dv := (tI_cyc a b c).symm
    have dw := tI_cyc c a b
    rcases ring with g | g | g
    · cases g; exact ⟨c, hD', fun K y a1 a2 a3 => ⟨a1, a2, a3⟩⟩
    · cases g; exact ⟨a, by omega, fun K y a1 a2 a3 => ⟨a3, a1, a2⟩⟩
    · cases g; exact ⟨b, by omega, fun K y a1 a2 a3 => ⟨a2, a3, a1⟩⟩
  obtain ⟨c, hc, build⟩ := third
  obtain ⟨o1, o2⟩ := open_side hc hx h1 h2
  obtain ⟨K2, k2, j2⟩ := near_side (ng (dd u w)) o1
  obtain ⟨K3, k3, j3⟩ := near_side (ng (dd u w)) o2
  obtain ⟨K4, k4, j4⟩ := near_side (ng (dd u w)) hw.1
  obtain ⟨K5, k5, j5⟩ := near_side (ng (dd u w)) hw.2.1
  obtain ⟨K6, k6, j6⟩ := near_side (ng (dd u w)) hw.2.2
  obtain ⟨K, hK⟩ : ∃ K, K = K1 + K2 + K3 + K4 + K5 + K6 := ⟨_, rfl⟩
  have hK0 : 0 < K := by omega
  obtain ⟨_, _, val⟩ := j1 K (by omega)
  have uw : u ≠ w := hs.ne he
  have T2 : 0 < tI (sc K u) (sc K w) (ad (sc K x) (ng (dd u w))) := by
    rw [tI_ad, tx, Int.mul_zero, Int.zero_add, ng_cx]
    exact Int.mul_pos hK0 (by have := dd_right uw; omega)
  have W' := build K _ T2 (j2 K (by omega)) (j3 K (by omega))
  have W : Within3 (sc3 K t) (ad (sc K x) (ng (dd u w))) := ⟨j4 K (by omega), j5 K (by omega), j6 K (by omega)⟩
  have hc2 := h.scaled hK0
  have two : 2 ≤ wc (ad (sc K x) (ng (dd u w))) (P.map (sc K)) := by
    rcases split_two ht ht' hne with ⟨a1, a2, a3, e3⟩ | ⟨a1, a2, a3, e3⟩
    · exact hc2.ge_two (l1 := a1.map (sc3 K)) (l2 := a2.map (sc3 K)) (l3 := a3.map (sc3 K)) (by rw [e3]; simp) W W'
    · exact hc2.ge_two (l1 := a1.map (sc3 K)) (l2 := a2.map (sc3 K)) (l3 := a3.map (sc3 K)) (by rw [e3]; simp) W' W
  have eq : wc (ad (sc K x) (ng (dd u w))) (P.map (sc K)) = wc (ad (sc K x) (ng (dd u w))) ((w :: r ++ [u]).map (sc K)) := by
    rw [e1, ← e2, List.map_append, wc_rot, ← List.map_append]
  omega

theorem end_step {u w : Int × Int} (h : u ≠ w) {K : Int} (hK : 2 ≤ K) : onI (sc K u) (sc K w) (ad (sc K u) (w.1 - u.1, w.2 - u.2)) = true ∧ ad (sc K u) (w.1 - u.1, w.2 - u.2) ≠ sc K u ∧ ad (sc K u) (w.1 - u.1, w.2 - u.2) ≠ sc K w := by
  have hne : u.1 ≠ w.1 ∨ u.2 ≠ w.2 := by
    apply Classical.byContradiction; intro q
    exact h (Prod.ext (by omega) (by omega))
  refine ⟨?_, fun q => ?_, fun q => ?_⟩
  · rw [onI_iff]
    refine ⟨by unfold tI sc ad; grind, ?_, ?_⟩
    · have e : ((sc K u).1 - (ad (sc K u) (w.1 - u.1, w.2 - u.2)).1) * ((sc K w).1 - (ad (sc K u) (w.1 - u.1, w.2 - u.2)).1) = -((K - 1) * ((w.1 - u.1) * (w.1 - u.1))) := by unfold sc ad; grind
      have := Int.mul_nonneg (show 0 ≤ K - 1 by omega) (sq_nonneg (w.1 - u.1))
      omega
    · have e : ((sc K u).2 - (ad (sc K u) (w.1 - u.1, w.2 - u.2)).2) * ((sc K w).2 - (ad (sc K u) (w.1 - u.1, w.2 - u.2)).2) = -((K - 1) * ((w.2 - u.2) * (w.2 - u.2))) := by unfold sc ad; grind
      have := Int.mul_nonneg (show 0 ≤ K - 1 by omega) (sq_nonneg (w.2 - u.2))
      omega
  · have q1 := congrArg Prod.fst q
    have q2 := congrArg Prod.snd q
    simp only [ad, sc] at q1 q2
    omega
  · have q1 := congrArg Prod.fst q
    have q2 := congrArg Prod.snd q
    simp only [ad, sc] at q1 q2
    have z1 : (K - 1) * (w.1 - u.1) = 0 := by grind
    have z2 : (K - 1) * (w.2 - u.2) = 0 := by grind
    rcases Int.mul_eq_zero.1 z1 with g | g <;> rcases Int.mul_eq_zero.1 z2 with k | k <;> omega

/-- What lies strictly in a triangle lies on no edge. -/
theorem CutG.strict_free (h : CutG P C) (hs : Simple P) (hR : Rho P 1) {t : T3} (ht : t ∈ C) {p : Int × Int} (hp : Within3 t p) : Free p P := by
  intro e he
  cases q : onI e.1 e.2 p with
  | false => rfl
  | true =>
    exfalso
    obtain ⟨u, w⟩ := e
    simp only at q
    have uw : u ≠ w := hs.ne he
    by_cases pu : p = u
    · subst pu
      obtain ⟨K1, k1, j1⟩ := near_side (w.1 - p.1, w.2 - p.2) hp.1
      obtain ⟨K2, k2, j2⟩ := near_side (w.1 - p.1, w.2 - p.2) hp.2.1
      obtain ⟨K3, k3, j3⟩ := near_side (w.1 - p.1, w.2 - p.2) hp.2.2
      obtain ⟨K, hK⟩ : ∃ K, K = K1 + K2 + K3 := ⟨_, rfl⟩
      have hK0 : 0 < K := by omega
      obtain ⟨a1, a2, a3⟩ := end_step uw (K := K) (by omega)
      refine (h.scaled hK0).strict_open (hs.sc hK0) (hR.scaled hK0) (t := sc3 K t) (List.mem_map.2 ⟨t, ht, rfl⟩) (e := (sc K p, sc K w)) ?_ a1 a2 a3 ⟨j1 K (by omega), j2 K (by omega), j3 K (by omega)⟩
      rw [edges_map]; exact List.mem_map.2 ⟨_, he, rfl⟩
    · by_cases pw : p = w
      · subst pw
        obtain ⟨K1, k1, j1⟩ := near_side (u.1 - p.1, u.2 - p.2) hp.1
        obtain ⟨K2, k2, j2⟩ := near_side (u.1 - p.1, u.2 - p.2) hp.2.1
        obtain ⟨K3, k3, j3⟩ := near_side (u.1 - p.1, u.2 - p.2) hp.2.2
        obtain ⟨K, hK⟩ : ∃ K, K = K1 + K2 + K3 := ⟨_, rfl⟩
        have hK0 : 0 < K := by omega
        obtain ⟨a1, a2, a3⟩ := end_step (Ne.symm uw) (K := K) (by omega)
        refine (h.scaled hK0).strict_open (hs.sc hK0) (hR.scaled hK0) (t := sc3 K t) (List.mem_map.2 ⟨t, ht, rfl⟩) (e := (sc K u, sc K p)) ?_ (by rw [onI_comm]; exact a1) a3 a2 ⟨j1 K (by omega), j2 K (by omega), j3 K (by omega)⟩
        rw [edges_map]; exact List.mem_map.2 ⟨_, he, rfl⟩
      · exact h.strict_open hs hR ht he q pu pw hp

/-- Strictly in one triangle at most. -/
theorem CutG.strict_one (h : CutG P C) (hs : Simple P) (hR : Rho P 1) {t t' : T3} {l1 l2 l3 : List T3} (e : C = l1 ++ t :: (l2 ++ t' :: l3)) {p : Int × Int} (hp : Within3 t p) : ¬ Within3 t' p := by
  intro hp'
  have fr := h.strict_free hs hR (t := t) (by rw [e]; simp) hp
  have := h.ge_two e hp hp'
  have := hR.at fr
  omega

/-- Strictly in a triangle: gone round. -/
theorem CutG.strict_in (h : CutG P C) (hs : Simple P) (hR : Rho P 1) {t : T3} (ht : t ∈ C) {p : Int × Int} (hp : Within3 t p) : wc p P = 1 := by
  have := h.ge_one ht hp
  have := hR.at (h.strict_free hs hR ht hp)
  omega

end
end

end Go.Proofs.Ytlicmfhgjonmnaa
