/- Edges that are apart make a simple polygon. Own work. (And what follows from it: Gy, Gz, Ha, Hb, Hc, Hd, He, Hf, Hg.) -/
import Derived.Test.YtlicmfhgjonmnaaPl
import Derived.Test.YtlicmfhgjonmnaaGx
namespace Go.Proofs.Ytlicmfhgjonmnaa

section
set_option linter.unusedVariables false

/-- What is asked of the two edges i and k (i below k), by their four ends. -/
def apI (n i k : Nat) (a b c d : Int × Int) : Bool :=
  if a = b ∨ c = d then !meetI a b c d
  else if k = i + 1 ∧ b = c then !onI a b d && !onI c d a
  else if i = 0 ∧ k + 1 = n ∧ a = d then !onI a b c && !onI c d b
  else !meetI a b c d

theorem meet_false {a b c d : Int × Int} (h : (!meetI a b c d) = true) : Off a b c d := off_of_meet (by simpa using h)

theorem path_idx {e : (Int × Int) × (Int × Int)} : ∀ {a : Int × Int} {s : List (Int × Int)}, e ∈ path a s → ∃ i, i < s.length ∧ e = (pAt (a :: s) i, pAt (a :: s) (i + 1))
  | a, [], h => by simp [path] at h
  | a, b :: s, h => by
    simp only [path, List.mem_cons] at h
    rcases h with h | h
    · exact ⟨0, by simp, by rw [h]; rfl⟩
    · obtain ⟨i, hi, e'⟩ := path_idx h
      exact ⟨i + 1, by simpa using hi, by rw [e']; rfl⟩

theorem edges_idx {e : (Int × Int) × (Int × Int)} {l : List (Int × Int)} (h : e ∈ edges l) : ∃ i, i < l.length ∧ e = (pAt l i, pAt l (nextI l.length i)) := by
  cases l with
  | nil => simp [edges] at h
  | cons a r =>
    obtain ⟨i, hi, e'⟩ := path_idx (show e ∈ path a (r ++ [a]) from h)
    have hi' : i < (a :: r).length := by simpa using hi
    refine ⟨i, hi', ?_⟩
    rw [e']
    have g : ∀ j, j < (a :: r).length → pAt (a :: (r ++ [a])) j = pAt (a :: r) j := by
      intro j hj
      unfold pAt
      have : a :: (r ++ [a]) = (a :: r) ++ [a] := rfl
      rw [this, List.getD_eq_getElem?_getD, List.getD_eq_getElem?_getD, List.getElem?_append_left hj]
    rw [g i hi']
    rcases Nat.lt_or_ge (i + 1) (a :: r).length with k | k
    · rw [next_lt k, g _ k]
    · have k' : i + 1 = (a :: r).length := by omega
      rw [next_last k', k']
      have z : pAt (a :: (r ++ [a])) (a :: r).length = a := by
        unfold pAt
        have : a :: (r ++ [a]) = (a :: r) ++ [a] := rfl
        rw [this, List.getD_eq_getElem?_getD, List.getElem?_append_right (Nat.le_refl _)]
        simp
      rw [z]; rfl

theorem pAt_get {l : List (Int × Int)} {i : Nat} (h : i < l.length) : pAt l i = l[i] := by
  unfold pAt; rw [List.getD_eq_getElem?_getD, List.getElem?_eq_getElem h]; rfl

/-- Edges that are apart make a simple polygon. -/
theorem simple_of {l : List (Int × Int)} (h3 : 3 ≤ l.length) (ap : ∀ i k, i < k → k < l.length → apI l.length i k (pAt l i) (pAt l (nextI l.length i)) (pAt l k) (pAt l (nextI l.length k)) = true) : Simple l := by
  have dist : ∀ i k, i < k → k < l.length → pAt l i ≠ pAt l k := by
    intro i k hik hk q
    have h := ap i k hik hk
    unfold apI at h
    split at h
    · have o := (meet_false h).pa
      rw [← q, on_self'] at o; cases o
    · rename_i n1
      split at h
      · rename_i n2
        exact n1 (.inl (by rw [q, n2.2]))
      · split at h
        · rename_i n3
          exact n1 (.inr (by rw [← q]; exact n3.2.2))
        · have o := (meet_false h).pa
          rw [← q, on_self'] at o; cases o
  have dist' : ∀ i k, i < l.length → k < l.length → i ≠ k → pAt l i ≠ pAt l k := by
    intro i k hi hk hne
    rcases Nat.lt_or_gt_of_ne hne with g | g
    · exact dist i k g hk
    · exact Ne.symm (dist k i g hi)
  have nlt : ∀ i, i < l.length → nextI l.length i < l.length := fun i hi => Nat.mod_lt _ (by omega)
  have nne : ∀ i, i < l.length → i ≠ nextI l.length i := by
    intro i hi q
    rcases Nat.lt_or_ge (i + 1) l.length with k | k
    · rw [next_lt k] at q; omega
    · rw [next_last (by omega)] at q; omega
  have key : ∀ i k, i < k → k < l.length → Clean (pAt l i) (pAt l (nextI l.length i)) (pAt l k) (pAt l (nextI l.length k)) := by
    intro i k hik hk
    have hi : i < l.length := by omega
    have e1 := dist' i _ hi (nlt i hi) (nne i hi)
    have e2 := dist' k _ hk (nlt k hk) (nne k hk)
    have h := ap i k hik hk
    unfold apI at h
    rw [if_neg (by intro q; rcases q with q | q; exact e1 q; exact e2 q)] at h
    split at h
    · rename_i n2
      obtain ⟨h1, h2⟩ : onI (pAt l i) (pAt l (nextI l.length i)) (pAt l (nextI l.length k)) = false ∧ onI (pAt l k) (pAt l (nextI l.length k)) (pAt l i) = false := by simpa using h
      refine ⟨fun _ q => absurd n2.2.symm q, fun _ _ => h1, fun _ _ => h2, fun q _ => absurd n2.2 q, ?_⟩
      rintro ⟨q, _⟩
      have z : tI (pAt l i) (pAt l (nextI l.length i)) (pAt l k) = 0 := by rw [← n2.2]; unfold tI; grind
      rw [z, Int.zero_mul] at q
      omega
    · split at h
      · rename_i n3
        obtain ⟨h1, h2⟩ : onI (pAt l i) (pAt l (nextI l.length i)) (pAt l k) = false ∧ onI (pAt l k) (pAt l (nextI l.length k)) (pAt l (nextI l.length i)) = false := by simpa using h
        have q0 := n3.2.2
        refine ⟨fun _ _ => h1, fun q _ => absurd q0.symm q, fun _ q => absurd q0 q, fun _ _ => h2, ?_⟩
        rintro ⟨q, _⟩
        have z : tI (pAt l i) (pAt l (nextI l.length i)) (pAt l (nextI l.length k)) = 0 := by rw [← q0]; unfold tI; grind
        rw [z, Int.mul_zero] at q
        omega
      · exact (meet_false h).clean
  refine ⟨?_, h3, ?_⟩
  · rw [List.nodup_iff_pairwise_ne, List.pairwise_iff_getElem]
    intro i j hi hj hij
    have := dist i j hij hj
    rwa [pAt_get hi, pAt_get hj] at this
  · intro e he f hf hef
    obtain ⟨i, hi, rfl⟩ := edges_idx he
    obtain ⟨k, hk, rfl⟩ := edges_idx hf
    have hne : i ≠ k := fun q => hef (by rw [q])
    rcases Nat.lt_or_gt_of_ne hne with g | g
    · exact key i k g hk
    · exact (key k i g hi).swap
end

section
set_option linter.unusedVariables false

/-- Above 0: d lies strictly within the circle through a, b, c (told counterclockwise). -/
def inC (a b c d : Int × Int) : Int :=
  ((a.1 - d.1) * (a.1 - d.1) + (a.2 - d.2) * (a.2 - d.2)) * ((b.1 - d.1) * (c.2 - d.2) - (b.2 - d.2) * (c.1 - d.1)) +
  ((b.1 - d.1) * (b.1 - d.1) + (b.2 - d.2) * (b.2 - d.2)) * ((c.1 - d.1) * (a.2 - d.2) - (c.2 - d.2) * (a.1 - d.1)) +
  ((c.1 - d.1) * (c.1 - d.1) + (c.2 - d.2) * (c.2 - d.2)) * ((a.1 - d.1) * (b.2 - d.2) - (a.2 - d.2) * (b.1 - d.1))

def n2 (a b : Int × Int) : Int := (b.1 - a.1) * (b.1 - a.1) + (b.2 - a.2) * (b.2 - a.2)
def nn2 (a : Int × Int) : Int := a.1 * a.1 + a.2 * a.2

theorem inC_a (a b c d : Int × Int) : inC a b c d = tI a d c * n2 a b - tI b a d * n2 a c - tI a b c * n2 a d := by
  obtain ⟨a1, a2⟩ := a; obtain ⟨b1, b2⟩ := b; obtain ⟨c1, c2⟩ := c; obtain ⟨d1, d2⟩ := d
  simp only [inC, tI, n2]
  grind
theorem inC_cyc (a b c d : Int × Int) : inC a b c d = inC b c a d := by
  unfold inC; omega
theorem inC_all (a b c d : Int × Int) : inC a b c d = nn2 a * tI d b c + nn2 b * tI a d c - nn2 c * tI b a d - nn2 d * tI a b c := by
  obtain ⟨a1, a2⟩ := a; obtain ⟨b1, b2⟩ := b; obtain ⟨c1, c2⟩ := c; obtain ⟨d1, d2⟩ := d
  simp only [inC, tI, nn2]
  grind
theorem inC_b (a b c d : Int × Int) : inC a b c d = tI d b c * n2 b a - tI b a d * n2 b c - tI a b c * n2 b d := by
  obtain ⟨a1, a2⟩ := a; obtain ⟨b1, b2⟩ := b; obtain ⟨c1, c2⟩ := c; obtain ⟨d1, d2⟩ := d
  simp only [inC, tI, n2]
  grind

theorem n2_nn (a b : Int × Int) : 0 ≤ n2 a b := by
  have := sq_nonneg (b.1 - a.1)
  have := sq_nonneg (b.2 - a.2)
  unfold n2; omega

/-- The further corner of the one triangle lies strictly within the other's circle: the quadrangle juts out everywhere. -/
theorem flip_pos {a b c d : Int × Int} (h1 : 0 < tI a b c) (h2 : 0 < tI b a d) (h : 0 < inC a b c d) : 0 < tI a d c ∧ 0 < tI d b c := by
  constructor
  · have e := inC_a a b c d
    have k1 := Int.mul_nonneg (Int.le_of_lt h2) (n2_nn a c)
    have k2 := Int.mul_nonneg (Int.le_of_lt h1) (n2_nn a d)
    apply Classical.byContradiction
    intro q
    have := Int.mul_nonpos_of_nonpos_of_nonneg (show tI a d c ≤ 0 by omega) (n2_nn a b)
    omega
  · have e := inC_b a b c d
    have k1 := Int.mul_nonneg (Int.le_of_lt h2) (n2_nn b c)
    have k2 := Int.mul_nonneg (Int.le_of_lt h1) (n2_nn b d)
    apply Classical.byContradiction
    intro q
    have := Int.mul_nonpos_of_nonpos_of_nonneg (show tI d b c ≤ 0 by omega) (n2_nn b a)
    omega

/-- What lies beneath a triangle that is lifted. -/
def lift (a b c : Int × Int) : Int := tI a b c * (nn2 a + nn2 b + nn2 c)

theorem lift_cyc (a b c : Int × Int) : lift a b c = lift b c a := by
  unfold lift
  have : nn2 a + nn2 b + nn2 c = nn2 b + nn2 c + nn2 a := by omega
  rw [this]
  have : tI a b c = tI b c a := tI_cyc a b c
  rw [this]

/-- Each change of an edge lowers it by as much as the corner lies within. -/
theorem flip_lift (a b c d : Int × Int) : lift a b c + lift b a d = lift a d c + lift d b c + inC a b c d := by
  rw [inC_all]
  obtain ⟨a1, a2⟩ := a; obtain ⟨b1, b2⟩ := b; obtain ⟨c1, c2⟩ := c; obtain ⟨d1, d2⟩ := d
  simp only [lift, tI, nn2]
  grind

theorem lift_nn {a b c : Int × Int} (h : 0 < tI a b c) : 0 ≤ lift a b c := by
  unfold lift
  have s : ∀ p : Int × Int, 0 ≤ nn2 p := fun p => by
    have := sq_nonneg p.1
    have := sq_nonneg p.2
    unfold nn2; omega
  exact Int.mul_nonneg (Int.le_of_lt h) (by have := s a; have := s b; have := s c; omega)

theorem flip_area (a b c d : Int × Int) : tI a b c + tI b a d = tI a d c + tI d b c := by unfold tI; grind

theorem inC_swap (a b c d : Int × Int) : inC b a d c = inC a b c d := by
  rw [inC_all, inC_all]
  have e1 : tI c a d = tI a d c := tI_cyc c a d
  have e2 : tI b c d = tI d b c := (tI_cyc d b c).symm
  rw [e1, e2]
  omega

/-- The two circles through a and b, beyond the line between. -/
theorem power (a b c d v : Int × Int) : tI a b c * inC b a d v - tI b a d * inC a b c v = - (inC a b c d * tI b a v) := by
  obtain ⟨a1, a2⟩ := a; obtain ⟨b1, b2⟩ := b; obtain ⟨c1, c2⟩ := c; obtain ⟨d1, d2⟩ := d; obtain ⟨v1, v2⟩ := v
  simp only [inC, tI]
  grind
end

section
set_option linter.unusedVariables false

section
variable {α : Type}

def sm (f : α → Int) : List α → Int
  | [] => 0
  | a :: l => f a + sm f l

theorem sm_append (f : α → Int) : ∀ l m, sm f (l ++ m) = sm f l + sm f m
  | [], m => by simp [sm]
  | a :: l, m => by simp only [List.cons_append, sm, sm_append f l m]; omega
theorem sm_perm {f : α → Int} {l m : List α} (h : l.Perm m) : sm f l = sm f m := by
  induction h with
  | nil => rfl
  | cons a _ ih => simp only [sm, ih]
  | swap a b l => simp only [sm]; omega
  | trans _ _ i j => rw [i, j]
theorem sm_map {β : Type} (f : β → Int) (g : α → β) : ∀ l, sm f (l.map g) = sm (fun a => f (g a)) l
  | [] => rfl
  | a :: l => by simp only [List.map, sm, sm_map f g l]
theorem sm_neg (f : α → Int) : ∀ l, sm (fun a => - f a) l = - sm f l
  | [] => by simp [sm]
  | a :: l => by simp only [sm, sm_neg f l]; omega
theorem sm_congr {f g : α → Int} : ∀ {l : List α}, (∀ a ∈ l, f a = g a) → sm f l = sm g l
  | [], _ => rfl
  | a :: l, h => by simp only [sm]; rw [h a (by simp), sm_congr fun x hx => h x (by simp [hx])]

def sx (e : α × α) : α × α := (e.2, e.1)

/-- Of all directed edges those that go both ways cancel, and the ring's are left: so are their sums. -/
theorem cancel [DecidableEq α] {E R : List (α × α)} (hE : E.Nodup) (hR : R.Nodup) (sub : ∀ e ∈ R, e ∈ E) (own : ∀ e ∈ E, e ∈ R → sx e ∉ E) (back : ∀ e ∈ E, e ∉ R → sx e ∈ E)
    (F : α → α → Int) (hF : ∀ a b, F b a = - F a b) : sm (fun e => F e.1 e.2) E = sm (fun e => F e.1 e.2) R := by
  have split := sm_perm (f := fun e : α × α => F e.1 e.2) (List.filter_append_perm (fun e => decide (e ∈ R)) E)
  rw [sm_append] at split
  have o : (E.filter fun e => decide (e ∈ R)).Perm R := by
    rw [List.perm_ext_iff_of_nodup (hE.filter _) hR]
    intro e
    simp only [List.mem_filter, decide_eq_true_eq]
    exact ⟨fun h => h.2, fun h => ⟨sub e h, h⟩⟩
  have n : ((E.filter fun e => !decide (e ∈ R)).map sx).Perm (E.filter fun e => !decide (e ∈ R)) := by
    have inj : ((E.filter fun e => !decide (e ∈ R)).map sx).Nodup := by
      refine List.Pairwise.map _ ?_ (hE.filter _)
      intro a b hab q
      apply hab
      have q1 := congrArg Prod.fst q
      have q2 := congrArg Prod.snd q
      simp only [sx] at q1 q2
      exact Prod.ext q2 q1
    rw [List.perm_ext_iff_of_nodup inj (hE.filter _)]
    intro e
    simp only [List.mem_map, List.mem_filter, Bool.not_eq_true', decide_eq_false_iff_not]
    constructor
    · rintro ⟨f, ⟨h1, h2⟩, rfl⟩
      refine ⟨back f h1 h2, fun q => ?_⟩
      exact own _ (back f h1 h2) q h1
    · rintro ⟨h1, h2⟩
      refine ⟨sx e, ⟨back e h1 h2, fun q => ?_⟩, rfl⟩
      exact own _ (back e h1 h2) q h1
  have z := sm_perm (f := fun e : α × α => F e.1 e.2) n
  rw [sm_map, sm_congr (g := fun e : α × α => - F e.1 e.2) (fun a _ => by simp only [sx]; exact hF _ _), sm_neg] at z
  rw [sm_perm o] at split
  omega

end

theorem sm_sumE (F : (Int × Int) × (Int × Int) → Int) : ∀ l, sm F l = sumE F l
  | [] => rfl
  | e :: l => by simp only [sm, sumE, sm_sumE F l]

/-- How often a way goes round, odd or even: by the edges that are crossed. -/
def cross1 (p a b : Int × Int) : Bool := (decide (a.2 ≤ p.2) && (decide (p.2 < b.2) && decide (0 < tI a b p))) || (decide (b.2 ≤ p.2) && (decide (p.2 < a.2) && decide (tI a b p < 0)))

def odd1 (p : Int × Int) : List ((Int × Int) × (Int × Int)) → Bool
  | [] => false
  | e :: l => xor (cross1 p e.1 e.2) (odd1 p l)

theorem cross1_cr (p a b : Int × Int) : cross1 p a b = decide (cr p a b % 2 ≠ 0) := by
  unfold cross1 cr
  by_cases h1 : a.2 ≤ p.2 ∧ p.2 < b.2 ∧ 0 < tI a b p
  · rw [if_pos h1]; simp [h1.1, h1.2.1, h1.2.2]
  · rw [if_neg h1]
    by_cases h2 : b.2 ≤ p.2 ∧ p.2 < a.2 ∧ tI a b p < 0
    · rw [if_pos h2]; simp [h2.1, h2.2.1, h2.2.2]
    · rw [if_neg h2]
      have e1 : (decide (a.2 ≤ p.2) && (decide (p.2 < b.2) && decide (0 < tI a b p))) = false := by
        simp only [Bool.and_eq_false_iff, decide_eq_false_iff_not]; omega
      have e2 : (decide (b.2 ≤ p.2) && (decide (p.2 < a.2) && decide (tI a b p < 0))) = false := by
        simp only [Bool.and_eq_false_iff, decide_eq_false_iff_not]; omega
      rw [e1, e2]; rfl

theorem odd1_sum (p : Int × Int) : ∀ l, odd1 p l = decide (sumE (fun e => cr p e.1 e.2) l % 2 ≠ 0)
  | [] => rfl
  | e :: l => by
    simp only [odd1, sumE]
    rw [cross1_cr, odd1_sum p l]
    by_cases h1 : cr p e.1 e.2 % 2 = 0 <;> by_cases h2 : sumE (fun e => cr p e.1 e.2) l % 2 = 0
    · have : (cr p e.1 e.2 + sumE (fun e => cr p e.1 e.2) l) % 2 = 0 := by omega
      simp [h1, h2, this]
    · have : (cr p e.1 e.2 + sumE (fun e => cr p e.1 e.2) l) % 2 ≠ 0 := by omega
      simp [h1, h2, this]
    · have : (cr p e.1 e.2 + sumE (fun e => cr p e.1 e.2) l) % 2 ≠ 0 := by omega
      simp [h1, h2, this]
    · have : (cr p e.1 e.2 + sumE (fun e => cr p e.1 e.2) l) % 2 = 0 := by omega
      simp [h1, h2, this]

/-- Inside: crossed oddly often, or gone round. -/
theorem odd_wc {P : List (Int × Int)} (hs : Simple P) {p : Int × Int} (fr : Free p P) : odd1 p (edges P) = true ↔ wc p P ≠ 0 := by
  rw [odd1_sum]
  obtain ⟨ρ, hR⟩ := hs.rho
  have h := hR.at fr
  have h1 := hR.1
  unfold wc at h ⊢
  simp only [decide_eq_true_eq]
  omega
end

section
set_option linter.unusedVariables false

theorem bary3 (a b d x p v : Int × Int) : tI a d x * tI p v b + tI d b x * tI p v a + tI b a x * tI p v d = tI b a d * tI p v x := by
  obtain ⟨a1, a2⟩ := a; obtain ⟨b1, b2⟩ := b; obtain ⟨d1, d2⟩ := d; obtain ⟨x1, x2⟩ := x; obtain ⟨p1, p2⟩ := p; obtain ⟨v1, v2⟩ := v
  simp only [tI]
  grind

theorem tI_end (p v : Int × Int) : tI p v p = 0 ∧ tI p v v = 0 := by
  constructor <;> (unfold tI; grind)

theorem sum3 (a b d x : Int × Int) : tI b a x + tI a d x + tI d b x = tI b a d := by unfold tI; grind

/-- Further along, on the side of a: the next edge is d b; p lies to its left. -/
theorem left_db {a b d p v : Int × Int} (hE : 0 < tI b a d) (hp : tI b a p < 0) (ha : tI p v a < 0) (hb : 0 < tI p v b) (hd : tI p v d < 0) : 0 < tI d b p := by
  have e := bary3 a b d p p v
  rw [(tI_end p v).1, Int.mul_zero] at e
  have s := sum3 a b d p
  apply Classical.byContradiction
  intro q
  have k1 := Int.mul_pos (show 0 < tI a d p by omega) hb
  have k2 : 0 ≤ tI d b p * tI p v a := Int.mul_nonneg_of_nonpos_of_nonpos (by omega) (by omega)
  have k3 : 0 < tI b a p * tI p v d := Int.mul_pos_of_neg_of_neg hp hd
  omega

/-- On the side of b: the next edge is a d. -/
theorem left_ad {a b d p v : Int × Int} (hE : 0 < tI b a d) (hp : tI b a p < 0) (ha : tI p v a < 0) (hb : 0 < tI p v b) (hd : 0 < tI p v d) : 0 < tI a d p := by
  have e := bary3 a b d p p v
  rw [(tI_end p v).1, Int.mul_zero] at e
  have s := sum3 a b d p
  apply Classical.byContradiction
  intro q
  have k1 : tI a d p * tI p v b ≤ 0 := Int.mul_nonpos_of_nonpos_of_nonneg (by omega) (by omega)
  have k2 : tI d b p * tI p v a < 0 := Int.mul_neg_of_pos_of_neg (by omega) ha
  have k3 : tI b a p * tI p v d < 0 := Int.mul_neg_of_neg_of_pos hp hd
  omega

/-- Not beyond the next edge: within. -/
theorem in_db {a b d p v : Int × Int} (hv : 0 < tI b a v) (ha : tI p v a < 0) (hb : 0 < tI p v b) (hd : tI p v d < 0) (h : 0 ≤ tI d b v) : 0 < tI a d v := by
  have e := bary3 a b d v p v
  rw [(tI_end p v).2, Int.mul_zero] at e
  have k2 : tI d b v * tI p v a ≤ 0 := Int.mul_nonpos_of_nonneg_of_nonpos h (by omega)
  have k3 : tI b a v * tI p v d < 0 := Int.mul_neg_of_pos_of_neg hv hd
  apply Classical.byContradiction
  intro q
  have k1 : tI a d v * tI p v b ≤ 0 := Int.mul_nonpos_of_nonpos_of_nonneg (by omega) (by omega)
  omega

theorem in_ad {a b d p v : Int × Int} (hv : 0 < tI b a v) (ha : tI p v a < 0) (hb : 0 < tI p v b) (hd : 0 < tI p v d) (h : 0 ≤ tI a d v) : 0 < tI d b v := by
  have e := bary3 a b d v p v
  rw [(tI_end p v).2, Int.mul_zero] at e
  have k2 : 0 ≤ tI a d v * tI p v b := Int.mul_nonneg h (by omega)
  have k3 : 0 < tI b a v * tI p v d := Int.mul_pos hv hd
  apply Classical.byContradiction
  intro q
  have k1 : 0 ≤ tI d b v * tI p v a := Int.mul_nonneg_of_nonpos_of_nonpos (by omega) (by omega)
  omega

/-- The crossings rise. -/
theorem rise_db (a b d p v : Int × Int) : tI a b p * tI d b v - tI d b p * tI a b v = tI p v b * tI b a d := by
  obtain ⟨a1, a2⟩ := a; obtain ⟨b1, b2⟩ := b; obtain ⟨d1, d2⟩ := d; obtain ⟨p1, p2⟩ := p; obtain ⟨v1, v2⟩ := v
  simp only [tI]
  grind
theorem rise_ad (a b d p v : Int × Int) : tI a b p * tI a d v - tI a d p * tI a b v = - (tI p v a * tI b a d) := by
  obtain ⟨a1, a2⟩ := a; obtain ⟨b1, b2⟩ := b; obtain ⟨d1, d2⟩ := d; obtain ⟨p1, p2⟩ := p; obtain ⟨v1, v2⟩ := v
  simp only [tI]
  grind
end

section
set_option linter.unusedVariables false

/-- One of the triangles, told from any corner on. -/
def Has (C : List T3) (a b c : Int × Int) : Prop := (a, b, c) ∈ C ∨ (b, c, a) ∈ C ∨ (c, a, b) ∈ C

theorem Has.cyc {C : List T3} {a b c : Int × Int} (h : Has C a b c) : Has C b c a := by
  unfold Has at *
  rcases h with h | h | h
  · exact .inr (.inr h)
  · exact .inl h
  · exact .inr (.inl h)

section
variable {P : List (Int × Int)} {C : List T3}

theorem CutG.has_pos (h : CutG P C) {a b c : Int × Int} (ht : Has C a b c) : 0 < tI a b c := by
  have e1 := tI_cyc a b c
  have e2 := tI_cyc c a b
  rcases ht with g | g | g
  · exact h.pos _ g
  · have := h.pos _ g; simp only at this; omega
  · have := h.pos _ g; simp only at this; omega

theorem Has.scaled {a b c : Int × Int} (ht : Has C a b c) (K : Int) : Has (C.map (sc3 K)) (sc K a) (sc K b) (sc K c) := by
  rcases ht with g | g | g
  · exact .inl (List.mem_map.2 ⟨_, g, rfl⟩)
  · exact .inr (.inl (List.mem_map.2 ⟨_, g, rfl⟩))
  · exact .inr (.inr (List.mem_map.2 ⟨_, g, rfl⟩))

theorem CutG.has_in (h : CutG P C) (hs : Simple P) (hR : Rho P 1) {a b c y : Int × Int} (ht : Has C a b c) (h1 : 0 < tI a b y) (h2 : 0 < tI b c y) (h3 : 0 < tI c a y) : Free y P ∧ wc y P = 1 := by
  rcases ht with g | g | g
  · exact ⟨h.strict_free hs hR g ⟨h1, h2, h3⟩, h.strict_in hs hR g ⟨h1, h2, h3⟩⟩
  · exact ⟨h.strict_free hs hR g ⟨h2, h3, h1⟩, h.strict_in hs hR g ⟨h2, h3, h1⟩⟩
  · exact ⟨h.strict_free hs hR g ⟨h3, h1, h2⟩, h.strict_in hs hR g ⟨h3, h1, h2⟩⟩

/-- No corner lies between the ends of an edge that two triangles share. -/
theorem CutG.corner_edge (h : CutG P C) (hs : Simple P) (hR : Rho P 1) {x y c d v : Int × Int} (t1 : Has C x y c) (t2 : Has C y x d) (hv : v ∈ P) (on : onI x y v = true) (vx : v ≠ x) (vy : v ≠ y) : False := by
  have p1 := h.has_pos t1
  have p2 := h.has_pos t2
  have xy : x ≠ y := (tri_ne p1).1
  obtain ⟨o1, o2⟩ := open_side p1 on vx vy
  obtain ⟨o3, o4⟩ := open_side p2 (by rw [onI_comm]; exact on) vy vx
  obtain ⟨x0, hx0⟩ := begins hv
  have ne : v ≠ x0 := hs.ne hx0
  have tv : tI x y v = 0 := ((onI_iff _ _ _).1 on).1
  obtain ⟨n, hn⟩ : ∃ n : Int × Int, n = (x0.1 - v.1, x0.2 - v.2) := ⟨_, rfl⟩
  obtain ⟨K1, k1, j1⟩ := near_side n o1
  obtain ⟨K2, k2, j2⟩ := near_side n o2
  obtain ⟨K3, k3, j3⟩ := near_side n o3
  obtain ⟨K4, k4, j4⟩ := near_side n o4
  obtain ⟨K, hK⟩ : ∃ K, K = K1 + K2 + K3 + K4 := ⟨_, rfl⟩
  have hK0 : 0 < K := by omega
  have s1 := j1 K (by omega)
  have s2 := j2 K (by omega)
  have s3 := j3 K (by omega)
  have s4 := j4 K (by omega)
  obtain ⟨a1, a2, a3⟩ := end_step ne (K := K) (by omega)
  rw [← hn] at a1 a2 a3
  obtain ⟨z, hz⟩ : ∃ z, z = ad (sc K v) n := ⟨_, rfl⟩
  have tz : tI (sc K x) (sc K y) z = K * cx x y n := by rw [hz, tI_ad, tv, Int.mul_zero, Int.zero_add]
  rw [← hz] at s1 s2 s3 s4 a1 a2 a3
  have hc := h.scaled hK0
  have hsK := hs.sc hK0
  have hRK := hR.scaled hK0
  have heK : (sc K v, sc K x0) ∈ edges (P.map (sc K)) := by rw [edges_map]; exact List.mem_map.2 ⟨_, hx0, rfl⟩
  rcases Int.lt_trichotomy (tI (sc K x) (sc K y) z) 0 with g | g | g
  · have := (hc.has_in hsK hRK (t2.scaled K) (by rw [tI_neg]; omega) s3 s4).1 _ heK
    simp only at this
    rw [a1] at this; cases this
  · obtain ⟨l1, l2, r, e1, e2⟩ := edge_last (by have := hsK.three; omega) heK
    simp only at e2
    have sR : Simple (sc K x0 :: r ++ [sc K v]) := by rw [← e2]; rw [e1] at hsK; exact hsK.rot
    have rR : Rho (sc K x0 :: r ++ [sc K v]) 1 := by rw [← e2]; rw [e1] at hRK; exact hRK.rot
    obtain ⟨L0, l0, i0⟩ := sides sR rR a1 a2 a3
    obtain ⟨D, hD⟩ : ∃ D, D = dd (sc K v) (sc K x0) := ⟨_, rfl⟩
    have dr := dd_right (sc_ne hK0 ne)
    rw [← hD] at dr i0
    -- the step leads off the line
    have off : cx x y D ≠ 0 := by
      intro q
      have cn : cx x y n = 0 := by
        rw [tz] at g
        rcases Int.mul_eq_zero.1 g with k | k
        · omega
        · exact k
      have w1 : (y.1 - x.1) * (n.1 * D.2 - n.2 * D.1) = n.1 * cx x y D - D.1 * cx x y n := by unfold cx; grind
      have w2 : (y.2 - x.2) * (n.1 * D.2 - n.2 * D.1) = n.2 * cx x y D - D.2 * cx x y n := by unfold cx; grind
      rw [q, cn, Int.mul_zero, Int.mul_zero] at w1 w2
      have cv : cx (sc K v) (sc K x0) D = K * (n.1 * D.2 - n.2 * D.1) := by rw [hn]; unfold cx sc; grind
      have nz : n.1 * D.2 - n.2 * D.1 ≠ 0 := by intro k; rw [cv, k, Int.mul_zero] at dr; omega
      have m1 : y.1 - x.1 = 0 := by rcases Int.mul_eq_zero.1 w1 with k | k; exact k; exact absurd k nz
      have m2 : y.2 - x.2 = 0 := by rcases Int.mul_eq_zero.1 w2 with k | k; exact k; exact absurd k nz
      exact xy (Prod.ext (by omega) (by omega))
    obtain ⟨M1, m1, i1⟩ := near_side D s1
    obtain ⟨M2, m2, i2⟩ := near_side D s2
    obtain ⟨M3, m3, i3⟩ := near_side D s3
    obtain ⟨M4, m4, i4⟩ := near_side D s4
    obtain ⟨M, hM⟩ : ∃ M, M = L0 + M1 + M2 + M3 + M4 := ⟨_, rfl⟩
    have hM0 : 0 < M := by omega
    obtain ⟨_, _, val⟩ := i0 M (by omega)
    have ty : tI (sc M (sc K x)) (sc M (sc K y)) (ad (sc M z) D) = M * (K * cx x y D) := by
      rw [tI_ad, g, Int.mul_zero, Int.zero_add]
      have : cx (sc K x) (sc K y) D = K * cx x y D := by unfold cx sc; grind
      rw [this]
    have hcM := hc.scaled hM0
    have one : wc (ad (sc M z) D) ((P.map (sc K)).map (sc M)) = 1 := by
      rcases Int.lt_or_gt_of_ne off with k | k
      · refine (hcM.has_in (hsK.sc hM0) (hRK.scaled hM0) ((t2.scaled K).scaled M) ?_ (i3 M (by omega)) (i4 M (by omega))).2
        rw [tI_neg, ty]
        have := Int.mul_neg_of_pos_of_neg hM0 (Int.mul_neg_of_pos_of_neg hK0 k)
        omega
      · refine (hcM.has_in (hsK.sc hM0) (hRK.scaled hM0) ((t1.scaled K).scaled M) ?_ (i1 M (by omega)) (i2 M (by omega))).2
        rw [ty]
        exact Int.mul_pos hM0 (Int.mul_pos hK0 k)
    have same : wc (ad (sc M z) D) ((P.map (sc K)).map (sc M)) = wc (ad (sc M z) D) ((sc K x0 :: r ++ [sc K v]).map (sc M)) := by
      rw [e1, ← e2, List.map_append, wc_rot, ← List.map_append]
    omega
  · have := (hc.has_in hsK hRK (t1.scaled K) g s1 s2).1 _ heK
    simp only at this
    rw [a1] at this; cases this

end
end

section
set_option linter.unusedVariables false

theorem between {q1 q2 p v d : Int × Int} (h : tI p v d = 0) (h1 : tI q1 q2 p ≤ tI q1 q2 d) (h2 : tI q1 q2 d ≤ tI q1 q2 v) (h3 : tI q1 q2 p < tI q1 q2 v) : onI p v d = true := by
  obtain ⟨F, hF⟩ : ∃ F, F = tI q1 q2 v - tI q1 q2 p := ⟨_, rfl⟩
  obtain ⟨G, hG⟩ : ∃ G, G = tI q1 q2 d - tI q1 q2 p := ⟨_, rfl⟩
  have e1 : F * (d.1 - p.1) - G * (v.1 - p.1) = - ((q2.1 - q1.1) * tI p v d) := by rw [hF, hG]; unfold tI; grind
  have e2 : F * (d.2 - p.2) - G * (v.2 - p.2) = - ((q2.2 - q1.2) * tI p v d) := by rw [hF, hG]; unfold tI; grind
  rw [h, Int.mul_zero] at e1 e2
  have hF0 : 0 < F := by omega
  have hFF := Int.mul_pos hF0 hF0
  have hGG : 0 ≤ G * (F - G) := Int.mul_nonneg (by omega) (by omega)
  have key : ∀ {D V : Int}, F * D = G * V → (0 - D) * (V - D) ≤ 0 := by
    intro D V e
    have e3 : (F * F) * ((0 - D) * (V - D)) = - ((G * (F - G)) * (V * V)) := by
      have : (F * F) * ((0 - D) * (V - D)) = -((F * D) * (F * V - F * D)) := by grind
      rw [this, e]; grind
    apply Classical.byContradiction
    intro q
    have k1 := Int.mul_pos hFF (show 0 < (0 - D) * (V - D) by omega)
    have k2 := Int.mul_nonneg hGG (sq_nonneg V)
    omega
  rw [onI_iff]
  refine ⟨h, ?_, ?_⟩
  · have := key (D := d.1 - p.1) (V := v.1 - p.1) (by omega)
    have e : (0 - (d.1 - p.1)) * ((v.1 - p.1) - (d.1 - p.1)) = (p.1 - d.1) * (v.1 - d.1) := by grind
    omega
  · have := key (D := d.2 - p.2) (V := v.2 - p.2) (by omega)
    have e : (0 - (d.2 - p.2)) * ((v.2 - p.2) - (d.2 - p.2)) = (p.2 - d.2) * (v.2 - d.2) := by grind
    omega

/-- The greatest of fractions. -/
theorem top_frac {α : Type} {Q : α → Prop} {N V : α → Int} (pos : ∀ x, Q x → 0 < N x ∧ V x < 0) : ∀ {l : List α}, (∃ x ∈ l, Q x) → ∃ x ∈ l, Q x ∧ ∀ y ∈ l, Q y → N x * V y - N y * V x ≤ 0
  | [], h => by obtain ⟨x, hx, _⟩ := h; simp at hx
  | a :: l, h => by
    by_cases hl : ∃ x ∈ l, Q x
    · obtain ⟨z, hz, qz, top⟩ := top_frac pos hl
      by_cases ha : Q a ∧ 0 < N z * V a - N a * V z
      · refine ⟨a, by simp, ha.1, fun y hy qy => ?_⟩
        rcases List.mem_cons.1 hy with g | g
        · subst g; omega
        · have t := top y g qy
          obtain ⟨n1, v1⟩ := pos a ha.1
          obtain ⟨n2, v2⟩ := pos z qz
          obtain ⟨n3, v3⟩ := pos y qy
          have u := ha.2
          -- N y (-V z) ≤ N z (-V y), N z (-V a) < N a (-V z)
          apply Classical.byContradiction
          intro q
          have q' : 0 < N a * V y - N y * V a := by omega
          have m1 := Int.mul_pos q' (show 0 < - V z by omega)
          have m2 := Int.mul_nonneg (show 0 ≤ -(N z * V y - N y * V z) by omega) (show 0 ≤ - V a by omega)
          have m3 := Int.mul_pos u (show 0 < - V y by omega)
          have e : (N a * V y - N y * V a) * (- V z) + (-(N z * V y - N y * V z)) * (- V a) + (N z * V a - N a * V z) * (- V y) = 0 := by grind
          omega
      · refine ⟨z, List.mem_cons_of_mem _ hz, qz, fun y hy qy => ?_⟩
        rcases List.mem_cons.1 hy with g | g
        · subst g
          apply Classical.byContradiction
          intro q
          exact ha ⟨qy, by omega⟩
        · exact top y g qy
    · obtain ⟨x, hx, qx⟩ := h
      rcases List.mem_cons.1 hx with g | g
      · subst g
        refine ⟨x, by simp, qx, fun y hy qy => ?_⟩
        rcases List.mem_cons.1 hy with k | k
        · subst k; omega
        · exact absurd ⟨y, k, qy⟩ hl
      · exact absurd ⟨x, g, qx⟩ hl

theorem inC_end (a b c : Int × Int) : inC a b c c = 0 := by unfold inC; grind

/-- A cut whose edges are the polygon's or shared; a good one. -/
structure CutN (P : List (Int × Int)) (C : List T3) : Prop where
  cut : CutG P C
  adj : ∀ a b c, Has C a b c → (a, b) ∈ edges P ∨ ∃ d, Has C b a d
  good : ∀ a b c d, Has C a b c → Has C b a d → inC a b c d ≤ 0
  corner : ∀ a b c, Has C a b c → a ∈ P

section
variable {P : List (Int × Int)} {C : List T3} {p v : Int × Int}

/-- A corner on the line hides. -/
theorem hides (hs : Simple P) (nb : ∀ e ∈ edges P, e.1 ≠ v → e.2 ≠ v → meetI p v e.1 e.2 = false) {x : Int × Int} (hx : x ∈ P) (xv : x ≠ v) : onI p v x = false := by
  obtain ⟨y, hy⟩ := begins hx
  by_cases yv : y = v
  · subst yv
    obtain ⟨l1, l2, r, e1, e2⟩ := edge_last (by have := hs.three; omega) hy
    simp only at e2
    have sR : Simple (y :: r ++ [x]) := by rw [← e2]; rw [e1] at hs; exact hs.rot
    have hr : r ≠ [] := by intro q; subst q; have := sR.three; simp at this
    obtain ⟨r', q, er⟩ := snoc_of_ne hr
    have hn := sR.nodup
    have qy : q ≠ y := by
      intro k; subst k
      rw [er] at hn; simp at hn
    have m : (q, x) ∈ edges P := by
      have k : (q, x) ∈ edges (y :: r ++ [x]) := by
        refine last_in ?_
        rw [er]
        have : r' ++ [q] ++ [x] = r' ++ q :: [x] := by simp
        rw [this, path_append]
        simp [path]
      rw [← e2] at k
      rw [e1]
      exact (edges_rot l1 l2).mem_iff.2 k
    exact (off_of_meet (nb _ m qy xv)).pb
  · exact (off_of_meet (nb _ hy xv yv)).pa

structure St (C : List T3) (p v a b c : Int × Int) : Prop where
  has : Has C a b c
  pl : 0 < tI a b p
  vr : tI a b v < 0
  al : tI p v a < 0
  be : 0 < tI p v b
  ic : 0 < inC a b c v

/-- Within no triangle, on none of its edges, if it is none of its corners. -/
theorem CutN.outside (h : CutN P C) (hs : Simple P) (hR : Rho P 1) (hv : v ∈ P) {a b c : Int × Int} (ht : Has C a b c) (va : v ≠ a) (vb : v ≠ b) (vc : v ≠ c) : ¬ InT a b c v := by
  intro hi
  have pos := h.cut.has_pos ht
  have e1 := tI_cyc a b c
  have e2 := tI_cyc c a b
  have edge : ∀ {x y z : Int × Int}, Has C x y z → v ≠ x → v ≠ y → onI x y v = true → False := by
    intro x y z hh k1 k2 on
    rcases h.adj x y z hh with g | ⟨d, g⟩
    · have := hs.corner g hv k1 k2
      simp only at this; rw [on] at this; cases this
    · exact h.cut.corner_edge hs hR hh g hv on k1 k2
  rcases Int.lt_or_eq_of_le hi.1 with g1 | g1
  · rcases Int.lt_or_eq_of_le hi.2.1 with g2 | g2
    · rcases Int.lt_or_eq_of_le hi.2.2 with g3 | g3
      · have := (h.cut.has_in hs hR ht g1 g2 g3).1
        obtain ⟨y, hy⟩ := begins hv
        have := this _ hy
        simp only at this
        rw [on_self'] at this; cases this
      · exact edge ht.cyc.cyc vc va (hi.cyc.cyc.on_uv (by omega) g3.symm)
    · exact edge ht.cyc vb vc (hi.cyc.on_uv (by omega) g2.symm)
  · exact edge ht va vb (hi.on_uv pos g1.symm)

/-- One step along the line. -/
theorem CutN.step (h : CutN P C) (hs : Simple P) (hR : Rho P 1) (hv : v ∈ P) (nb : ∀ e ∈ edges P, e.1 ≠ v → e.2 ≠ v → meetI p v e.1 e.2 = false) {a b c : Int × Int} (s : St C p v a b c) :
    ∃ a' b' c', St C p v a' b' c' ∧ 0 < tI a b p * tI a' b' v - tI a' b' p * tI a b v := by
  have va : v ≠ a := by intro q; have := s.vr; rw [q, (tI_same a b).1] at this; omega
  have vb : v ≠ b := by intro q; have := s.vr; rw [q, (tI_same a b).2.1] at this; omega
  have bap := tI_neg a b p
  have bav := tI_neg a b v
  have pl := s.pl
  have vr := s.vr
  rcases h.adj a b c s.has with g | ⟨d, hd⟩
  · exfalso
    exact (off_of_meet (nb _ g (Ne.symm va) (Ne.symm vb))).cr ⟨Int.mul_neg_of_neg_of_pos s.al s.be, Int.mul_neg_of_pos_of_neg pl vr⟩
  · have E := h.cut.has_pos hd
    have D := h.cut.has_pos s.has
    have gd := h.good a b c d s.has hd
    have pw := power a b c d v
    have ic : 0 < inC b a d v := by
      have k1 : inC a b c d * tI b a v ≤ 0 := Int.mul_nonpos_of_nonpos_of_nonneg gd (by omega)
      have k2 := Int.mul_pos E s.ic
      exact pos_of_mul_pos (Int.le_of_lt D) (show 0 < tI a b c * inC b a d v by omega)
    have dv : v ≠ d := by intro q; rw [q, inC_end] at ic; omega
    have out := h.outside hs hR hv hd vb va dv
    have dP : d ∈ P := h.corner d b a hd.cyc.cyc
    rcases Int.lt_trichotomy (tI p v d) 0 with g | g | g
    · refine ⟨d, b, a, ⟨hd.cyc.cyc, left_db E (by omega) s.al s.be g, ?_, g, s.be, ?_⟩, ?_⟩
      · apply Int.not_le.1
        intro q
        have := in_db (d := d) (show 0 < tI b a v by omega) s.al s.be g q
        exact out ⟨by omega, by omega, q⟩
      · rw [inC_cyc]; exact ic
      · rw [rise_db]; exact Int.mul_pos s.be E
    · exfalso
      have hid := hides hs nb dP (Ne.symm dv)
      have e := bary3 a b d v p v
      rw [(tI_end p v).2, g, Int.mul_zero, Int.mul_zero, Int.add_zero] at e
      have sm := sum3 a b d v
      by_cases k : 0 ≤ tI a d v
      · have k2 : 0 ≤ tI d b v := by
          apply Int.not_lt.1
          intro q
          have m1 := Int.mul_nonneg k (Int.le_of_lt s.be)
          have m2 := Int.mul_pos_of_neg_of_neg q s.al
          omega
        exact out ⟨by omega, k, k2⟩
      · have k2 : tI d b v ≤ 0 := by
          apply Int.not_lt.1
          intro q
          have m1 := Int.mul_neg_of_neg_of_pos (show tI a d v < 0 by omega) s.be
          have m2 := Int.mul_neg_of_pos_of_neg q s.al
          omega
        have := between (q1 := b) (q2 := a) g (by omega) (by omega) (by omega)
        rw [hid] at this; cases this
    · refine ⟨a, d, b, ⟨hd.cyc, left_ad E (by omega) s.al s.be g, ?_, s.al, g, ?_⟩, ?_⟩
      · apply Int.not_le.1
        intro q
        have := in_ad (d := d) (show 0 < tI b a v by omega) s.al s.be g q
        exact out ⟨by omega, q, by omega⟩
      · rw [← inC_cyc b a d v]; exact ic
      · rw [rise_ad]
        have := Int.mul_neg_of_neg_of_pos s.al E
        omega

def rots (C : List T3) : List T3 := C ++ (C.map fun t => (t.2.1, t.2.2, t.1)) ++ C.map fun t => (t.2.2, t.1, t.2.1)

theorem mem_rots {a b c : Int × Int} (h : Has C a b c) : (a, b, c) ∈ rots C := by
  unfold rots
  simp only [List.mem_append, List.mem_map]
  rcases h with g | g | g
  · exact .inl (.inl g)
  · exact .inr ⟨_, g, rfl⟩
  · exact .inl (.inr ⟨_, g, rfl⟩)

/-- No line of sight crosses a triangle whose circle holds the corner. -/
theorem CutN.walk (h : CutN P C) (hs : Simple P) (hR : Rho P 1) (hv : v ∈ P) (nb : ∀ e ∈ edges P, e.1 ≠ v → e.2 ≠ v → meetI p v e.1 e.2 = false) {a b c : Int × Int} : ¬ St C p v a b c := by
  intro s
  obtain ⟨t, ht, st, top⟩ := top_frac (Q := fun t : T3 => St C p v t.1 t.2.1 t.2.2) (N := fun t => tI t.1 t.2.1 p) (V := fun t => tI t.1 t.2.1 v) (fun t st => ⟨st.pl, st.vr⟩) (l := rots C) ⟨(a, b, c), mem_rots s.has, s⟩
  obtain ⟨a', b', c', st', rise⟩ := h.step hs hR hv nb st
  have := top (a', b', c') (mem_rots st'.has) st'
  simp only at this
  omega

/-- Where the line leaves the triangle. -/
theorem exit_edge {a b c p v : Int × Int} (p1 : 0 < tI a b p) (p2 : 0 < tI b c p) (p3 : 0 < tI c a p) (al : tI p v a < 0) (be : 0 < tI p v b) (out : ¬ InT a b c v) : tI a b v < 0 := by
  apply Int.not_le.1
  intro q
  have e := bary3 b a c v p v
  rw [(tI_end p v).2, Int.mul_zero] at e
  have d1 : tI c a v - tI c a p = tI p v c - tI p v a := by unfold tI; grind
  have d2 : tI b c v - tI b c p = tI p v b - tI p v c := by unfold tI; grind
  rcases Int.lt_or_le (tI p v c) 0 with g | g
  · have k1 : 0 < tI b c v := by omega
    have m1 := Int.mul_neg_of_pos_of_neg k1 al
    have m2 : tI a b v * tI p v c ≤ 0 := Int.mul_nonpos_of_nonneg_of_nonpos q (by omega)
    have k2 : 0 < tI c a v := by
      apply Int.not_le.1; intro k
      have := Int.mul_nonpos_of_nonpos_of_nonneg k (Int.le_of_lt be)
      omega
    exact out ⟨q, by omega, by omega⟩
  · have k1 : 0 < tI c a v := by omega
    have m1 := Int.mul_pos k1 be
    have m2 := Int.mul_nonneg q g
    have k2 : 0 < tI b c v := by
      apply Int.not_le.1; intro k
      have := Int.mul_nonneg_of_nonpos_of_nonpos k (Int.le_of_lt al)
      omega
    exact out ⟨q, by omega, by omega⟩

/-- A corner straight ahead. -/
theorem exit_corner {a b c p v : Int × Int} (p1 : 0 < tI a b p) (p2 : 0 < tI b c p) (p3 : 0 < tI c a p) (al : tI p v a < 0) (be : tI p v b = 0) (ga : 0 < tI p v c) (out : ¬ InT a b c v) : onI p v b = true := by
  have e := bary3 b a c v p v
  rw [(tI_end p v).2, Int.mul_zero, be, Int.mul_zero] at e
  have d1 : tI c a v - tI c a p = tI p v c - tI p v a := by unfold tI; grind
  have sp := sum3 b a c p
  have sv := sum3 b a c v
  have hb : tI c a b = tI a b c := tI_cyc c a b
  by_cases k : 0 ≤ tI b c v
  · have k2 : 0 ≤ tI a b v := by
      apply Int.not_lt.1; intro q
      have m1 := Int.mul_nonneg_of_nonpos_of_nonpos (Int.le_of_lt q) (show -(tI p v c) ≤ 0 by omega)
      have m2 := Int.mul_neg_of_neg_of_pos q ga
      have m3 := Int.mul_nonpos_of_nonneg_of_nonpos k (Int.le_of_lt al)
      omega
    exact absurd ⟨k2, k, by omega⟩ out
  · have k2 : tI a b v ≤ 0 := by
      apply Int.not_lt.1; intro q
      have m2 := Int.mul_pos q ga
      have m3 := Int.mul_pos_of_neg_of_neg (show tI b c v < 0 by omega) al
      omega
    exact between (q1 := c) (q2 := a) be (by omega) (by omega) (by omega)

/-- From within a triangle a corner strictly within its circle cannot be seen. -/
theorem CutN.unseen (h : CutN P C) (hs : Simple P) (hR : Rho P 1) (hv : v ∈ P) {a b c : Int × Int} (ht : Has C a b c) (p1 : 0 < tI a b p) (p2 : 0 < tI b c p) (p3 : 0 < tI c a p) (ic : 0 < inC a b c v) :
    ∃ e ∈ edges P, e.1 ≠ v ∧ e.2 ≠ v ∧ meetI p v e.1 e.2 = true := by
  apply Classical.byContradiction
  intro no
  have nb : ∀ e ∈ edges P, e.1 ≠ v → e.2 ≠ v → meetI p v e.1 e.2 = false := by
    intro e he k1 k2
    cases q : meetI p v e.1 e.2 with
    | false => rfl
    | true => exact absurd ⟨e, he, k1, k2, q⟩ no
  have vc : v ≠ c := by intro q; rw [q, inC_end] at ic; omega
  have va : v ≠ a := by intro q; rw [inC_cyc, q, inC_end] at ic; omega
  have vb : v ≠ b := by intro q; rw [inC_cyc, inC_cyc, q, inC_end] at ic; omega
  have out := h.outside hs hR hv ht va vb vc
  have go : ∀ {x y z : Int × Int}, Has C x y z → 0 < tI x y p → 0 < tI y z p → 0 < tI z x p → ¬ InT x y z v → 0 < inC x y z v → tI p v x < 0 → 0 < tI p v y → False :=
    fun hh q1 q2 q3 qo qi k1 k2 => h.walk hs hR hv nb ⟨hh, q1, exit_edge q1 q2 q3 k1 k2 qo, k1, k2, qi⟩
  have hit : ∀ {x y z : Int × Int}, Has C x y z → 0 < tI x y p → 0 < tI y z p → 0 < tI z x p → ¬ InT x y z v → v ≠ y → tI p v x < 0 → tI p v y = 0 → 0 < tI p v z → False := by
    intro x y z hh q1 q2 q3 qo vy k1 k2 k3
    have o := exit_corner q1 q2 q3 k1 k2 k3 qo
    have := hides hs nb (h.corner _ _ _ hh.cyc) (Ne.symm vy)
    rw [o] at this; cases this
  have outb : ¬ InT b c a v := fun k => out k.cyc.cyc
  have outc : ¬ InT c a b v := fun k => out k.cyc
  have icb : 0 < inC b c a v := by rw [← inC_cyc]; exact ic
  have icc : 0 < inC c a b v := by rw [inC_cyc]; exact ic
  have e := bary3 b a c p p v
  rw [(tI_end p v).1, Int.mul_zero] at e
  rcases Int.lt_trichotomy (tI p v a) 0 with ga | ga | ga
  · rcases Int.lt_trichotomy (tI p v b) 0 with gb | gb | gb
    · have gc : 0 < tI p v c := by
        apply Int.not_le.1; intro k
        have m1 := Int.mul_neg_of_pos_of_neg p2 ga
        have m2 := Int.mul_neg_of_pos_of_neg p3 gb
        have m3 := Int.mul_nonpos_of_nonneg_of_nonpos (Int.le_of_lt p1) k
        omega
      exact go ht.cyc p2 p3 p1 outb icb gb gc
    · have gc : 0 < tI p v c := by
        apply Int.not_le.1; intro k
        have m1 := Int.mul_neg_of_pos_of_neg p2 ga
        rw [gb, Int.mul_zero] at e
        have m3 := Int.mul_nonpos_of_nonneg_of_nonpos (Int.le_of_lt p1) k
        omega
      exact hit ht p1 p2 p3 out vb ga gb gc
    · exact go ht p1 p2 p3 out ic ga gb
  · rw [ga, Int.mul_zero] at e
    rcases Int.lt_trichotomy (tI p v b) 0 with gb | gb | gb
    · have gc : 0 < tI p v c := by
        apply Int.not_le.1; intro k
        have m2 := Int.mul_neg_of_pos_of_neg p3 gb
        have m3 := Int.mul_nonpos_of_nonneg_of_nonpos (Int.le_of_lt p1) k
        omega
      exact go ht.cyc p2 p3 p1 outb icb gb gc
    · -- all three on one line with p and v
      rw [gb, Int.mul_zero] at e
      have gc : tI p v c = 0 := by
        have : tI a b p * tI p v c = 0 := by omega
        rcases Int.mul_eq_zero.1 this with k | k
        · omega
        · exact k
      have D : 0 < tI a b c := h.cut.has_pos ht
      have f1 := bary3 b a c (p.1 + 1, p.2) p v
      have f2 := bary3 b a c (p.1, p.2 + 1) p v
      rw [ga, gb, gc, Int.mul_zero, Int.mul_zero, Int.mul_zero] at f1 f2
      have z1 : tI p v (p.1 + 1, p.2) = 0 := by
        rcases Int.mul_eq_zero.1 f1.symm with k | k
        · omega
        · exact k
      have z2 : tI p v (p.1, p.2 + 1) = 0 := by
        rcases Int.mul_eq_zero.1 f2.symm with k | k
        · omega
        · exact k
      have y1 : v.2 = p.2 := by unfold tI at z1; grind
      have y2 : v.1 = p.1 := by unfold tI at z2; grind
      have : v = p := Prod.ext y2 y1
      rw [this] at out
      exact out ⟨by omega, by omega, by omega⟩
    · have gc : tI p v c < 0 := by
        apply Int.not_le.1; intro k
        have m2 := Int.mul_pos p3 gb
        have m3 := Int.mul_nonneg (Int.le_of_lt p1) k
        omega
      exact hit ht.cyc.cyc p3 p1 p2 outc va gc ga gb
  · rcases Int.lt_trichotomy (tI p v c) 0 with gc | gc | gc
    · exact go ht.cyc.cyc p3 p1 p2 outc icc gc ga
    · have gb : tI p v b < 0 := by
        apply Int.not_le.1; intro k
        have m1 := Int.mul_pos p2 ga
        rw [gc, Int.mul_zero] at e
        have m3 := Int.mul_nonneg (Int.le_of_lt p3) k
        omega
      exact hit ht.cyc p2 p3 p1 outb vc gb gc ga
    · have gb : tI p v b < 0 := by
        apply Int.not_le.1; intro k
        have m1 := Int.mul_pos p2 ga
        have m2 := Int.mul_pos p1 gc
        have m3 := Int.mul_nonneg (Int.le_of_lt p3) k
        omega
      exact go ht.cyc p2 p3 p1 outb icb gb gc

end
end

section
set_option linter.unusedVariables false

theorem inC_sc (K : Int) (a b c d : Int × Int) : inC (sc K a) (sc K b) (sc K c) (sc K d) = (K * K * (K * K)) * inC a b c d := by
  unfold inC sc; grind

theorem sc_inj {K : Int} (hK : 0 < K) {a b : Int × Int} (h : sc K a = sc K b) : a = b := by
  unfold sc at h
  simp only [Prod.mk.injEq] at h
  exact Prod.ext (Int.eq_of_mul_eq_mul_left (by omega) h.1) (Int.eq_of_mul_eq_mul_left (by omega) h.2)

theorem has_unsc {C : List T3} {K : Int} {a b c : Int × Int} (h : Has (C.map (sc3 K)) a b c) : ∃ a' b' c', Has C a' b' c' ∧ a = sc K a' ∧ b = sc K b' ∧ c = sc K c' := by
  have key : ∀ {x y z : Int × Int}, (x, y, z) ∈ C.map (sc3 K) → ∃ x' y' z', (x', y', z') ∈ C ∧ x = sc K x' ∧ y = sc K y' ∧ z = sc K z' := by
    intro x y z h
    obtain ⟨⟨x', y', z'⟩, ht, e⟩ := List.mem_map.1 h
    simp only [sc3, Prod.mk.injEq] at e
    exact ⟨x', y', z', ht, e.1.symm, e.2.1.symm, e.2.2.symm⟩
  rcases h with h | h | h
  · obtain ⟨x, y, z, h, e1, e2, e3⟩ := key h; exact ⟨x, y, z, .inl h, e1, e2, e3⟩
  · obtain ⟨x, y, z, h, e1, e2, e3⟩ := key h; exact ⟨z, x, y, .inr (.inl h), e3, e1, e2⟩
  · obtain ⟨x, y, z, h, e1, e2, e3⟩ := key h; exact ⟨y, z, x, .inr (.inr h), e2, e3, e1⟩

theorem CutN.scaled {P : List (Int × Int)} {C : List T3} (h : CutN P C) {K : Int} (hK : 0 < K) : CutN (P.map (sc K)) (C.map (sc3 K)) := by
  refine ⟨h.cut.scaled hK, fun a b c ht => ?_, fun a b c d h1 h2 => ?_, fun a b c ht => ?_⟩
  · obtain ⟨a', b', c', h', rfl, rfl, rfl⟩ := has_unsc ht
    rcases h.adj _ _ _ h' with g | ⟨d, g⟩
    · left
      rw [edges_map]
      exact List.mem_map.2 ⟨_, g, rfl⟩
    · exact .inr ⟨sc K d, g.scaled K⟩
  · obtain ⟨a', b', c', h1', rfl, rfl, rfl⟩ := has_unsc h1
    obtain ⟨b'', a'', d', h2', e1, e2, rfl⟩ := has_unsc h2
    obtain rfl := sc_inj hK e1
    obtain rfl := sc_inj hK e2
    rw [inC_sc]
    have g := h.good _ _ _ _ h1' h2'
    have k : 0 ≤ K * K * (K * K) := Int.mul_nonneg (sq_nonneg K) (sq_nonneg K)
    exact Int.mul_nonpos_of_nonneg_of_nonpos k g
  · obtain ⟨a', b', c', h', rfl, rfl, rfl⟩ := has_unsc ht
    exact List.mem_map.2 ⟨_, h.corner _ _ _ h', rfl⟩

/-- The point by weights. -/
def wpt (i j k : Int) (a b c : Int × Int) : Int × Int := (i * a.1 + j * b.1 + k * c.1, i * a.2 + j * b.2 + k * c.2)

theorem wpt_ab (i j k : Int) (a b c : Int × Int) : tI (sc (i + j + k) a) (sc (i + j + k) b) (wpt i j k a b c) = (i + j + k) * (k * tI a b c) := by
  unfold tI sc wpt; grind
theorem wpt_cyc (i j k : Int) (a b c : Int × Int) : wpt i j k a b c = wpt j k i b c a := by
  unfold wpt
  exact Prod.ext (by simp only; omega) (by simp only; omega)

/-- WHAT VISIBLE ASKS. -/
theorem CutN.hidden {P : List (Int × Int)} {C : List T3} (h : CutN P C) (hs : Simple P) (hR : Rho P 1) {v a b c : Int × Int} (hv : v ∈ P) (ht : Has C a b c) (ic : 0 < inC a b c v) {i j k : Int} (hi : 0 < i) (hj : 0 < j) (hk : 0 < k) :
    ∃ e ∈ edges P, e.1 ≠ v ∧ e.2 ≠ v ∧ meetI (wpt i j k a b c) (sc (i + j + k) v) (sc (i + j + k) e.1) (sc (i + j + k) e.2) = true := by
  have hw : 0 < i + j + k := by omega
  have pos := h.cut.has_pos ht
  have p1 : 0 < tI (sc (i + j + k) a) (sc (i + j + k) b) (wpt i j k a b c) := by
    rw [wpt_ab]; exact Int.mul_pos hw (Int.mul_pos hk pos)
  have p2 : 0 < tI (sc (i + j + k) b) (sc (i + j + k) c) (wpt i j k a b c) := by
    rw [wpt_cyc, show i + j + k = j + k + i by omega, wpt_ab, ← tI_cyc]; exact Int.mul_pos (by omega) (Int.mul_pos hi pos)
  have p3 : 0 < tI (sc (i + j + k) c) (sc (i + j + k) a) (wpt i j k a b c) := by
    rw [wpt_cyc, wpt_cyc, show i + j + k = k + i + j by omega, wpt_ab, tI_cyc]; exact Int.mul_pos (by omega) (Int.mul_pos hj pos)
  have hic : 0 < inC (sc (i + j + k) a) (sc (i + j + k) b) (sc (i + j + k) c) (sc (i + j + k) v) := by
    rw [inC_sc]
    exact Int.mul_pos (Int.mul_pos (Int.mul_pos hw hw) (Int.mul_pos hw hw)) ic
  obtain ⟨e, he, e1, e2, m⟩ := (h.scaled hw).unseen (hs.sc hw) (hR.scaled hw) (List.mem_map.2 ⟨v, hv, rfl⟩) (ht.scaled (i + j + k)) p1 p2 p3 hic
  rw [edges_map] at he
  obtain ⟨f, hf, rfl⟩ := List.mem_map.1 he
  exact ⟨f, hf, fun q => e1 (by simp only [q]), fun q => e2 (by simp only [q]), m⟩
end

section
set_option linter.unusedVariables false

/-- A cut whose edges are the polygon's or shared. -/
structure CutA (P : List (Int × Int)) (C : List T3) : Prop where
  cut : CutG P C
  adj : ∀ a b c, Has C a b c → (a, b) ∈ edges P ∨ ∃ d, Has C b a d
  corner : ∀ a b c, Has C a b c → a ∈ P

theorem CutA.good {P : List (Int × Int)} {C : List T3} (h : CutA P C) (g : ∀ a b c d, Has C a b c → Has C b a d → inC a b c d ≤ 0) : CutN P C := ⟨h.cut, h.adj, g, h.corner⟩

/-- The three edges of triangles. -/
theorem has_ring {P : List (Int × Int)} {C : List T3} (h : CutG P C) {e : (Int × Int) × (Int × Int)} (he : e ∈ edges P) : ∃ d, Has C e.1 e.2 d := by
  obtain ⟨⟨x, y, z⟩, ht, g⟩ := h.ring e he
  rcases g with g | g | g
  · subst g; exact ⟨z, .inl ht⟩
  · subst g; exact ⟨x, .inr (.inr ht)⟩
  · subst g; exact ⟨y, .inr (.inl ht)⟩

theorem ring_of {C : List T3} {a b d : Int × Int} (h : Has C a b d) : ∃ t ∈ C, (a, b) = (t.1, t.2.1) ∨ (a, b) = (t.2.1, t.2.2) ∨ (a, b) = (t.2.2, t.1) := by
  rcases h with h | h | h
  · exact ⟨_, h, .inl rfl⟩
  · exact ⟨_, h, .inr (.inr rfl)⟩
  · exact ⟨_, h, .inr (.inl rfl)⟩

theorem Has.append {C D : List T3} {a b c : Int × Int} : Has (C ++ D) a b c ↔ Has C a b c ∨ Has D a b c := by
  unfold Has
  simp only [List.mem_append]
  constructor
  · rintro ((h | h) | (h | h) | (h | h))
    · exact .inl (.inl h)
    · exact .inr (.inl h)
    · exact .inl (.inr (.inl h))
    · exact .inr (.inr (.inl h))
    · exact .inl (.inr (.inr h))
    · exact .inr (.inr (.inr h))
  · rintro ((h | h | h) | (h | h | h))
    · exact .inl (.inl h)
    · exact .inr (.inl (.inl h))
    · exact .inr (.inr (.inl h))
    · exact .inl (.inr h)
    · exact .inr (.inl (.inr h))
    · exact .inr (.inr (.inr h))

theorem has_one {x y z a b c : Int × Int} (h : Has [(x, y, z)] a b c) : (a = x ∧ b = y ∧ c = z) ∨ (a = y ∧ b = z ∧ c = x) ∨ (a = z ∧ b = x ∧ c = y) := by
  unfold Has at h
  simp only [List.mem_singleton, Prod.mk.injEq] at h
  rcases h with ⟨h1, h2, h3⟩ | ⟨h1, h2, h3⟩ | ⟨h1, h2, h3⟩
  · exact .inl ⟨h1, h2, h3⟩
  · exact .inr (.inr ⟨h3, h1, h2⟩)
  · exact .inr (.inl ⟨h2, h3, h1⟩)

theorem CutA.tri {a b c : Int × Int} (h : 0 < tI a b c) : CutA [a, b, c] [(a, b, c)] := by
  refine ⟨⟨fun t ht => ?_, fun F hF => ?_, fun e he => ?_⟩, fun x y z ht => ?_, fun x y z ht => ?_⟩
  · rw [List.mem_singleton] at ht; subst ht; exact h
  · simp only [sumT, edges, path, List.cons_append, List.nil_append, sumE]; omega
  · simp only [edges, path, List.cons_append, List.nil_append, List.mem_cons, List.not_mem_nil, or_false] at he
    exact ⟨_, List.mem_singleton.2 rfl, he⟩
  · left
    rcases has_one ht with ⟨rfl, rfl, rfl⟩ | ⟨rfl, rfl, rfl⟩ | ⟨rfl, rfl, rfl⟩ <;> simp [edges, path]
  · rcases has_one ht with ⟨rfl, rfl, rfl⟩ | ⟨rfl, rfl, rfl⟩ | ⟨rfl, rfl, rfl⟩ <;> simp

/-- Two parts put together. -/
theorem CutA.join {q0 qk : Int × Int} {c o : List (Int × Int)} {C D : List T3} (h1 : CutA (q0 :: c ++ [qk]) C) (h2 : CutA (qk :: o ++ [q0]) D) : CutA (q0 :: c ++ qk :: o) (C ++ D) := by
  have eP : edges (q0 :: c ++ qk :: o) = path q0 (c ++ [qk]) ++ path qk (o ++ [q0]) := edges_two q0 qk c o
  have eA : edges (q0 :: c ++ [qk]) = path q0 (c ++ [qk]) ++ [(qk, q0)] := edges_rest ..
  have eB : edges (qk :: o ++ [q0]) = path qk (o ++ [q0]) ++ [(q0, qk)] := edges_rest ..
  refine ⟨⟨fun t ht => ?_, fun F hF => ?_, fun e he => ?_⟩, fun x y z ht => ?_, fun x y z ht => ?_⟩
  · rcases List.mem_append.1 ht with g | g
    · exact h1.cut.pos t g
    · exact h2.cut.pos t g
  · rw [sumT_append, h1.cut.bal F hF, h2.cut.bal F hF, eP, eA, eB, sumE_append, sumE_append, sumE_append]
    simp only [sumE]
    have := hF q0 qk
    omega
  · rw [eP] at he
    rcases List.mem_append.1 he with g | g
    · obtain ⟨t, ht, k⟩ := h1.cut.ring e (by rw [eA]; exact List.mem_append_left _ g)
      exact ⟨t, List.mem_append_left _ ht, k⟩
    · obtain ⟨t, ht, k⟩ := h2.cut.ring e (by rw [eB]; exact List.mem_append_left _ g)
      exact ⟨t, List.mem_append_right _ ht, k⟩
  · rcases Has.append.1 ht with g | g
    · rcases h1.adj _ _ _ g with k | ⟨d, k⟩
      · rw [eA] at k
        rcases List.mem_append.1 k with k | k
        · left; rw [eP]; exact List.mem_append_left _ k
        · right
          simp only [List.mem_singleton, Prod.mk.injEq] at k
          obtain ⟨rfl, rfl⟩ := k
          obtain ⟨d, hd⟩ := has_ring h2.cut (e := (y, x)) (by rw [eB]; simp)
          exact ⟨d, Has.append.2 (.inr hd)⟩
      · exact .inr ⟨d, Has.append.2 (.inl k)⟩
    · rcases h2.adj _ _ _ g with k | ⟨d, k⟩
      · rw [eB] at k
        rcases List.mem_append.1 k with k | k
        · left; rw [eP]; exact List.mem_append_right _ k
        · right
          simp only [List.mem_singleton, Prod.mk.injEq] at k
          obtain ⟨rfl, rfl⟩ := k
          obtain ⟨d, hd⟩ := has_ring h1.cut (e := (y, x)) (by rw [eA]; simp)
          exact ⟨d, Has.append.2 (.inl hd)⟩
      · exact .inr ⟨d, Has.append.2 (.inr k)⟩
  · rcases Has.append.1 ht with g | g
    · have := h1.corner _ _ _ g
      simp only [List.cons_append, List.mem_cons, List.mem_append, List.not_mem_nil, or_false] at this ⊢
      rcases this with k | k | k
      · exact .inl k
      · exact .inr (.inl k)
      · exact .inr (.inr (.inl k))
    · have := h2.corner _ _ _ g
      simp only [List.cons_append, List.mem_cons, List.mem_append, List.not_mem_nil, or_false] at this ⊢
      rcases this with k | k | k
      · exact .inr (.inr (.inl k))
      · exact .inr (.inr (.inr k))
      · exact .inl k

theorem sumT_perm {F : T3 → Int} {C D : List T3} (p : C.Perm D) : sumT F C = sumT F D := by
  induction p with
  | nil => rfl
  | cons x _ ih => simp only [sumT]; omega
  | swap x y l => simp only [sumT]; omega
  | trans _ _ ih1 ih2 => rw [ih1, ih2]

theorem has_perm {C D : List T3} (p : C.Perm D) {a b c : Int × Int} : Has D a b c ↔ Has C a b c := by
  unfold Has
  rw [p.mem_iff, p.mem_iff, p.mem_iff]

/-- The same triangles, whichever corner each is told from, cut alike. -/
theorem CutA.same {P : List (Int × Int)} {C D : List T3} (h : CutA P C) (hm : ∀ {a b c}, Has D a b c ↔ Has C a b c) (hsum : ∀ F : Int × Int → Int × Int → Int, sumT (fun t => F t.1 t.2.1 + F t.2.1 t.2.2 + F t.2.2 t.1) D = sumT (fun t => F t.1 t.2.1 + F t.2.1 t.2.2 + F t.2.2 t.1) C) : CutA P D := by
  refine ⟨⟨fun t ht => h.cut.has_pos (hm.1 (.inl ht)), fun F hF => by rw [hsum]; exact h.cut.bal F hF, fun e he => ?_⟩, fun x y z ht => ?_, fun x y z ht => h.corner _ _ _ (hm.1 ht)⟩
  · obtain ⟨d, hd⟩ := has_ring h.cut he
    exact ring_of (hm.2 hd)
  · rcases h.adj _ _ _ (hm.1 ht) with g | ⟨d, g⟩
    · exact .inl g
    · exact .inr ⟨d, hm.2 g⟩

theorem CutA.perm {P : List (Int × Int)} {C D : List T3} (h : CutA P C) (p : C.Perm D) : CutA P D :=
  h.same (has_perm p) fun F => (sumT_perm p).symm

theorem has_cons_cyc {C : List T3} {x y z a b c : Int × Int} : Has ((y, z, x) :: C) a b c ↔ Has ((x, y, z) :: C) a b c := by
  unfold Has
  simp only [List.mem_cons, Prod.mk.injEq]
  constructor
  · rintro ((⟨rfl, rfl, rfl⟩ | h) | (⟨rfl, rfl, rfl⟩ | h) | (⟨rfl, rfl, rfl⟩ | h))
    · exact .inr (.inr (.inl ⟨rfl, rfl, rfl⟩))
    · exact .inl (.inr h)
    · exact .inl (.inl ⟨rfl, rfl, rfl⟩)
    · exact .inr (.inl (.inr h))
    · exact .inr (.inl (.inl ⟨rfl, rfl, rfl⟩))
    · exact .inr (.inr (.inr h))
  · rintro ((⟨rfl, rfl, rfl⟩ | h) | (⟨rfl, rfl, rfl⟩ | h) | (⟨rfl, rfl, rfl⟩ | h))
    · exact .inr (.inl (.inl ⟨rfl, rfl, rfl⟩))
    · exact .inl (.inr h)
    · exact .inr (.inr (.inl ⟨rfl, rfl, rfl⟩))
    · exact .inr (.inl (.inr h))
    · exact .inl (.inl ⟨rfl, rfl, rfl⟩)
    · exact .inr (.inr (.inr h))

/-- One triangle told from its next corner on. -/
theorem CutA.turn {P : List (Int × Int)} {C : List T3} {x y z : Int × Int} (h : CutA P ((x, y, z) :: C)) : CutA P ((y, z, x) :: C) :=
  h.same has_cons_cyc fun F => by simp only [sumT]; omega

/-- The polygon told from another corner on. -/
theorem CutA.rot {l m : List (Int × Int)} {C : List T3} (h : CutA (l ++ m) C) : CutA (m ++ l) C := by
  refine ⟨⟨h.cut.pos, fun F hF => by rw [h.cut.bal F hF]; exact sumE_perm (edges_rot l m), fun e he => h.cut.ring e ((edges_rot l m).mem_iff.2 he)⟩, fun x y z ht => ?_, fun x y z ht => ?_⟩
  · rcases h.adj _ _ _ ht with g | g
    · exact .inl ((edges_rot l m).mem_iff.1 g)
    · exact .inr g
  · have := h.corner _ _ _ ht
    rw [List.mem_append] at this ⊢
    exact this.symm

/-- An ear put on. -/
theorem CutA.ear {u v w : Int × Int} {r : List (Int × Int)} {C : List T3} (h : CutA (w :: r ++ [u]) C) (pos : 0 < tI u v w) : CutA (v :: w :: r ++ [u]) ((u, v, w) :: C) := by
  have k := CutA.join (q0 := u) (c := [v]) (qk := w) (o := r) (CutA.tri pos) h
  have e : u :: [v] ++ w :: r = [u] ++ (v :: w :: r) := by simp
  rw [e] at k
  exact k.rot
end

section
set_option linter.unusedVariables false

/-- Strictly within two triangles on one side of an edge. -/
theorem both_in {a b c c' : Int × Int} (h1 : 0 < tI a b c) (h2 : 0 < tI a b c') : ∃ K : Int, 0 < K ∧ ∃ p, (0 < tI (sc K a) (sc K b) p ∧ 0 < tI (sc K b) (sc K c) p ∧ 0 < tI (sc K c) (sc K a) p) ∧ 0 < tI (sc K b) (sc K c') p ∧ 0 < tI (sc K c') (sc K a) p := by
  have ab : a ≠ b := (tri_ne h1).1
  obtain ⟨n1, n2⟩ := md_ne ab
  have two : (0 : Int) < 2 := by omega
  have D1 : 0 < tI (sc 2 a) (sc 2 b) (sc 2 c) := by rw [tI_sc]; exact (sc_sign two).1.2 h1
  have D2 : 0 < tI (sc 2 a) (sc 2 b) (sc 2 c') := by rw [tI_sc]; exact (sc_sign two).1.2 h2
  obtain ⟨o1, o2⟩ := open_side D1 (md_on a b) n1 n2
  obtain ⟨o3, o4⟩ := open_side D2 (md_on a b) n1 n2
  have ab2 : sc 2 a ≠ sc 2 b := fun q => ab (sc_inj two q)
  obtain ⟨d, hd⟩ : ∃ d, d = ng (dd (sc 2 a) (sc 2 b)) := ⟨_, rfl⟩
  obtain ⟨K1, k1, j1⟩ := near_side d o1
  obtain ⟨K2, k2, j2⟩ := near_side d o2
  obtain ⟨K3, k3, j3⟩ := near_side d o3
  obtain ⟨K4, k4, j4⟩ := near_side d o4
  obtain ⟨K, hK⟩ : ∃ K, K = K1 + K2 + K3 + K4 := ⟨_, rfl⟩
  have hK0 : 0 < K := by omega
  have s1 := j1 K (by omega)
  have s2 := j2 K (by omega)
  have s3 := j3 K (by omega)
  have s4 := j4 K (by omega)
  have s0 : 0 < tI (sc K (sc 2 a)) (sc K (sc 2 b)) (ad (sc K (md a b)) d) := by
    rw [tI_ad, ((onI_iff _ _ _).1 (md_on a b)).1, Int.mul_zero, Int.zero_add, hd, ng_cx]
    have := dd_right ab2
    exact Int.mul_pos hK0 (by omega)
  simp only [sc_sc] at s0 s1 s2 s3 s4
  exact ⟨K * 2, by omega, _, ⟨s0, s1, s2⟩, s3, s4⟩

section
variable {P : List (Int × Int)} {C : List T3}

theorem within3_of {t : T3} {a b c p : Int × Int} (h : Has [t] a b c) (h1 : 0 < tI a b p) (h2 : 0 < tI b c p) (h3 : 0 < tI c a p) : Within3 t p := by
  obtain ⟨x, y, z⟩ := t
  rcases has_one h with ⟨rfl, rfl, rfl⟩ | ⟨rfl, rfl, rfl⟩ | ⟨rfl, rfl, rfl⟩
  · exact ⟨h1, h2, h3⟩
  · exact ⟨h3, h1, h2⟩
  · exact ⟨h2, h3, h1⟩

/-- A directed edge belongs to one triangle alone. -/
theorem CutG.edge_once (h : CutG P C) (hs : Simple P) (hR : Rho P 1) {t t' : T3} {l1 l2 l3 : List T3} (e : C = l1 ++ t :: (l2 ++ t' :: l3)) {a b c c' : Int × Int} (h1 : Has [t] a b c) (h2 : Has [t'] a b c') : False := by
  have up : ∀ {s : T3}, s ∈ C → ∀ {x y z}, Has [s] x y z → Has C x y z := by
    intro s hs x y z k
    unfold Has at k
    simp only [List.mem_singleton] at k
    rcases k with k | k | k
    · exact .inl (k ▸ hs)
    · exact .inr (.inl (k ▸ hs))
    · exact .inr (.inr (k ▸ hs))
  have q1 : t ∈ C := by rw [e]; simp
  have q2 : t' ∈ C := by rw [e]; simp
  obtain ⟨K, hK, p, ⟨i1, i2, i3⟩, i4, i5⟩ := both_in (h.has_pos (up q1 h1)) (h.has_pos (up q2 h2))
  have k1 : Within3 (sc3 K t) p := within3_of (t := sc3 K t) (by have := h1.scaled K; simpa using this) i1 i2 i3
  have k2 : Within3 (sc3 K t') p := within3_of (t := sc3 K t') (by have := h2.scaled K; simpa using this) i1 i4 i5
  have e' : C.map (sc3 K) = l1.map (sc3 K) ++ sc3 K t :: (l2.map (sc3 K) ++ sc3 K t' :: l3.map (sc3 K)) := by rw [e]; simp
  exact (h.scaled hK).strict_one (hs.sc hK) (hR.scaled hK) e' k1 k2

theorem CutG.rot {l m : List (Int × Int)} (h : CutG (l ++ m) C) : CutG (m ++ l) C :=
  ⟨h.pos, fun F hF => by rw [h.bal F hF]; exact sumE_perm (edges_rot l m), fun e he => h.ring e ((edges_rot l m).mem_iff.2 he)⟩

/-- No triangle lies at the outer side of the polygon's edge. -/
theorem CutG.ring_own (h : CutG P C) (hs : Simple P) (hR : Rho P 1) {a b d : Int × Int} (he : (a, b) ∈ edges P) (ht : Has C b a d) : False := by
  obtain ⟨l1, l2, r, e1, e2⟩ := edge_last (by have := hs.three; omega) he
  subst e1
  simp only at e2
  have h' : CutG (b :: r ++ [a]) C := by rw [← e2]; exact h.rot
  have hs' : Simple (b :: r ++ [a]) := by rw [← e2]; exact hs.rot
  have hR' : Rho (b :: r ++ [a]) 1 := by rw [← e2]; exact hR.rot
  have pos := h.has_pos ht
  have ab : a ≠ b := (tri_ne pos).1.symm
  have two : (0 : Int) < 2 := by omega
  obtain ⟨n1, n2⟩ := md_ne ab
  have D : 0 < tI (sc 2 b) (sc 2 a) (sc 2 d) := by rw [tI_sc]; exact (sc_sign two).1.2 pos
  obtain ⟨o1, o2⟩ := open_side D (by rw [onI_comm]; exact md_on a b) n2 n1
  have ab2 : sc 2 a ≠ sc 2 b := fun q => ab (sc_inj two q)
  have hs2 : Simple (sc 2 b :: r.map (sc 2) ++ [sc 2 a]) := by rw [← map_last]; exact hs'.sc two
  have hR2 : Rho (sc 2 b :: r.map (sc 2) ++ [sc 2 a]) 1 := by rw [← map_last]; exact hR'.scaled two
  obtain ⟨K0, k0, j0⟩ := sides hs2 hR2 (md_on a b) n1 n2
  obtain ⟨K1, k1, j1⟩ := near_side (dd (sc 2 a) (sc 2 b)) o1
  obtain ⟨K2, k2, j2⟩ := near_side (dd (sc 2 a) (sc 2 b)) o2
  obtain ⟨K, hK⟩ : ∃ K, K = K0 + K1 + K2 := ⟨_, rfl⟩
  have hK0 : 0 < K := by omega
  obtain ⟨f1, _, w1⟩ := j0 K (by omega)
  have s1 := j1 K (by omega)
  have s2 := j2 K (by omega)
  have s0 : 0 < tI (sc K (sc 2 b)) (sc K (sc 2 a)) (ad (sc K (md a b)) (dd (sc 2 a) (sc 2 b))) := by
    rw [tI_neg, tI_ad, ((onI_iff _ _ _).1 (md_on a b)).1, Int.mul_zero, Int.zero_add]
    have := Int.mul_neg_of_pos_of_neg hK0 (dd_right ab2)
    omega
  have h2 : CutG ((sc 2 b :: r.map (sc 2) ++ [sc 2 a]).map (sc K)) ((C.map (sc3 2)).map (sc3 K)) := by
    rw [← map_last]; exact (h'.scaled two).scaled hK0
  have in1 := (h2.has_in (hs2.sc hK0) (hR2.scaled hK0) ((ht.scaled 2).scaled K) s0 s1 s2).2
  omega

theorem has_cons {t : T3} {a b c : Int × Int} : Has (t :: C) a b c ↔ Has [t] a b c ∨ Has C a b c := by
  have : t :: C = [t] ++ C := rfl
  rw [this]; exact Has.append

theorem CutA.flip {a b c d : Int × Int} (h : CutA P ((a, b, c) :: (b, a, d) :: C)) (hs : Simple P) (hR : Rho P 1) (ic : 0 < inC a b c d) : CutA P ((a, d, c) :: (d, b, c) :: C) := by
  have t1 : Has ((a, b, c) :: (b, a, d) :: C) a b c := .inl (by simp)
  have t2 : Has ((a, b, c) :: (b, a, d) :: C) b a d := .inl (by simp)
  have p1 := h.cut.has_pos t1
  have p2 := h.cut.has_pos t2
  obtain ⟨q1, q2⟩ := flip_pos p1 p2 ic
  -- what stands where
  have n1 : Has ((a, d, c) :: (d, b, c) :: C) a d c := .inl (by simp)
  have n2 : Has ((a, d, c) :: (d, b, c) :: C) d b c := .inl (by simp)
  have old : ∀ {x y z}, Has ((a, b, c) :: (b, a, d) :: C) x y z → (x = a ∧ y = b) ∨ (x = b ∧ y = a) ∨ ∃ z', Has ((a, d, c) :: (d, b, c) :: C) x y z' := by
    intro x y z k
    rcases has_cons.1 k with k | k
    · rcases has_one k with ⟨rfl, rfl, rfl⟩ | ⟨rfl, rfl, rfl⟩ | ⟨rfl, rfl, rfl⟩
      · exact .inl ⟨rfl, rfl⟩
      · exact .inr (.inr ⟨_, n2.cyc⟩)
      · exact .inr (.inr ⟨_, n1.cyc.cyc⟩)
    · rcases has_cons.1 k with k | k
      · rcases has_one k with ⟨rfl, rfl, rfl⟩ | ⟨rfl, rfl, rfl⟩ | ⟨rfl, rfl, rfl⟩
        · exact .inr (.inl ⟨rfl, rfl⟩)
        · exact .inr (.inr ⟨_, n1⟩)
        · exact .inr (.inr ⟨_, n2⟩)
      · exact .inr (.inr ⟨z, has_cons.2 (.inr (has_cons.2 (.inr k)))⟩)
  have once1 : ∀ {z}, Has C a b z → False := by
    intro z k
    obtain ⟨t, ht, g⟩ := ring_of k
    obtain ⟨s1, s2, rfl⟩ := List.append_of_mem ht
    have hz : ∃ z', Has [t] a b z' := by
      obtain ⟨x, y, w⟩ := t
      simp only at g
      rcases g with g | g | g
      · simp only [Prod.mk.injEq] at g; obtain ⟨rfl, rfl⟩ := g; exact ⟨w, .inl (by simp)⟩
      · simp only [Prod.mk.injEq] at g; obtain ⟨rfl, rfl⟩ := g; exact ⟨x, .inr (.inr (by simp))⟩
      · simp only [Prod.mk.injEq] at g; obtain ⟨rfl, rfl⟩ := g; exact ⟨y, .inr (.inl (by simp))⟩
    obtain ⟨z', hz⟩ := hz
    exact h.cut.edge_once hs hR (l1 := []) (t := (a, b, c)) (l2 := (b, a, d) :: s1) (t' := t) (l3 := s2) (by simp) (a := a) (b := b) (c := c) (.inl (by simp)) hz
  have once2 : ∀ {z}, Has C b a z → False := by
    intro z k
    obtain ⟨t, ht, g⟩ := ring_of k
    obtain ⟨s1, s2, rfl⟩ := List.append_of_mem ht
    have hz : ∃ z', Has [t] b a z' := by
      obtain ⟨x, y, w⟩ := t
      simp only at g
      rcases g with g | g | g
      · simp only [Prod.mk.injEq] at g; obtain ⟨rfl, rfl⟩ := g; exact ⟨w, .inl (by simp)⟩
      · simp only [Prod.mk.injEq] at g; obtain ⟨rfl, rfl⟩ := g; exact ⟨x, .inr (.inr (by simp))⟩
      · simp only [Prod.mk.injEq] at g; obtain ⟨rfl, rfl⟩ := g; exact ⟨y, .inr (.inl (by simp))⟩
    obtain ⟨z', hz⟩ := hz
    exact h.cut.edge_once hs hR (l1 := [(a, b, c)]) (t := (b, a, d)) (l2 := s1) (t' := t) (l3 := s2) (by simp) (a := b) (b := a) (c := d) (.inl (by simp)) hz
  -- an outer edge of the four corners
  have outer : ∀ {x y z}, Has ((a, b, c) :: (b, a, d) :: C) x y z → ¬ (x = a ∧ y = b) → ¬ (x = b ∧ y = a) → (x, y) ∈ edges P ∨ ∃ w, Has ((a, d, c) :: (d, b, c) :: C) y x w := by
    intro x y z k m1 m2
    rcases h.adj _ _ _ k with g | ⟨w, g⟩
    · exact .inl g
    · rcases old g with ⟨rfl, rfl⟩ | ⟨rfl, rfl⟩ | g
      · exact absurd ⟨rfl, rfl⟩ m2
      · exact absurd ⟨rfl, rfl⟩ m1
      · exact .inr g
  obtain ⟨ab, bc, ca⟩ := tri_ne p1
  obtain ⟨_, ad', db⟩ := tri_ne p2
  refine ⟨⟨fun t ht => ?_, fun F hF => ?_, fun e he => ?_⟩, fun x y z k => ?_, fun x y z k => ?_⟩
  · simp only [List.mem_cons] at ht
    rcases ht with rfl | rfl | ht
    · exact q1
    · exact q2
    · exact h.cut.pos t (by simp [ht])
  · have g := h.cut.bal F hF
    simp only [sumT] at g ⊢
    have e1 := hF a b
    have e2 := hF c d
    omega
  · obtain ⟨z, hz⟩ := has_ring h.cut he
    obtain ⟨x, y⟩ := e
    simp only at hz
    rcases old hz with ⟨rfl, rfl⟩ | ⟨rfl, rfl⟩ | ⟨w, g⟩
    · exact (h.cut.ring_own hs hR he t2).elim
    · exact (h.cut.ring_own hs hR he t1).elim
    · exact ring_of g
  · rcases has_cons.1 k with k | k
    · rcases has_one k with ⟨rfl, rfl, rfl⟩ | ⟨rfl, rfl, rfl⟩ | ⟨rfl, rfl, rfl⟩
      · exact outer t2.cyc (fun g => db g.2) (fun g => ab g.1)
      · exact .inr ⟨_, n2.cyc.cyc⟩
      · exact outer t1.cyc.cyc (fun g => ca g.1) (fun g => bc g.1.symm)
    · rcases has_cons.1 k with k | k
      · rcases has_one k with ⟨rfl, rfl, rfl⟩ | ⟨rfl, rfl, rfl⟩ | ⟨rfl, rfl, rfl⟩
        · exact outer t2.cyc.cyc (fun g => ad' g.1.symm) (fun g => db g.1)
        · exact outer t1.cyc (fun g => ab g.1.symm) (fun g => ca g.2)
        · exact .inr ⟨_, n1.cyc⟩
      · have kC : Has C x y z := k
        refine outer (has_cons.2 (.inr (has_cons.2 (.inr kC)))) (fun g => ?_) (fun g => ?_)
        · rw [g.1, g.2] at kC; exact once1 kC
        · rw [g.1, g.2] at kC; exact once2 kC
  · rcases has_cons.1 k with k | k
    · rcases has_one k with ⟨rfl, rfl, rfl⟩ | ⟨rfl, rfl, rfl⟩ | ⟨rfl, rfl, rfl⟩
      · exact h.corner _ _ _ t1
      · exact h.corner _ _ _ t2.cyc.cyc
      · exact h.corner _ _ _ t1.cyc.cyc
    · rcases has_cons.1 k with k | k
      · rcases has_one k with ⟨rfl, rfl, rfl⟩ | ⟨rfl, rfl, rfl⟩ | ⟨rfl, rfl, rfl⟩
        · exact h.corner _ _ _ t2.cyc.cyc
        · exact h.corner _ _ _ t2
        · exact h.corner _ _ _ t1.cyc.cyc
      · exact h.corner _ _ _ (has_cons.2 (.inr (has_cons.2 (.inr k))))

end
end

end Go.Proofs.Ytlicmfhgjonmnaa
