/- Lines between corners that nothing bars; the sides of a cut's triangles are such lines. Own work. (And what follows from it: Ia, Ib, Ic, Hh, Id, Ie.) -/
import Derived.Test.YtlicmfhgjonmnaaHg
import Derived.Test.YtlicmfhgjonmnaaPf
namespace Go.Proofs.Ytlicmfhgjonmnaa

section
set_option linter.unusedVariables false

/-- What is asked of the line between two corners: no edge crosses it, no third corner lies on it, its middle is not outside. -/
structure Opn (P : List (Int × Int)) (a b : Int × Int) : Prop where
  cross : ∀ e ∈ edges P, ¬ (tI a b e.1 * tI a b e.2 < 0 ∧ tI e.1 e.2 a * tI e.1 e.2 b < 0)
  corner : ∀ v ∈ P, v ≠ a → v ≠ b → onI a b v = false
  mid : ¬ (Free (md a b) (P.map (sc 2)) ∧ wc (md a b) (P.map (sc 2)) = 0)

theorem md_comm (a b : Int × Int) : md a b = md b a := by unfold md; rw [Int.add_comm a.1, Int.add_comm a.2]

theorem Opn.symm {P : List (Int × Int)} {a b : Int × Int} (h : Opn P a b) : Opn P b a := by
  refine ⟨fun e he k => h.cross e he ⟨?_, ?_⟩, fun v hv h1 h2 => by rw [onI_comm]; exact h.corner v hv h2 h1, by rw [md_comm]; exact h.mid⟩
  · have := k.1; rw [tI_neg a b e.1, tI_neg a b e.2, Int.neg_mul_neg] at this; exact this
  · rw [Int.mul_comm]; exact k.2

theorem Opn.rot {l m : List (Int × Int)} {a b : Int × Int} (h : Opn (l ++ m) a b) : Opn (m ++ l) a b := by
  refine ⟨fun e he => h.cross e ((edges_rot l m).mem_iff.2 he), fun v hv => h.corner v ?_, fun k => h.mid ?_⟩
  · rw [List.mem_append] at hv ⊢; exact hv.symm
  · rw [List.map_append] at k ⊢
    exact ⟨k.1.rot, by rw [wc_rot]; exact k.2⟩

theorem edge_open {P : List (Int × Int)} (hs : Simple P) {a b : Int × Int} (h : (a, b) ∈ edges P) : Opn P a b := by
  refine ⟨fun e he k => ?_, fun v hv h1 h2 => hs.corner h hv h1 h2, fun k => ?_⟩
  · by_cases q : (a, b) = e
    · subst q
      have := k.1
      rw [(tI_end a b).1, Int.zero_mul] at this
      omega
    · exact (hs.clean _ h _ he q).ox k
  · have := k.1 (sc 2 a, sc 2 b) (by rw [edges_map]; exact List.mem_map.2 ⟨_, h, rfl⟩)
    simp only at this
    rw [md_on] at this; cases this

/-- Where two lines cross: a point of both, an end of neither. -/
theorem cross_point {a b u w : Int × Int} (h1 : tI a b u * tI a b w < 0) (h2 : tI u w a * tI u w b < 0) :
    ∃ K : Int, 0 < K ∧ ∃ x, onI (sc K a) (sc K b) x = true ∧ onI (sc K u) (sc K w) x = true ∧ x ≠ sc K a ∧ x ≠ sc K b ∧ x ≠ sc K u ∧ x ≠ sc K w := by
  have no : ¬ Off a b u w := fun o => o.cr ⟨h1, h2⟩
  obtain ⟨K, hK, x, x1, x2⟩ := meet_point no
  refine ⟨K, hK, x, x1, x2, ?_, ?_, ?_, ?_⟩
  · rintro rfl
    rw [onI_sc hK] at x2
    have := ((onI_iff _ _ _).1 x2).1
    rw [this, Int.zero_mul] at h2; omega
  · rintro rfl
    rw [onI_sc hK] at x2
    have := ((onI_iff _ _ _).1 x2).1
    rw [this, Int.mul_zero] at h2; omega
  · rintro rfl
    rw [onI_sc hK] at x1
    have := ((onI_iff _ _ _).1 x1).1
    rw [this, Int.zero_mul] at h1; omega
  · rintro rfl
    rw [onI_sc hK] at x1
    have := ((onI_iff _ _ _).1 x1).1
    rw [this, Int.mul_zero] at h1; omega

section
variable {P : List (Int × Int)} {C : List T3}

/-- No edge leads over a side that has triangles on it, into one of them. -/
theorem CutG.no_cross1 (h : CutG P C) (hs : Simple P) (hR : Rho P 1) {a b c : Int × Int} (t1 : Has C a b c) {u w : Int × Int} (he : (u, w) ∈ edges P ∨ (w, u) ∈ edges P) (c1 : tI a b u * tI a b w < 0) (c2 : tI u w a * tI u w b < 0) (pw : 0 < tI a b w) : False := by
  have p1 := h.has_pos t1
  obtain ⟨K, hK, x, xa, xu, n1, n2, n3, n4⟩ := cross_point c1 c2
  have D : 0 < tI (sc K a) (sc K b) (sc K c) := by rw [tI_sc]; exact (sc_sign hK).1.2 p1
  obtain ⟨o1, o2⟩ := open_side D xa n1 n2
  obtain ⟨n, hn⟩ : ∃ n : Int × Int, n = ((sc K w).1 - x.1, (sc K w).2 - x.2) := ⟨_, rfl⟩
  obtain ⟨K1, k1, j1⟩ := near_side n o1
  obtain ⟨K2, k2, j2⟩ := near_side n o2
  obtain ⟨L, hL⟩ : ∃ L, L = K1 + K2 := ⟨_, rfl⟩
  have hL0 : 0 < L := by omega
  have s1 := j1 L (by omega)
  have s2 := j2 L (by omega)
  obtain ⟨a1, _, _⟩ := end_step n4 (K := L) (by omega)
  rw [← hn] at a1
  have tx : tI (sc K a) (sc K b) x = 0 := ((onI_iff _ _ _).1 xa).1
  have s0 : 0 < tI (sc L (sc K a)) (sc L (sc K b)) (ad (sc L x) n) := by
    rw [tI_ad, tx, Int.mul_zero, Int.zero_add]
    have e : cx (sc K a) (sc K b) n = tI (sc K a) (sc K b) (sc K w) - tI (sc K a) (sc K b) x := by rw [hn]; unfold cx tI; grind
    rw [e, tx, tI_sc]
    have := (sc_sign (t := tI a b w) hK).1.2 pw
    exact Int.mul_pos hL0 (by omega)
  have fr := (((h.scaled hK).scaled hL0).has_in ((hs.sc hK).sc hL0) ((hR.scaled hK).scaled hL0) ((t1.scaled K).scaled L) s0 s1 s2).1
  have on : onI (sc L (sc K u)) (sc L (sc K w)) (ad (sc L x) n) = true := by
    have q : onI (sc L (sc K w)) (sc L (sc K u)) (sc L x) = true := by rw [onI_sc hL0, onI_comm]; exact xu
    have := on_trans q (by rw [onI_comm]; exact a1)
    rw [onI_comm]; exact this
  rcases he with he | he
  · have m : (sc L (sc K u), sc L (sc K w)) ∈ edges ((P.map (sc K)).map (sc L)) := by
      rw [edges_map, edges_map]; exact List.mem_map.2 ⟨_, List.mem_map.2 ⟨_, he, rfl⟩, rfl⟩
    have := fr _ m
    simp only at this
    rw [on] at this; cases this
  · have m : (sc L (sc K w), sc L (sc K u)) ∈ edges ((P.map (sc K)).map (sc L)) := by
      rw [edges_map, edges_map]; exact List.mem_map.2 ⟨_, List.mem_map.2 ⟨_, he, rfl⟩, rfl⟩
    have := fr _ m
    simp only at this
    rw [onI_comm, on] at this; cases this

/-- The sides of a cut's triangles are lines that nothing bars. -/
theorem CutA.open (h : CutA P C) (hs : Simple P) (hR : Rho P 1) {a b c : Int × Int} (t1 : Has C a b c) : Opn P a b := by
  rcases h.adj _ _ _ t1 with g | ⟨d, t2⟩
  · exact edge_open hs g
  · refine ⟨fun e he k => ?_, fun v hv h1 h2 => ?_, fun k => ?_⟩
    · obtain ⟨u, w⟩ := e
      simp only at k
      have k1 : tI a b w * tI a b u < 0 := by rw [Int.mul_comm]; exact k.1
      have k2 : tI w u a * tI w u b < 0 := by rw [tI_neg u w a, tI_neg u w b, Int.neg_mul_neg]; exact k.2
      rcases Int.lt_trichotomy (tI a b w) 0 with g | g | g
      · refine h.cut.no_cross1 hs hR t1 (.inr he) k1 k2 ?_
        apply Int.not_le.1; intro q
        have := Int.mul_nonneg_of_nonpos_of_nonpos q (Int.le_of_lt g)
        omega
      · rw [g, Int.zero_mul] at k1; omega
      · exact h.cut.no_cross1 hs hR t1 (.inl he) k.1 k.2 g
    · cases q : onI a b v with
      | false => rfl
      | true => exact (h.cut.corner_edge hs hR t1 t2 hv q h1 h2).elim
    · have two : (0 : Int) < 2 := by omega
      have D := h.cut.has_pos t1
      obtain ⟨fr, w0⟩ := k
      have ht := t1.scaled (C := C) 2
      have zt : ∀ x y : Int × Int, tI (sc 2 x) (sc 2 y) (md a b) = 2 * (tI x y a + tI x y b) := by intro x y; unfold md tI sc; grind
      have i1 : 0 ≤ tI (sc 2 a) (sc 2 b) (md a b) := by rw [zt, (tI_end a b).1, (tI_end a b).2]; omega
      have i2 : 0 ≤ tI (sc 2 b) (sc 2 c) (md a b) := by
        have e1 := tI_cyc a b c
        rw [zt, (tI_end b c).1]; omega
      have i3 : 0 ≤ tI (sc 2 c) (sc 2 a) (md a b) := by
        have e1 := tI_cyc c a b
        rw [zt, (tI_end c a).2]; omega
      have cg := h.cut.scaled two
      have key : ∃ t ∈ C.map (sc3 2), InC t (md a b) := by
        rcases ht with g | g | g
        · exact ⟨_, g, i1, i2, i3⟩
        · exact ⟨_, g, i2, i3, i1⟩
        · exact ⟨_, g, i3, i1, i2⟩
      obtain ⟨t, ht, hi⟩ := key
      have := cg.inside (hR.scaled two) ht hi fr
      omega

/-- Every polygon has a cut, of two triangles less than corners. -/
theorem cut_any : ∀ (n : Nat) (P : List (Int × Int)), P.length ≤ n → Simple P → Rho P 1 → ∃ C, CutA P C
  | 0, P, hl, hP, _ => by have := hP.three; omega
  | n + 1, P, hl, hP, hR => by
    obtain ⟨l, a, x, b, m, e, pos, emp⟩ := earP_any _ P (Nat.le_refl _) hP hR
    have e1 : P = (l ++ [a]) ++ (x :: b :: m) := by rw [e]; simp
    have e2 : x :: b :: (m ++ l) ++ [a] = (x :: b :: m) ++ (l ++ [a]) := by simp
    by_cases h0 : m ++ l = []
    · have hm : m = [] := (List.append_eq_nil_iff.1 h0).1
      have hl : l = [] := (List.append_eq_nil_iff.1 h0).2
      subst hm hl
      rw [e]
      exact ⟨_, CutA.tri pos⟩
    · have tip : Tip a x b (m ++ l) := by
        refine ⟨by rw [e2]; rw [e1] at hP; exact hP.rot, h0, pos, fun z hz => emp z ?_⟩
        simp only [List.mem_append] at hz ⊢
        exact hz.symm
      have hR' : Rho (x :: b :: (m ++ l) ++ [a]) 1 := by rw [e2]; rw [e1] at hR; exact hR.rot
      obtain ⟨C, hC⟩ := cut_any n (b :: (m ++ l) ++ [a]) (by rw [e] at hl; simp at hl ⊢; omega) tip.clip (tip.rho_rest hR')
      have := hC.ear pos
      rw [e2] at this
      rw [e1]
      exact ⟨_, this.rot⟩

end

/-- Between two points within a line. -/
theorem open_between {A B X M y : Int × Int} (hX : onI A B X = true) (x1 : X ≠ A) (x2 : X ≠ B) (hM : onI A B M = true) (m1 : M ≠ A) (m2 : M ≠ B) (hy : onI X M y = true) : onI A B y = true ∧ y ≠ A ∧ y ≠ B := by
  have oX := on_open hX x1 x2
  have oM := on_open hM m1 m2
  have tX := ((onI_iff _ _ _).1 hX).1
  have tM := ((onI_iff _ _ _).1 hM).1
  have bX := on_bounds hX
  have bM := on_bounds hM
  have by' := on_bounds hy
  have ty : tI A B y = 0 := by
    by_cases q : X = M
    · rw [q] at hy; rw [on_point hy]; exact tM
    · obtain ⟨m, k, hm, hk, hmk, hw, _, _⟩ := weights hy q
      have e := hw A B
      rw [tX, tM, Int.mul_zero, Int.mul_zero, Int.add_zero] at e
      rcases Int.mul_eq_zero.1 e with g | g
      · omega
      · exact g
  refine ⟨?_, ?_, ?_⟩
  · have k1 : onX A.1 B.1 y.1 = true := by simp only [onX, Bool.and_eq_true, decide_eq_true_eq]; omega
    have k2 : onX A.2 B.2 y.2 = true := by simp only [onX, Bool.and_eq_true, decide_eq_true_eq]; omega
    exact (onI_iff _ _ _).2 ⟨ty, (onX_iff _ _ _).1 k1, (onX_iff _ _ _).1 k2⟩
  · intro q; subst q
    by_cases h2 : y.2 = B.2
    · have := (oX.2.2 h2).2
      have := (oM.2.2 h2).2
      by_cases h1 : y.1 = B.1
      · exact x1 (on_point (by rw [show B = y from Prod.ext h1.symm h2.symm] at hX; exact hX))
      · omega
    · omega
  · intro q; subst q
    by_cases h2 : A.2 = y.2
    · have := (oX.2.2 h2).2
      have := (oM.2.2 h2).2
      by_cases h1 : A.1 = y.1
      · exact x2 (on_point (by rw [show A = y from Prod.ext h1 h2] at hX; exact hX))
      · omega
    · omega
end

section
set_option linter.unusedVariables false

theorem Opn.clean {P : List (Int × Int)} {a b : Int × Int} (h : Opn P a b) (hs : Simple P) (ha : a ∈ P) (hb : b ∈ P) : ∀ e ∈ edges P, Clean a b e.1 e.2 := by
  intro e he
  have m := edges_mem he
  exact ⟨fun k1 k2 => h.corner _ m.1 k1 k2, fun k1 k2 => h.corner _ m.2 k1 k2, fun k1 k2 => hs.corner he ha k1 k2, fun k1 k2 => hs.corner he hb k1 k2, h.cross e he⟩

section
variable {q0 qk : Int × Int} {c o : List (Int × Int)}

theorem Opn.link (h : Opn (q0 :: c ++ qk :: o) q0 qk) (hs : Simple (q0 :: c ++ qk :: o)) (hc : c ≠ []) (ho : o ≠ []) : Link q0 c qk o :=
  ⟨hs, hc, h.symm.clean hs (by simp) (by simp), ho⟩

theorem Link.same (h : Link q0 c qk o) {x m : Int × Int} (hx : onI qk q0 x = true) (x1 : x ≠ qk) (x2 : x ≠ q0) (hm : onI qk q0 m = true) (m1 : m ≠ qk) (m2 : m ≠ q0) : wc x (q0 :: c ++ qk :: o) = wc m (q0 :: c ++ qk :: o) := by
  refine wc_same fun e he => ?_
  apply Classical.byContradiction
  intro no
  obtain ⟨K, hK, y, y1, y2⟩ := meet_point no
  obtain ⟨k1, k2, k3⟩ := open_between (A := sc K qk) (B := sc K q0) (X := sc K x) (M := sc K m) (by rw [onI_sc hK]; exact hx) (sc_ne hK x1) (sc_ne hK x2) (by rw [onI_sc hK]; exact hm) (sc_ne hK m1) (sc_ne hK m2) y1
  have fr := (h.scaled hK).open k1 k2 k3
  have e1 : sc K q0 :: c.map (sc K) ++ sc K qk :: o.map (sc K) = (q0 :: c ++ qk :: o).map (sc K) := by simp
  rw [e1] at fr
  have := fr (sc K e.1, sc K e.2) (by rw [edges_map]; exact List.mem_map.2 ⟨_, he, rfl⟩)
  simp only at this
  rw [y2] at this; cases this

theorem Opn.rd (h : Opn (q0 :: c ++ qk :: o) q0 qk) (hs : Simple (q0 :: c ++ qk :: o)) (hc : c ≠ []) (ho : o ≠ []) :
    ∀ K : Int, 0 < K → ∀ x, onI (sc K qk) (sc K q0) x = true → x ≠ sc K qk → x ≠ sc K q0 → wc x ((q0 :: c ++ qk :: o).map (sc K)) ≠ 0 := by
  intro K hK x hx x1 x2
  have two : (0 : Int) < 2 := by decide
  have L := h.link hs hc ho
  have ne := md_ne L.ne
  have on := md_on qk q0
  have es : ∀ M : Int, sc M q0 :: c.map (sc M) ++ sc M qk :: o.map (sc M) = (q0 :: c ++ qk :: o).map (sc M) := fun M => by simp
  have fm := (L.scaled two).open on ne.1 ne.2
  rw [es] at fm
  have w2 : wc (md qk q0) ((q0 :: c ++ qk :: o).map (sc 2)) ≠ 0 := fun q => h.mid (by rw [md_comm]; exact ⟨fm, q⟩)
  rw [← wc_sc hK, map_sc] at w2
  rw [← wc_sc two, map_sc]
  have hK2 : 0 < K * 2 := by omega
  have s := (L.scaled hK2).same (x := sc 2 x) (m := sc K (md qk q0))
    (by rw [← sc_sc, ← sc_sc, sc_sc, sc_sc, Int.mul_comm, ← sc_sc, ← sc_sc, onI_sc two]; exact hx)
    (by rw [Int.mul_comm, ← sc_sc]; exact sc_ne two x1) (by rw [Int.mul_comm, ← sc_sc]; exact sc_ne two x2)
    (by rw [← sc_sc, ← sc_sc, onI_sc hK]; exact on) (by rw [← sc_sc]; exact sc_ne hK ne.1) (by rw [← sc_sc]; exact sc_ne hK ne.2)
  rw [es] at s
  rw [Int.mul_comm 2 K, s]
  exact w2

/-- A line from an end of the first line, within one part, is one of that part. -/
theorem Opn.sub {u v : Int × Int} (h : Link q0 c qk o) (hR : Rho (q0 :: c ++ qk :: o) 1) (r1 : Rho (q0 :: c ++ [qk]) 1) (r2 : Rho (qk :: o ++ [q0]) 1) (hu : u ∈ c) (hv : v = q0 ∨ v = qk) (ho : Opn (q0 :: c ++ qk :: o) u v) : Opn (q0 :: c ++ [qk]) u v := by
  have two : (0 : Int) < 2 := by decide
  have huQ : u ∈ q0 :: c ++ [qk] := by simp [hu]
  have huP : u ∈ q0 :: c ++ qk :: o := h.in_list huQ
  have hvP : v ∈ q0 :: c ++ qk :: o := by rcases hv with g | g <;> (subst g; simp)
  have hn := h.poly.nodup
  have uq0 : u ≠ q0 := by
    intro q; subst q
    simp only [List.cons_append, List.nodup_cons, List.mem_append] at hn
    exact hn.1 (.inl hu)
  have uqk : u ≠ qk := by
    intro q; subst q
    rw [List.nodup_append] at hn
    exact hn.2.2 u (by simp [hu]) u (by simp) rfl
  have uv : u ≠ v := by rcases hv with g | g <;> (subst g; assumption)
  have cl := ho.clean h.simple huP hvP
  have zero : ∀ {x : Int × Int}, x = v → tI u v x = 0 := fun q => by subst q; exact (tI_end _ _).2
  refine ⟨fun e he k => ?_, fun w hw h1 h2 => ho.corner w (h.in_list hw) h1 h2, ?_⟩
  · rw [edges_rest] at he
    rcases List.mem_append.1 he with g | g
    · exact ho.cross e (h.edge_in g) k
    · rw [List.mem_singleton] at g
      subst g
      have k1 := k.1
      simp only at k1
      rcases hv with g | g
      · rw [zero g.symm, Int.mul_zero] at k1; omega
      · rw [zero g.symm, Int.zero_mul] at k1; omega
  · rintro ⟨fr, w0⟩
    have hc : ∀ f ∈ edges (qk :: o ++ [q0]), Clean u v f.1 f.2 := by
      intro f hf
      rw [edges_rest] at hf
      rcases List.mem_append.1 hf with g | g
      · exact cl f (h.edge_out g)
      · rw [List.mem_singleton] at g
        subst g
        refine ⟨fun k1 k2 => ho.corner _ (by simp) k1 k2, fun k1 k2 => ho.corner _ (by simp) k1 k2, fun k1 k2 => ?_, fun k1 k2 => ?_, fun k => ?_⟩
        · have := h.poly.corner (last_mem qk q0 c) huQ uqk uq0
          rw [onI_comm]; exact this
        · rcases hv with g | g
          · exact absurd g k1
          · exact absurd g k2
        · have k1 := k.1
          simp only at k1
          rcases hv with g | g
          · rw [zero g.symm, Int.zero_mul] at k1; omega
          · rw [zero g.symm, Int.mul_zero] at k1; omega
    have offs := h.other.out_same two hu uv hc (md_on u v) (.inl (md_ne uv).2)
    have hR' : Rho (qk :: o ++ q0 :: c) 1 := by
      have e1 : q0 :: c ++ qk :: o = (q0 :: c) ++ (qk :: o) := rfl
      rw [e1] at hR
      exact hR.rot
    have w1 : wc (md u v) ((qk :: o ++ [q0]).map (sc 2)) = 0 := by
      rw [← h.other.none hR' r2 r1 u hu, ← wc_sc two u]
      refine (wc_same fun e he => ?_).symm
      rw [edges_map] at he
      obtain ⟨f, hf, rfl⟩ := List.mem_map.1 he
      exact offs f hf
    refine ho.mid ⟨?_, ?_⟩
    · intro e he
      rw [edges_map] at he
      obtain ⟨f, hf, rfl⟩ := List.mem_map.1 he
      rw [edges_two] at hf
      rcases List.mem_append.1 hf with g | g
      · exact fr _ (by rw [edges_map]; exact List.mem_map.2 ⟨f, last_in g, rfl⟩)
      · exact (offs f (last_in g)).aq
    · have eS := wc_split (md u v) (sc 2 q0) (sc 2 qk) (c.map (sc 2)) (o.map (sc 2))
      have e1 : (q0 :: c ++ qk :: o).map (sc 2) = sc 2 q0 :: c.map (sc 2) ++ sc 2 qk :: o.map (sc 2) := by simp
      rw [map_last] at w0 w1
      rw [e1, eS, w0, w1]
      rfl

end

/-- The triangle of two lines and the last edge is told as the whole. -/
theorem step_pos {q0 t qk : Int × Int} {c1 c2 : List (Int × Int)} (hs : Simple (q0 :: c1 ++ t :: (c2 ++ [qk]))) (hR : Rho (q0 :: c1 ++ t :: (c2 ++ [qk])) 1)
    (o1 : Opn (q0 :: c1 ++ t :: (c2 ++ [qk])) q0 t) (o2 : Opn (q0 :: c1 ++ t :: (c2 ++ [qk])) t qk) : 0 < tI q0 t qk := by
  by_cases h1 : c1 = []
  · subst h1
    by_cases h2 : c2 = []
    · subst h2; exact tri_pos hs hR
    · have e1 : q0 :: [] ++ t :: (c2 ++ [qk]) = [q0] ++ (t :: c2 ++ [qk]) := by simp
      have e2 : (t :: c2 ++ [qk]) ++ [q0] = t :: c2 ++ qk :: [q0] := by simp
      rw [e1] at hs hR o2
      have s' := hs.rot; have r' := hR.rot; have o' := o2.rot
      rw [e2] at s' r' o'
      have L := o'.link s' h2 (by simp)
      have := tri_pos L.other.poly (L.parts r' (o'.rd s' h2 (by simp))).2
      rw [tI_cyc] at this; exact this
  · have L := o1.link hs h1 (by simp)
    obtain ⟨r1, r2⟩ := L.parts hR (o1.rd hs h1 (by simp))
    by_cases h2 : c2 = []
    · subst h2
      have := tri_pos L.other.poly r2
      rw [tI_cyc, tI_cyc] at this; exact this
    · have e0 : q0 :: c1 ++ t :: (c2 ++ [qk]) = (q0 :: c1) ++ (t :: (c2 ++ [qk])) := rfl
      rw [e0] at hR o2
      have s := Opn.sub L.other hR.rot r2 r1 (u := qk) (v := t) (by simp) (.inl rfl) o2.symm.rot
      have e2 : t :: (c2 ++ [qk]) ++ [q0] = t :: c2 ++ qk :: [q0] := by simp
      have s' := L.other.poly
      rw [e2] at s r2 s'
      have o' := s.symm
      have L2 := o'.link s' h2 (by simp)
      have := tri_pos L2.other.poly (L2.parts r2 (o'.rd s' h2 (by simp))).2
      rw [tI_cyc] at this; exact this

/-- A part of a polygon behind a line that nothing bars. -/
structure Part (q0 : Int × Int) (c : List (Int × Int)) (qk : Int × Int) (o : List (Int × Int)) : Prop where
  simple : Simple (q0 :: c ++ qk :: o)
  rho : Rho (q0 :: c ++ qk :: o) 1
  opn : Opn (q0 :: c ++ qk :: o) q0 qk
  some : c ≠ []

section
variable {q0 qk : Int × Int} {c o : List (Int × Int)}

theorem Part.poly (h : Part q0 c qk o) : Simple (q0 :: c ++ [qk]) ∧ Rho (q0 :: c ++ [qk]) 1 := by
  by_cases ho : o = []
  · subst ho; exact ⟨h.simple, h.rho⟩
  · have L := h.opn.link h.simple h.some ho
    exact ⟨L.poly, (L.parts h.rho (h.opn.rd h.simple h.some ho)).1⟩

theorem Part.sub (h : Part q0 c qk o) {u v : Int × Int} (hu : u ∈ c) (hv : v = q0 ∨ v = qk) (k : Opn (q0 :: c ++ qk :: o) u v) : Opn (q0 :: c ++ [qk]) u v := by
  by_cases ho : o = []
  · subst ho; exact k
  · have L := h.opn.link h.simple h.some ho
    obtain ⟨r1, r2⟩ := L.parts h.rho (h.opn.rd h.simple h.some ho)
    exact Opn.sub L h.rho r1 r2 hu hv k

theorem Part.up (h : Part q0 c qk o) {C : List T3} (k : CutA (q0 :: c ++ [qk]) C) : ∃ D, CutA (q0 :: c ++ qk :: o) (C ++ D) := by
  by_cases ho : o = []
  · subst ho; exact ⟨[], by rw [List.append_nil]; exact k⟩
  · have L := h.opn.link h.simple h.some ho
    obtain ⟨D, hD⟩ := cut_any _ _ (Nat.le_refl _) L.other.poly (L.parts h.rho (h.opn.rd h.simple h.some ho)).2
    exact ⟨D, k.join hD⟩

/-- What a triangle of the part's cut on its line tells of its third corner. -/
theorem Part.third (h : Part q0 c qk o) {C : List T3} (k : CutA (q0 :: c ++ [qk]) C) {d : Int × Int} (hd : Has C q0 d qk) : d ∈ c ∧ Opn (q0 :: c ++ qk :: o) q0 d ∧ Opn (q0 :: c ++ qk :: o) d qk ∧ 0 < tI q0 d qk := by
  obtain ⟨D, hD⟩ := h.up k
  have hh : Has (C ++ D) q0 d qk := Has.append.2 (.inl hd)
  have pos := k.cut.has_pos hd
  obtain ⟨n1, n2, _⟩ := tri_ne pos
  have m := k.corner _ _ _ hd.cyc
  refine ⟨?_, hD.open h.simple h.rho hh, hD.open h.simple h.rho hh.cyc, pos⟩
  simp only [List.cons_append, List.mem_cons, List.mem_append, List.not_mem_nil, or_false] at m
  rcases m with g | g | g
  · exact absurd g.symm n1
  · exact g
  · exact absurd g n2

/-- There is a corner that makes a triangle with the line. -/
theorem Part.tip (h : Part q0 c qk o) : ∃ d, d ∈ c ∧ Opn (q0 :: c ++ qk :: o) q0 d ∧ Opn (q0 :: c ++ qk :: o) d qk ∧ 0 < tI q0 d qk := by
  obtain ⟨s, r⟩ := h.poly
  obtain ⟨C, hC⟩ := cut_any _ _ (Nat.le_refl _) s r
  obtain ⟨d, hd⟩ := has_ring hC.cut (last_mem qk q0 c)
  exact ⟨d, h.third hC hd.cyc⟩

end

theorem Part.step {q0 t qk : Int × Int} {c1 c2 o : List (Int × Int)} (h : Part q0 (c1 ++ t :: c2) qk o) (o1 : Opn (q0 :: (c1 ++ t :: c2) ++ qk :: o) q0 t) (o2 : Opn (q0 :: (c1 ++ t :: c2) ++ qk :: o) t qk) : 0 < tI q0 t qk := by
  obtain ⟨s, r⟩ := h.poly
  have k1 := h.sub (u := t) (v := q0) (by simp) (.inl rfl) o1.symm
  have k2 := h.sub (u := t) (v := qk) (by simp) (.inr rfl) o2
  have e : q0 :: (c1 ++ t :: c2) ++ [qk] = q0 :: c1 ++ t :: (c2 ++ [qk]) := by simp
  rw [e] at s r k1 k2
  exact step_pos s r k1.symm k2

/-- How much wider the line from a to c is seen from d than from b. -/
def dotP (b a c : Int × Int) : Int := (a.1 - b.1) * (c.1 - b.1) + (a.2 - b.2) * (c.2 - b.2)
def wide (a b c d : Int × Int) : Int := dotP b a c * (tI a d c).natAbs - (tI a b c).natAbs * dotP d a c

theorem wide_in (a b c d : Int × Int) : inC a b c d = dotP b a c * tI a d c - tI a b c * dotP d a c := by
  obtain ⟨a1, a2⟩ := a; obtain ⟨b1, b2⟩ := b; obtain ⟨c1, c2⟩ := c; obtain ⟨d1, d2⟩ := d
  simp only [inC, dotP, tI]
  grind

theorem wide_pos {a b c d : Int × Int} (h1 : 0 < tI a b c) (h2 : 0 < tI a d c) (h : 0 < inC a b c d) : 0 < wide a b c d := by
  rw [wide_in] at h
  unfold wide
  have e1 : ((tI a d c).natAbs : Int) = tI a d c := by omega
  have e2 : ((tI a b c).natAbs : Int) = tI a b c := by omega
  rw [e1, e2]; exact h

/-- Triangles by the widest angles, behind the line from q0 to qk. -/
def CL (P : List (Int × Int)) (q0 : Int × Int) (c : List (Int × Int)) (qk : Int × Int) (C : List T3) : Prop :=
  ∀ R : Int × Int → List (Int × Int) → Int × Int → List T3 → Prop, (∀ q0 qk, R q0 [] qk []) →
    (∀ (q0 t qk : Int × Int) (c1 c2 : List (Int × Int)) (C D : List T3), Opn P q0 t → Opn P t qk → (∀ d ∈ c1 ++ t :: c2, Opn P q0 d → Opn P d qk → wide q0 t qk d ≤ 0) → R q0 c1 t C → R t c2 qk D → R q0 (c1 ++ t :: c2) qk ((q0, t, qk) :: (C ++ D))) → R q0 c qk C

theorem CL.nil {P : List (Int × Int)} (q0 qk : Int × Int) : CL P q0 [] qk [] := fun _ n _ => n q0 qk

theorem CL.step {P : List (Int × Int)} (q0 t qk : Int × Int) (c1 c2 : List (Int × Int)) (C D : List T3) (o1 : Opn P q0 t) (o2 : Opn P t qk) (wd : ∀ d ∈ c1 ++ t :: c2, Opn P q0 d → Opn P d qk → wide q0 t qk d ≤ 0) (h1 : CL P q0 c1 t C) (h2 : CL P t c2 qk D) : CL P q0 (c1 ++ t :: c2) qk ((q0, t, qk) :: (C ++ D)) :=
  fun R n s => s q0 t qk c1 c2 C D o1 o2 wd (h1 R n s) (h2 R n s)

theorem CL.length {P : List (Int × Int)} {q0 qk : Int × Int} {c : List (Int × Int)} {C : List T3} (h : CL P q0 c qk C) : C.length = c.length := by
  refine h (fun _ c _ C => C.length = c.length) (fun _ _ => rfl) (fun q0 t qk c1 c2 C D _ _ _ i1 i2 => ?_)
  simp only [List.length_cons, List.length_append, i1, i2]; omega

theorem CL.empty {P : List (Int × Int)} {q0 qk : Int × Int} {C : List T3} (h : CL P q0 [] qk C) : C = [] := by
  have := h.length
  cases C with
  | nil => rfl
  | cons _ _ => simp at this

theorem has_split {C : List T3} {a b c : Int × Int} (h : Has C a b c) : ∃ s1 s2 : List T3, C.Perm ((a, b, c) :: (s1 ++ s2)) ∨ C.Perm ((b, c, a) :: (s1 ++ s2)) ∨ C.Perm ((c, a, b) :: (s1 ++ s2)) := by
  rcases h with h | h | h
  · obtain ⟨s1, s2, rfl⟩ := List.append_of_mem h; exact ⟨s1, s2, .inl List.perm_middle⟩
  · obtain ⟨s1, s2, rfl⟩ := List.append_of_mem h; exact ⟨s1, s2, .inr (.inl List.perm_middle)⟩
  · obtain ⟨s1, s2, rfl⟩ := List.append_of_mem h; exact ⟨s1, s2, .inr (.inr List.perm_middle)⟩

/-- Any other triangle told second, from any corner on. -/
theorem CutA.second {P : List (Int × Int)} {T : T3} {C : List T3} {a b c : Int × Int} (h : CutA P (T :: C)) (k : Has C a b c) : ∃ E, CutA P (T :: (a, b, c) :: E) := by
  have sw : ∀ {x y : T3} {E : List T3}, (x :: y :: E).Perm (y :: x :: E) := fun {x y E} => List.Perm.swap y x E
  obtain ⟨s1, s2, p | p | p⟩ := has_split k
  · exact ⟨_, h.perm (p.cons T)⟩
  · exact ⟨_, (((h.perm (p.cons T)).perm sw).turn.turn).perm sw⟩
  · exact ⟨_, (((h.perm (p.cons T)).perm sw).turn).perm sw⟩
end

section
set_option linter.unusedVariables false

def GoodT (C : List T3) : Prop := ∀ a b x d, Has C a b x → Has C b a d → inC a b x d ≤ 0

/-- A triangle and the cuts behind its two sides. -/
theorem CutA.three {q0 t qk : Int × Int} {c1 c2 : List (Int × Int)} {C D : List T3} (pos : 0 < tI q0 t qk) (h1 : c1 = [] ∧ C = [] ∨ CutA (q0 :: c1 ++ [t]) C) (h2 : c2 = [] ∧ D = [] ∨ CutA (t :: c2 ++ [qk]) D) :
    CutA (q0 :: (c1 ++ t :: c2) ++ [qk]) ((q0, t, qk) :: (C ++ D)) := by
  have A1 : CutA (t :: (c2 ++ [qk]) ++ [q0]) ((q0, t, qk) :: D) := by
    rcases h2 with ⟨rfl, rfl⟩ | h2
    · have := CutA.tri pos
      have e : [q0, t, qk] = [q0] ++ [t, qk] := rfl
      rw [e] at this
      exact this.rot
    · have k := CutA.join (q0 := t) (c := c2) (qk := qk) (o := [q0]) h2 (CutA.tri (a := qk) (b := q0) (c := t) (by rw [tI_cyc]; exact pos))
      have e : t :: c2 ++ qk :: [q0] = t :: (c2 ++ [qk]) ++ [q0] := by simp
      rw [e] at k
      exact (k.perm List.perm_append_comm).turn
  rcases h1 with ⟨rfl, rfl⟩ | h1
  · have e : t :: (c2 ++ [qk]) ++ [q0] = (t :: (c2 ++ [qk])) ++ [q0] := rfl
    rw [e] at A1
    exact A1.rot
  · have k := CutA.join (q0 := q0) (c := c1) (qk := t) (o := c2 ++ [qk]) h1 A1
    have e : q0 :: c1 ++ t :: (c2 ++ [qk]) = q0 :: (c1 ++ t :: c2) ++ [qk] := by simp
    rw [e] at k
    exact k.perm List.perm_middle

theorem has_nil {a b c : Int × Int} (h : Has [] a b c) : False := by
  rcases h with h | h | h <;> simp at h

/-- The corners of the cut of a part, or of none. -/
theorem in_part {q0 t : Int × Int} {c1 : List (Int × Int)} {C : List T3} (h1 : c1 = [] ∧ C = [] ∨ CutA (q0 :: c1 ++ [t]) C) {a b x : Int × Int} (k : Has C a b x) : a ∈ q0 :: c1 ++ [t] ∧ b ∈ q0 :: c1 ++ [t] ∧ x ∈ q0 :: c1 ++ [t] ∧ 0 < tI a b x := by
  rcases h1 with ⟨rfl, rfl⟩ | h1
  · exact (has_nil k).elim
  · exact ⟨h1.corner _ _ _ k, h1.corner _ _ _ k.cyc, h1.corner _ _ _ k.cyc.cyc, h1.cut.has_pos k⟩

/-- Put together, good cuts behind a triangle with the widest angle are good. -/
theorem good_three {q0 t qk : Int × Int} {c1 c2 : List (Int × Int)} {C D : List T3} (nd : (q0 :: (c1 ++ t :: c2) ++ [qk]).Nodup) (pos : 0 < tI q0 t qk) (h1 : c1 = [] ∧ C = [] ∨ CutA (q0 :: c1 ++ [t]) C) (h2 : c2 = [] ∧ D = [] ∨ CutA (t :: c2 ++ [qk]) D)
    (g1 : GoodT C) (g2 : GoodT D) (k1 : ∀ d, Has C t q0 d → inC q0 t qk d ≤ 0) (k2 : ∀ d, Has D qk t d → inC q0 t qk d ≤ 0) : GoodT ((q0, t, qk) :: (C ++ D)) := by
  obtain ⟨n1, n2, n3⟩ := tri_ne pos
  have mk : ∀ x, x ∈ q0 :: c1 ++ [t] → x ≠ qk := by
    intro x hx q; subst q
    rw [List.nodup_append] at nd
    refine nd.2.2 x ?_ x (by simp) rfl
    simp only [List.cons_append, List.mem_cons, List.mem_append, List.not_mem_nil, or_false] at hx ⊢
    rcases hx with g | g | g
    · exact .inl g
    · exact .inr (.inl g)
    · exact .inr (.inr (.inl g))
  have m0 : ∀ x, x ∈ t :: c2 ++ [qk] → x ≠ q0 := by
    intro x hx q; subst q
    rw [List.cons_append, List.nodup_cons] at nd
    refine nd.1 ?_
    simp only [List.cons_append, List.mem_cons, List.mem_append, List.not_mem_nil, or_false] at hx ⊢
    rcases hx with g | g | g
    · exact .inl (.inr (.inl g))
    · exact .inl (.inr (.inr g))
    · exact .inr g
  have both : ∀ x, x ∈ q0 :: c1 ++ [t] → x ∈ t :: c2 ++ [qk] → x = t := by
    intro x hx hy
    have nq := mk x hx
    have n0 := m0 x hy
    simp only [List.cons_append, List.mem_cons, List.mem_append, List.not_mem_nil, or_false] at hx hy
    rcases hx with g | g | g
    · exact absurd g n0
    · rcases hy with g' | g' | g'
      · exact g'
      · exfalso
        have e : q0 :: (c1 ++ t :: c2) ++ [qk] = (q0 :: c1) ++ (t :: c2 ++ [qk]) := by simp
        rw [e, List.nodup_append] at nd
        exact nd.2.2 x (by simp [g]) x (by simp [g']) rfl
      · exact absurd g' nq
    · exact g
  have TC : ∀ a b x d, Has [(q0, t, qk)] a b x → Has C b a d → inC a b x d ≤ 0 := by
    intro a b x d ha hb
    obtain ⟨i1, i2, _, _⟩ := in_part h1 hb
    rcases has_one ha with ⟨rfl, rfl, rfl⟩ | ⟨rfl, rfl, rfl⟩ | ⟨rfl, rfl, rfl⟩
    · exact k1 d hb
    · exact absurd rfl (mk _ i1)
    · exact absurd rfl (mk _ i2)
  have TD : ∀ a b x d, Has [(q0, t, qk)] a b x → Has D b a d → inC a b x d ≤ 0 := by
    intro a b x d ha hb
    obtain ⟨i1, i2, _, _⟩ := in_part h2 hb
    rcases has_one ha with ⟨rfl, rfl, rfl⟩ | ⟨rfl, rfl, rfl⟩ | ⟨rfl, rfl, rfl⟩
    · exact absurd rfl (m0 _ i2)
    · have := k2 d hb
      rw [inC_cyc] at this; exact this
    · exact absurd rfl (m0 _ i1)
  have CD : ∀ a b x d, Has C a b x → Has D b a d → False := by
    intro a b x d ha hb
    obtain ⟨i1, i2, _, p⟩ := in_part h1 ha
    obtain ⟨j1, j2, _, _⟩ := in_part h2 hb
    exact (tri_ne p).1 ((both a i1 j2).trans (both b i2 j1).symm)
  intro a b x d ha hb
  rcases has_cons.1 ha with ha | ha <;> rcases has_cons.1 hb with hb | hb
  · exfalso
    rcases has_one ha with ⟨rfl, rfl, rfl⟩ | ⟨rfl, rfl, rfl⟩ | ⟨rfl, rfl, rfl⟩ <;> rcases has_one hb with ⟨e1, e2, e3⟩ | ⟨e1, e2, e3⟩ | ⟨e1, e2, e3⟩
    all_goals first | exact n1 e1 | exact n1 e1.symm | exact n1 e2 | exact n1 e2.symm | exact n1 e3 | exact n1 e3.symm | exact n2 e1 | exact n2 e1.symm | exact n2 e2 | exact n2 e2.symm | exact n2 e3 | exact n2 e3.symm | exact n3 e1 | exact n3 e1.symm | exact n3 e2 | exact n3 e2.symm | exact n3 e3 | exact n3 e3.symm
  · rcases Has.append.1 hb with hb | hb
    · exact TC a b x d ha hb
    · exact TD a b x d ha hb
  · rw [← inC_swap]
    rcases Has.append.1 ha with ha | ha
    · exact TC b a d x hb ha
    · exact TD b a d x hb ha
  · rcases Has.append.1 ha with ha | ha <;> rcases Has.append.1 hb with hb | hb
    · exact g1 a b x d ha hb
    · exact (CD a b x d ha hb).elim
    · exact (CD b a d x hb ha).elim
    · exact g2 a b x d ha hb

theorem part_of {P l r : List (Int × Int)} {q0 qk : Int × Int} {c : List (Int × Int)} (hs : Simple P) (hR : Rho P 1) (e : P = l ++ (q0 :: c ++ [qk]) ++ r) (ho : Opn P q0 qk) (hc : c ≠ []) : Part q0 c qk (r ++ l) ∧ ∀ a b, Opn (q0 :: c ++ qk :: (r ++ l)) a b ↔ Opn P a b := by
  have e1 : P = l ++ ((q0 :: c ++ [qk]) ++ r) := by rw [e]; simp
  have e2 : ((q0 :: c ++ [qk]) ++ r) ++ l = q0 :: c ++ qk :: (r ++ l) := by simp
  have iff : ∀ a b, Opn (q0 :: c ++ qk :: (r ++ l)) a b ↔ Opn P a b := by
    intro a b
    rw [e1, ← e2]
    exact ⟨Opn.rot, Opn.rot⟩
  refine ⟨⟨?_, ?_, (iff _ _).2 ho, hc⟩, iff⟩
  · rw [e1] at hs; rw [← e2]; exact hs.rot
  · rw [e1] at hR; rw [← e2]; exact hR.rot

/-- CUTS BY THE WIDEST ANGLES ARE CUTS, AND GOOD ONES. -/
theorem CL.cut {P : List (Int × Int)} (hs : Simple P) (hR : Rho P 1) {q0 qk : Int × Int} {c : List (Int × Int)} {C : List T3} (h : CL P q0 c qk C) :
    ∀ l r, P = l ++ (q0 :: c ++ [qk]) ++ r → Opn P q0 qk → (c = [] ∧ C = [] ∨ CutA (q0 :: c ++ [qk]) C) ∧ GoodT C := by
  refine h (fun q0 c qk C => ∀ l r, P = l ++ (q0 :: c ++ [qk]) ++ r → Opn P q0 qk → (c = [] ∧ C = [] ∨ CutA (q0 :: c ++ [qk]) C) ∧ GoodT C) (fun q0 qk l r _ _ => ⟨.inl ⟨rfl, rfl⟩, fun a b x d h _ => (has_nil h).elim⟩) (fun q0 t qk c1 c2 C D o1 o2 wd ih1 ih2 => ?_)
  intro l r e ho
  obtain ⟨pt, iff⟩ := part_of hs hR e ho (by simp)
  obtain ⟨h1, g1⟩ := ih1 l (c2 ++ [qk] ++ r) (by rw [e]; simp) o1
  obtain ⟨h2, g2⟩ := ih2 (l ++ q0 :: c1) r (by rw [e]; simp) o2
  have pos := pt.step ((iff _ _).2 o1) ((iff _ _).2 o2)
  obtain ⟨sQ, rQ⟩ := pt.poly
  have cut := CutA.three pos h1 h2
  have key : ∀ {E : List T3}, CutA (q0 :: (c1 ++ t :: c2) ++ [qk]) E → ∀ {d}, Has E q0 d qk → 0 < inC q0 t qk d → False := by
    intro E hE d hd ic
    obtain ⟨m, k1, k2, p⟩ := pt.third hE hd
    have := wd d m ((iff _ _).1 k1) ((iff _ _).1 k2)
    have := wide_pos pos p ic
    omega
  refine ⟨.inr cut, good_three sQ.nodup pos h1 h2 g1 g2 (fun d hd => ?_) (fun d hd => ?_)⟩
  · apply Int.not_lt.1
    intro ic
    obtain ⟨E, hE⟩ := cut.second (Has.append.2 (.inl hd))
    exact key (hE.flip sQ rQ ic) (.inl (by simp)) ic
  · apply Int.not_lt.1
    intro ic
    obtain ⟨E, hE⟩ := cut.second (Has.append.2 (.inr hd))
    have ic' : 0 < inC t qk q0 d := by rw [← inC_cyc]; exact ic
    have f := hE.turn.flip sQ rQ ic'
    have hh : Has ((t, d, q0) :: (d, qk, q0) :: E) d qk q0 := .inl (by simp)
    exact key f hh.cyc.cyc ic

/-- Of a whole polygon. -/
theorem CL.all {P : List (Int × Int)} (hs : Simple P) (hR : Rho P 1) {q0 qk : Int × Int} {c : List (Int × Int)} {C : List T3} (h : CL P q0 c qk C) (e : P = q0 :: c ++ [qk]) : CutN P C := by
  have hc : c ≠ [] := by
    intro q; subst q
    have := hs.three
    rw [e] at this
    simp at this
  have ho : Opn P q0 qk := by
    refine (edge_open hs ?_).symm
    rw [e]; exact last_mem qk q0 c
  obtain ⟨h1, h2⟩ := h.cut hs hR [] [] (by rw [e]; simp) ho
  rcases h1 with ⟨g, _⟩ | h1
  · exact absurd g hc
  · rw [← e] at h1
    exact h1.good h2
end

section
set_option linter.unusedVariables false

theorem path_list : ∀ (a : Int × Int) (s : List (Int × Int)), path a s = (List.range s.length).map fun i => (pAt (a :: s) i, pAt (a :: s) (i + 1))
  | _, [] => rfl
  | a, b :: s => by
    simp only [path]
    rw [path_list b s, List.length_cons, List.range_succ_eq_map, List.map_cons, List.map_map]
    rfl

theorem edges_list (l : List (Int × Int)) : edges l = (List.range l.length).map fun i => (pAt l i, pAt l (nextI l.length i)) := by
  cases l with
  | nil => rfl
  | cons a r =>
    show path a (r ++ [a]) = _
    rw [path_list]
    have hl : (r ++ [a]).length = (a :: r).length := by simp
    rw [hl]
    apply List.map_congr_left
    intro i hi
    rw [List.mem_range] at hi
    have g : ∀ j, j < (a :: r).length → pAt (a :: (r ++ [a])) j = pAt (a :: r) j := by
      intro j hj
      unfold pAt
      rw [show a :: (r ++ [a]) = (a :: r) ++ [a] by simp, List.getD_eq_getElem?_getD, List.getD_eq_getElem?_getD, List.getElem?_append_left hj]
    rw [g i hi]
    by_cases hn : i + 1 < (a :: r).length
    · rw [next_lt hn, g _ hn]
    · have he : i + 1 = (a :: r).length := by omega
      rw [next_last he]
      congr 1
      unfold pAt
      rw [show a :: (r ++ [a]) = (a :: r) ++ [a] by simp, List.getD_eq_getElem?_getD, List.getElem?_append_right (by omega), he]
      simp

theorem odd1_append (p : Int × Int) (e : (Int × Int) × (Int × Int)) : ∀ L, odd1 p (L ++ [e]) = (odd1 p L ^^ cross1 p e.1 e.2)
  | [] => by simp [odd1]
  | f :: L => by
    simp only [List.cons_append, odd1]
    rw [odd1_append p e L]
    cases cross1 p f.1 f.2 <;> cases odd1 p L <;> cases cross1 p e.1 e.2 <;> rfl

theorem flip_cross (a b p : Int × Int) : flipI a b p = cross1 p a b := by
  unfold flipI cross1
  rw [Bool.and_assoc, Bool.and_assoc]

theorem in_odd (l : List (Int × Int)) (p : Int × Int) : ∀ k, inI l p k = odd1 p ((List.range k).map fun i => (pAt l i, pAt l (nextI l.length i)))
  | 0 => rfl
  | k + 1 => by
    rw [List.range_succ, List.map_append]
    simp only [List.map_cons, List.map_nil]
    rw [odd1_append, ← in_odd l p k]
    simp only [inI]
    rw [flip_cross]

theorem in_wc {l : List (Int × Int)} (hs : Simple l) {p : Int × Int} (fr : Free p l) : inI l p l.length = true ↔ wc p l ≠ 0 := by
  rw [in_odd, ← edges_list]
  exact odd_wc hs fr

theorem side_free (l : List (Int × Int)) (p : Int × Int) : sideI l p = -1 ↔ Free p l := by
  unfold sideI Free
  rw [edges_list]
  rcases firstI_cases (fun i => onI (pAt l i) (pAt l (nextI l.length i)) p) l.length with ⟨h1, h2⟩ | ⟨k, hk, h1, h2, h3⟩
  · refine ⟨fun _ e he => ?_, fun _ => h1⟩
    obtain ⟨i, hi, rfl⟩ := List.mem_map.1 he
    exact h2 i (List.mem_range.1 hi)
  · refine ⟨fun q => ?_, fun q => ?_⟩
    · rw [h1] at q; omega
    · have := q _ (List.mem_map.2 ⟨k, List.mem_range.2 hk, rfl⟩)
      simp only at this
      rw [h2] at this
      cases this

theorem at_free {l : List (Int × Int)} {p : Int × Int} (h : Free p l) : atI l p = -1 := by
  unfold atI
  refine firstI_none fun j hj => decide_eq_false fun q => ?_
  have := h (pAt l j, pAt l (nextI l.length j)) (by rw [edges_list]; exact List.mem_map.2 ⟨j, List.mem_range.2 hj, rfl⟩)
  simp only at this
  rw [q, on_self'] at this
  cases this

/-- OUTSIDE: on no edge, and not gone round. -/
theorem place_out {l : List (Int × Int)} (hs : Simple l) (p : Int × Int) : (placeI l p).1 = 0 ↔ Free p l ∧ wc p l = 0 := by
  unfold placeI
  by_cases hf : Free p l
  · rw [if_pos (at_free hf), if_pos ((side_free l p).2 hf)]
    by_cases hi : inI l p l.length = true
    · rw [if_pos hi]
      exact ⟨fun q => by simp at q, fun q => absurd q.2 ((in_wc hs hf).1 hi)⟩
    · rw [if_neg hi]
      refine ⟨fun _ => ⟨hf, ?_⟩, fun _ => rfl⟩
      apply Classical.byContradiction
      intro q
      exact hi ((in_wc hs hf).2 q)
  · refine ⟨fun q => ?_, fun q => absurd q.1 hf⟩
    have hn : sideI l p ≠ -1 := fun k => hf ((side_free l p).1 k)
    by_cases ha : atI l p = -1
    · rw [if_pos ha, if_neg hn] at q; simp at q
    · rw [if_neg ha] at q; simp at q

/-- INSIDE. -/
theorem place_in {l : List (Int × Int)} (hs : Simple l) (p : Int × Int) : (placeI l p).1 = 1 ↔ Free p l ∧ wc p l ≠ 0 := by
  unfold placeI
  by_cases hf : Free p l
  · rw [if_pos (at_free hf), if_pos ((side_free l p).2 hf)]
    by_cases hi : inI l p l.length = true
    · rw [if_pos hi]
      exact ⟨fun _ => ⟨hf, (in_wc hs hf).1 hi⟩, fun _ => rfl⟩
    · rw [if_neg hi]
      exact ⟨fun q => by simp at q, fun q => absurd ((in_wc hs hf).2 q.2) hi⟩
  · refine ⟨fun q => ?_, fun q => absurd q.1 hf⟩
    have hn : sideI l p ≠ -1 := fun k => hf ((side_free l p).1 k)
    by_cases ha : atI l p = -1
    · rw [if_pos ha, if_neg hn] at q; simp at q
    · rw [if_neg ha] at q; simp at q

/-- A text that passes the document's test tells a simple polygon. -/
theorem simple_of_check {l : List (Int × Int)} (h3 : 3 ≤ l.length) (h : firstI (badRow l) l.length = -1) : Simple l := by
  refine simple_of h3 fun i k hik hk => ?_
  rcases firstI_cases (badRow l) l.length with ⟨_, hb⟩ | ⟨j, _, hj, _, _⟩
  · cases ha : apL l i k with
    | true => exact ha
    | false =>
      have := hb i (by omega)
      rw [badRow_true hik hk ha] at this
      cases this
  · omega

/-- Told backwards. -/
theorem rev_form {l : List (Int × Int)} (h : 2 ≤ l.length) : ∃ a b s, l = a :: [] ++ b :: s ∧ l.reverse = s.reverse ++ (b :: [] ++ [a]) := by
  match l, h with
  | a :: b :: s, _ => exact ⟨a, b, s, rfl, by simp⟩

theorem Simple.backwards {l : List (Int × Int)} (h : Simple l) : Simple l.reverse := by
  obtain ⟨a, b, s, e1, e2⟩ := rev_form (l := l) (by have := h.three; omega)
  rw [e1] at h
  have k := h.flip
  rw [e2]
  have e : b :: [].reverse ++ a :: s.reverse = (b :: [] ++ [a]) ++ s.reverse := by simp
  rw [e] at k
  exact k.rot

theorem wc_backwards (p : Int × Int) {l : List (Int × Int)} (h : 2 ≤ l.length) : wc p l.reverse = - wc p l := by
  obtain ⟨a, b, s, e1, e2⟩ := rev_form h
  have k := wc_flip p a b [] s
  rw [← e1] at k
  rw [e2, wc_rot, ← k]
  congr 1

theorem tw_backwards {l : List (Int × Int)} (h : 2 ≤ l.length) : tw l.reverse = - tw l := by
  obtain ⟨a, b, s, e1, e2⟩ := rev_form h
  have k := tw_flip a b [] s
  rw [← e1] at k
  rw [e2, tw_rot, ← k]
  congr 1

theorem mem_backwards {l : List (Int × Int)} (h : 2 ≤ l.length) {e : (Int × Int) × (Int × Int)} : e ∈ edges l.reverse ↔ sw e ∈ edges l := by
  obtain ⟨a, b, s, e1, e2⟩ := rev_form h
  have k := mem_flip (e := e) (a := a) (b := b) (r := []) (s := s)
  rw [← e1] at k
  rw [← k, e2]
  have e' : b :: [].reverse ++ a :: s.reverse = (b :: [] ++ [a]) ++ s.reverse := by simp
  rw [e']
  exact (edges_rot _ _).mem_iff

theorem free_backwards {l : List (Int × Int)} (h : 2 ≤ l.length) (p : Int × Int) : Free p l.reverse ↔ Free p l := by
  constructor
  · intro hf e he
    have := hf (sw e) ((mem_backwards h).2 (by unfold sw; exact he))
    simp only [sw] at this
    rw [onI_comm]; exact this
  · intro hf e he
    have := hf (sw e) ((mem_backwards h).1 he)
    simp only [sw] at this
    rw [onI_comm]; exact this

/-- Against the clock. -/
def ccw (l : List (Int × Int)) : List (Int × Int) := if 0 < tw l then l else l.reverse

structure Ccw (l : List (Int × Int)) : Prop where
  simple : Simple (ccw l)
  rho : Rho (ccw l) 1
  area : tw (ccw l) = (tw l).natAbs
  pos : 0 < tw (ccw l)
  free : ∀ p, Free p (ccw l) ↔ Free p l
  wind : ∀ p, wc p (ccw l) = 0 ↔ wc p l = 0
  edge : ∀ e, e ∈ edges (ccw l) → e ∈ edges l ∨ sw e ∈ edges l
  mem : ∀ v, v ∈ ccw l ↔ v ∈ l

theorem ccw_all {l : List (Int × Int)} (h : Simple l) : Ccw l := by
  have h2 : 2 ≤ l.length := by have := h.three; omega
  obtain ⟨ρ, hR⟩ := h.rho
  obtain ⟨s1, s2⟩ := tw_sign h hR
  by_cases hp : 0 < tw l
  · have e : (if 0 < tw l then l else l.reverse) = l := if_pos hp
    have hr : ρ = 1 := s1.2 hp
    subst hr
    refine ⟨?_, ?_, ?_, ?_, ?_, ?_, ?_, ?_⟩ <;> (unfold ccw; rw [e])
    · exact h
    · exact hR
    · omega
    · exact hp
    · exact fun p => Iff.rfl
    · exact fun p => Iff.rfl
    · exact fun e he => .inl he
    · exact fun v => Iff.rfl
  · have e : (if 0 < tw l then l else l.reverse) = l.reverse := if_neg hp
    have hr : ρ = -1 := by rcases hR.1 with k | k; · exact absurd (s1.1 k) hp
                           · exact k
    have hn : tw l < 0 := s2.1 hr
    have hb := h.backwards
    obtain ⟨ρ', hR'⟩ := hb.rho
    have t' : 0 < tw l.reverse := by rw [tw_backwards h2]; omega
    have hr' : ρ' = 1 := (tw_sign hb hR').1.2 t'
    subst hr'
    refine ⟨?_, ?_, ?_, ?_, ?_, ?_, ?_, ?_⟩ <;> (unfold ccw; rw [e])
    · exact hb
    · exact hR'
    · rw [tw_backwards h2]; omega
    · exact t'
    · exact free_backwards h2
    · intro p; rw [wc_backwards p h2]; omega
    · exact fun e he => .inr ((mem_backwards h2).1 he)
    · exact fun v => List.mem_reverse

/-- COVERED, FINDS: a point is outside just if it lies in no triangle of a cut. -/
theorem cut_out {l : List (Int × Int)} (hs : Simple l) {C : List T3} (h : CutG (ccw l) C) (p : Int × Int) : (placeI l p).1 = 0 ↔ ∀ t ∈ C, ¬ InC t p := by
  have k := ccw_all hs
  rw [place_out hs, ← k.free, ← k.wind]
  constructor
  · rintro ⟨f, w⟩ t ht hi
    have := h.inside k.rho ht hi f
    omega
  · intro no
    have nc : ¬ (wc p (ccw l) ≠ 0 ∨ ¬ Free p (ccw l)) := fun q => by
      obtain ⟨t, ht, hi⟩ := h.covers q
      exact no t ht hi
    constructor
    · exact Classical.byContradiction fun q => nc (.inr q)
    · exact Classical.byContradiction fun q => nc (.inl q)

/-- COVERED: strictly in a triangle: inside. -/
theorem cut_in {l : List (Int × Int)} (hs : Simple l) {C : List T3} (h : CutG (ccw l) C) {p : Int × Int} {t : T3} (ht : t ∈ C) (hp : Within3 t p) : (placeI l p).1 = 1 := by
  have k := ccw_all hs
  rw [place_in hs]
  have f := h.strict_free k.simple k.rho ht hp
  refine ⟨(k.free p).1 f, fun q => ?_⟩
  have := h.strict_in k.simple k.rho ht hp
  rw [(k.wind p).2 q] at this
  omega

theorem cross_swap (a b c d : Int × Int) : crossI a b c d = crossI a b d c := by
  unfold crossI
  rw [Bool.eq_iff_iff]
  simp only [Bool.and_eq_true, decide_eq_true_eq, sgn_mul_neg]
  rw [tI_neg d c a, tI_neg d c b, Int.neg_mul_neg, Int.mul_comm (tI a b d)]

theorem meet_swap (a b c d : Int × Int) : meetI a b c d = meetI a b d c := by
  unfold meetI
  rw [onI_comm d c a, onI_comm d c b, cross_swap a b d c]
  cases onI a b c <;> cases onI a b d <;> rfl

/-- VISIBLE. -/
theorem cut_hidden {l : List (Int × Int)} (hs : Simple l) {C : List T3} (h : CutN (ccw l) C) {v a b c : Int × Int} (hv : v ∈ l) (ht : Has C a b c) (ic : 0 < inC a b c v) {i j k : Int} (hi : 0 < i) (hj : 0 < j) (hk : 0 < k) :
    ∃ m, m < l.length ∧ pAt l m ≠ v ∧ pAt l (nextI l.length m) ≠ v ∧ meetI (wpt i j k a b c) (sc (i + j + k) v) (sc (i + j + k) (pAt l m)) (sc (i + j + k) (pAt l (nextI l.length m))) = true := by
  have w := ccw_all hs
  obtain ⟨e, he, e1, e2, me⟩ := h.hidden w.simple w.rho ((w.mem v).2 hv) ht ic hi hj hk
  rcases w.edge e he with g | g
  · obtain ⟨m, hm, rfl⟩ := edges_idx g
    exact ⟨m, hm, e1, e2, me⟩
  · obtain ⟨m, hm, q⟩ := edges_idx g
    simp only [sw, Prod.mk.injEq] at q
    refine ⟨m, hm, ?_, ?_, ?_⟩
    · rw [← q.1]; exact e2
    · rw [← q.2]; exact e1
    · rw [← q.1, ← q.2, meet_swap]; exact me

/-- SUMS. -/
theorem cut_area {l : List (Int × Int)} (hs : Simple l) {C : List T3} (h : CutG (ccw l) C) : sumT (fun t => tI t.1 t.2.1 t.2.2) C = (tw l).natAbs ∧ 0 < (tw l).natAbs := by
  have k := ccw_all hs
  refine ⟨by rw [h.area, k.area], ?_⟩
  have := k.pos
  rw [k.area] at this
  omega
end

section
set_option linter.unusedVariables false

theorem crossI_iff (a b c d : Int × Int) : crossI a b c d = true ↔ tI a b c * tI a b d < 0 ∧ tI c d a * tI c d b < 0 := by
  simp only [crossI, Bool.and_eq_true, decide_eq_true_eq, sgn_mul_neg]

/-- Does edge k bar the line from corner i to corner j? -/
def barI (l : List (Int × Int)) (i j k : Nat) : Bool :=
  crossI (pAt l i) (pAt l j) (pAt l k) (pAt l (nextI l.length k)) || (!(k == i || k == j) && onI (pAt l i) (pAt l j) (pAt l k))

def joinI (l : List (Int × Int)) (i j : Nat) : Bool :=
  decide (firstI (barI l i j) l.length = -1) && decide ((placeI (l.map (sc 2)) (md (pAt l i) (pAt l j))).1 ≠ 0)

theorem pAt_mem {l : List (Int × Int)} {i : Nat} (h : i < l.length) : pAt l i ∈ l := by
  unfold pAt
  rw [List.getD_eq_getElem?_getD, List.getElem?_eq_getElem h, Option.getD_some]
  exact List.getElem_mem h

theorem pAt_inj {l : List (Int × Int)} (nd : l.Nodup) {i j : Nat} (hi : i < l.length) (hj : j < l.length) (h : pAt l i = pAt l j) : i = j := by
  unfold pAt at h
  rw [List.getD_eq_getElem?_getD, List.getElem?_eq_getElem hi, Option.getD_some, List.getD_eq_getElem?_getD, List.getElem?_eq_getElem hj, Option.getD_some] at h
  exact (List.getElem_inj nd).1 h

theorem mem_pAt {l : List (Int × Int)} {v : Int × Int} (h : v ∈ l) : ∃ k, k < l.length ∧ v = pAt l k := by
  obtain ⟨k, hk, e⟩ := List.getElem_of_mem h
  refine ⟨k, hk, ?_⟩
  unfold pAt
  rw [List.getD_eq_getElem?_getD, List.getElem?_eq_getElem hk, Option.getD_some, e]

theorem join_open {l : List (Int × Int)} (hs : Simple l) {i j : Nat} (hi : i < l.length) (hj : j < l.length) : joinI l i j = true ↔ Opn l (pAt l i) (pAt l j) := by
  have two : (0 : Int) < 2 := by decide
  simp only [joinI, Bool.and_eq_true, decide_eq_true_eq]
  constructor
  · rintro ⟨h1, h2⟩
    rcases firstI_cases (barI l i j) l.length with ⟨_, hb⟩ | ⟨k, hk, e, _⟩
    · refine ⟨fun e he k => ?_, fun v hv k1 k2 => ?_, fun k => ?_⟩
      · obtain ⟨m, hm, rfl⟩ := edges_idx he
        have := hb m hm
        simp only [barI, Bool.or_eq_false_iff] at this
        have c := (crossI_iff _ _ _ _).2 k
        rw [this.1] at c; cases c
      · obtain ⟨m, hm, rfl⟩ := mem_pAt hv
        have := hb m hm
        simp only [barI, Bool.or_eq_false_iff] at this
        have n1 : m ≠ i := fun q => k1 (by rw [q])
        have n2 : m ≠ j := fun q => k2 (by rw [q])
        have := this.2
        simpa [n1, n2] using this
      · exact h2 ((place_out (hs.sc two) _).2 k)
    · omega
  · intro h
    refine ⟨?_, fun q => h.mid ((place_out (hs.sc two) _).1 q)⟩
    refine firstI_none fun k hk => ?_
    simp only [barI, Bool.or_eq_false_iff]
    constructor
    · cases q : crossI (pAt l i) (pAt l j) (pAt l k) (pAt l (nextI l.length k)) with
      | false => rfl
      | true =>
        have he : (pAt l k, pAt l (nextI l.length k)) ∈ edges l := by rw [edges_list]; exact List.mem_map.2 ⟨k, List.mem_range.2 hk, rfl⟩
        exact (h.cross _ he ((crossI_iff _ _ _ _).1 q)).elim
    · by_cases n1 : k = i
      · simp [n1]
      · by_cases n2 : k = j
        · simp [n2]
        · have := h.corner _ (pAt_mem hk) (fun q => n1 (pAt_inj hs.nodup hk hi q)) (fun q => n2 (pAt_inj hs.nodup hk hj q))
          simp [this]

theorem join_comm {l : List (Int × Int)} (hs : Simple l) {i j : Nat} (hi : i < l.length) (hj : j < l.length) : joinI l i j = joinI l j i := by
  rw [Bool.eq_iff_iff, join_open hs hi hj, join_open hs hj hi]
  exact ⟨Opn.symm, Opn.symm⟩

theorem Opn.back1 {l : List (Int × Int)} (h2 : 2 ≤ l.length) {a b : Int × Int} (h : Opn l a b) : Opn l.reverse a b := by
  refine ⟨fun e he k => h.cross (sw e) ((mem_backwards h2).1 he) ?_, fun v hv => h.corner v (List.mem_reverse.1 hv), fun k => h.mid ?_⟩
  · simp only [sw]
    refine ⟨by rw [Int.mul_comm]; exact k.1, ?_⟩
    rw [tI_neg e.1 e.2 a, tI_neg e.1 e.2 b, Int.neg_mul_neg]; exact k.2
  · rw [List.map_reverse] at k
    have h2' : 2 ≤ (l.map (sc 2)).length := by simpa using h2
    refine ⟨(free_backwards h2' _).1 k.1, ?_⟩
    have := k.2
    rw [wc_backwards _ h2'] at this
    omega

theorem Opn.back {l : List (Int × Int)} (h2 : 2 ≤ l.length) {a b : Int × Int} : Opn l.reverse a b ↔ Opn l a b := by
  refine ⟨fun h => ?_, Opn.back1 h2⟩
  have := Opn.back1 (by simpa using h2) h
  rwa [List.reverse_reverse] at this

/-- The corner that sees the line from corner f to corner g under the widest angle: looked for among the m corners behind f; with it the angle. -/
def wst (l : List (Int × Int)) (f g : Nat) : Nat → Nat × Int × Int
  | 0 => (f + 1, 1, 0)
  | m + 1 =>
    if joinI l f (f + 1 + m) && joinI l (f + 1 + m) g && decide (0 < (wst l f g m).2.1 * (tI (pAt l f) (pAt l (f + 1 + m)) (pAt l g)).natAbs - (wst l f g m).2.2 * dotP (pAt l (f + 1 + m)) (pAt l f) (pAt l g)) then
      (f + 1 + m, dotP (pAt l (f + 1 + m)) (pAt l f) (pAt l g), ((tI (pAt l f) (pAt l (f + 1 + m)) (pAt l g)).natAbs : Int))
    else wst l f g m

def tipI (l : List (Int × Int)) (f g : Nat) : Nat := (wst l f g (g - f - 1)).1

def triI (l : List (Int × Int)) (f t g : Nat) : Nat × Nat × Nat := if 0 < tI (pAt l f) (pAt l t) (pAt l g) then (f, t, g) else (f, g, t)

/-- The triangles behind the line from corner f to corner g. -/
def cutI (l : List (Int × Int)) : Nat → Nat → Nat → List (Nat × Nat × Nat)
  | 0, _, _ => []
  | n + 1, f, g => if g < f + 2 then [] else triI l f (tipI l f g) g :: (cutI l n f (tipI l f g) ++ cutI l n (tipI l f g) g)

/-- A corner that can make a triangle with the line. -/
def Cand (l : List (Int × Int)) (f g k : Nat) : Prop := Opn l (pAt l f) (pAt l k) ∧ Opn l (pAt l k) (pAt l g)

theorem onI_dot {a c b : Int × Int} (h : tI a b c = 0) (hd : dotP b a c < 0) : onI a c b = true := by
  rw [onI_iff]
  have e : tI a c b = 0 := by rw [tI_neg']; omega
  have h' : (b.1 - a.1) * (c.2 - a.2) - (b.2 - a.2) * (c.1 - a.1) = 0 := h
  unfold dotP at hd
  -- the two products have one sign
  have key : ((a.1 - b.1) * (c.1 - b.1)) * ((a.2 - b.2) * (c.2 - b.2)) = ((a.1 - b.1) * (c.2 - b.2)) * ((a.1 - b.1) * (c.2 - b.2)) := by
    have : (a.1 - b.1) * (c.2 - b.2) = (a.2 - b.2) * (c.1 - b.1) := by grind
    have e1 : ((a.1 - b.1) * (c.1 - b.1)) * ((a.2 - b.2) * (c.2 - b.2)) = ((a.1 - b.1) * (c.2 - b.2)) * ((a.2 - b.2) * (c.1 - b.1)) := by grind
    rw [e1, ← this]
  have nn := sq_nonneg ((a.1 - b.1) * (c.2 - b.2))
  rw [← key] at nn
  refine ⟨e, ?_, ?_⟩
  · apply Int.not_lt.1; intro q
    have q2 : (a.2 - b.2) * (c.2 - b.2) < 0 := by omega
    have := Int.mul_neg_of_pos_of_neg q q2
    omega
  · apply Int.not_lt.1; intro q
    have q2 : (a.1 - b.1) * (c.1 - b.1) < 0 := by omega
    have := Int.mul_neg_of_neg_of_pos q2 q
    omega

/-- Wider than what is wider. -/
theorem wide_trans {St Sk Sx Dt Dk Dx : Int} (h1 : 0 < St) (h2 : 0 < Sk) (h3 : 0 ≤ Sx) (hk : 0 < Dt * Sk - St * Dk) (hx : Dt * Sx - St * Dx ≤ 0) : Dk * Sx - Sk * Dx ≤ 0 := by
  apply Int.not_lt.1
  intro q
  have m1 := Int.mul_pos h1 q
  have m2 := Int.mul_nonneg h3 (Int.le_of_lt hk)
  have m3 := Int.mul_nonpos_of_nonneg_of_nonpos (Int.le_of_lt h2) hx
  have e : St * (Dk * Sx - Sk * Dx) = - (Sx * (Dt * Sk - St * Dk)) + Sk * (Dt * Sx - St * Dx) := by grind
  omega

theorem wst_spec {l : List (Int × Int)} (hs : Simple l) {f g : Nat} (hg : g < l.length) (ho : Opn l (pAt l f) (pAt l g)) : ∀ m, f + 1 + m ≤ g →
    (wst l f g m = (f + 1, 1, 0) ∧ ∀ k, f < k → k < f + 1 + m → Cand l f g k → tI (pAt l f) (pAt l k) (pAt l g) = 0) ∨
    (∃ t, f < t ∧ t < f + 1 + m ∧ Cand l f g t ∧ tI (pAt l f) (pAt l t) (pAt l g) ≠ 0 ∧ wst l f g m = (t, dotP (pAt l t) (pAt l f) (pAt l g), ((tI (pAt l f) (pAt l t) (pAt l g)).natAbs : Int)) ∧
      ∀ k, f < k → k < f + 1 + m → Cand l f g k → wide (pAt l f) (pAt l t) (pAt l g) (pAt l k) ≤ 0)
  | 0, _ => .inl ⟨rfl, fun k h1 h2 => by omega⟩
  | m + 1, hm => by
    have ih := wst_spec hs hg ho m (by omega)
    obtain ⟨x, hx⟩ : ∃ x, x = f + 1 + m := ⟨_, rfl⟩
    have hf : f < l.length := by omega
    have hxl : x < l.length := by omega
    have jc : (joinI l f x && joinI l x g) = true ↔ Cand l f g x := by
      rw [Bool.and_eq_true, join_open hs hf hxl, join_open hs hxl hg]; rfl
    have nd : ∀ {k}, f < k → k < g → pAt l k ≠ pAt l f ∧ pAt l k ≠ pAt l g := by
      intro k k1 k2
      exact ⟨fun q => by have := pAt_inj hs.nodup (by omega) hf q; omega, fun q => by have := pAt_inj hs.nodup (by omega) hg q; omega⟩
    -- a corner on the whole line sees it under no angle
    have flat : ∀ {k}, f < k → k < g → tI (pAt l f) (pAt l k) (pAt l g) = 0 → 0 ≤ dotP (pAt l k) (pAt l f) (pAt l g) := by
      intro k k1 k2 h0
      apply Int.not_lt.1
      intro q
      have := onI_dot h0 q
      rw [ho.corner _ (pAt_mem (by omega)) (nd k1 k2).1 (nd k1 k2).2] at this
      cases this
    unfold wst
    rw [← hx]
    by_cases hc : Cand l f g x
    · have hj := jc.2 hc
      rcases ih with ⟨e, hz⟩ | ⟨t, t1, t2, tc, tz, e, tw⟩
      · rw [e, hj]
        simp only [Bool.true_and, decide_eq_true_eq]
        by_cases h0 : tI (pAt l f) (pAt l x) (pAt l g) = 0
        · rw [if_neg (by rw [h0]; simp)]
          refine .inl ⟨rfl, fun k k1 k2 kc => ?_⟩
          by_cases kx : k = x
          · rw [kx]; exact h0
          · exact hz k k1 (by omega) kc
        · rw [if_pos (by have : 0 < (tI (pAt l f) (pAt l x) (pAt l g)).natAbs := by omega
                         omega)]
          refine .inr ⟨x, by omega, by omega, hc, h0, rfl, fun k k1 k2 kc => ?_⟩
          unfold wide
          by_cases kx : k = x
          · rw [kx, Int.mul_comm]; omega
          · have z := hz k k1 (by omega) kc
            have d := flat k1 (by omega) z
            rw [z]
            have := Int.mul_nonneg (show (0 : Int) ≤ (tI (pAt l f) (pAt l x) (pAt l g)).natAbs by omega) d
            simp only [Int.natAbs_zero]
            omega
      · rw [e, hj]
        simp only [Bool.true_and, decide_eq_true_eq]
        have tp : 0 < ((tI (pAt l f) (pAt l t) (pAt l g)).natAbs : Int) := by omega
        by_cases hw : 0 < dotP (pAt l t) (pAt l f) (pAt l g) * ((tI (pAt l f) (pAt l x) (pAt l g)).natAbs : Int) - ((tI (pAt l f) (pAt l t) (pAt l g)).natAbs : Int) * dotP (pAt l x) (pAt l f) (pAt l g)
        · rw [if_pos hw]
          have xp : tI (pAt l f) (pAt l x) (pAt l g) ≠ 0 := by
            intro q
            have d := flat (k := x) (by omega) (by omega) q
            rw [q] at hw
            have := Int.mul_nonneg (Int.le_of_lt tp) d
            simp only [Int.natAbs_zero] at hw
            omega
          refine .inr ⟨x, by omega, by omega, hc, xp, rfl, fun k k1 k2 kc => ?_⟩
          by_cases kx : k = x
          · unfold wide; rw [kx, Int.mul_comm]; omega
          · exact wide_trans tp (by omega) (by omega) hw (tw k k1 (by omega) kc)
        · rw [if_neg hw]
          refine .inr ⟨t, t1, by omega, tc, tz, rfl, fun k k1 k2 kc => ?_⟩
          by_cases kx : k = x
          · unfold wide; rw [kx]; omega
          · exact tw k k1 (by omega) kc
    · have hj : (joinI l f x && joinI l x g) = false := by
        cases q : (joinI l f x && joinI l x g) with
        | false => rfl
        | true => exact absurd (jc.1 q) hc
      rw [hj]
      simp only [Bool.false_and, Bool.false_eq_true, if_false]
      rcases ih with ⟨e, hz⟩ | ⟨t, t1, t2, tc, tz, e, tw⟩
      · refine .inl ⟨e, fun k k1 k2 kc => ?_⟩
        by_cases kx : k = x
        · rw [kx] at kc; exact absurd kc hc
        · exact hz k k1 (by omega) kc
      · refine .inr ⟨t, t1, by omega, tc, tz, e, fun k k1 k2 kc => ?_⟩
        by_cases kx : k = x
        · rw [kx] at kc; exact absurd kc hc
        · exact tw k k1 (by omega) kc
end

section
set_option linter.unusedVariables false

theorem wst_range (l : List (Int × Int)) (f g : Nat) : ∀ m, f < (wst l f g m).1 ∧ (wst l f g m).1 ≤ f + 1 + (m - 1)
  | 0 => by simp [wst]
  | m + 1 => by
    have ih := wst_range l f g m
    unfold wst
    split
    · simp; omega
    · omega

theorem tip_range {l : List (Int × Int)} {f g : Nat} (h : f + 2 ≤ g) : f < tipI l f g ∧ tipI l f g < g := by
  have := wst_range l f g (g - f - 1)
  unfold tipI
  omega

def triIn (f g : Nat) (t : Nat × Nat × Nat) : Prop := (f ≤ t.1 ∧ t.1 ≤ g) ∧ (f ≤ t.2.1 ∧ t.2.1 ≤ g) ∧ (f ≤ t.2.2 ∧ t.2.2 ≤ g)

theorem cut_in_range (l : List (Int × Int)) : ∀ n f g, ∀ t ∈ cutI l n f g, triIn f g t
  | 0, f, g, t, h => by simp [cutI] at h
  | n + 1, f, g, t, h => by
    unfold cutI at h
    split at h
    · simp at h
    · rename_i hg
      obtain ⟨r1, r2⟩ := tip_range (l := l) (f := f) (g := g) (by omega)
      rcases List.mem_cons.1 h with q | q
      · subst q
        unfold triI
        split <;> (unfold triIn; simp only; omega)
      · rcases List.mem_append.1 q with q | q
        · have := cut_in_range l n f _ t q
          unfold triIn at this ⊢; omega
        · have := cut_in_range l n _ g t q
          unfold triIn at this ⊢; omega

theorem cut_len (l : List (Int × Int)) : ∀ n f g, g - f ≤ n → (cutI l n f g).length = g - f - 1
  | 0, f, g, h => by simp [cutI]; omega
  | n + 1, f, g, h => by
    unfold cutI
    split
    · simp; omega
    · rename_i hg
      obtain ⟨r1, r2⟩ := tip_range (l := l) (f := f) (g := g) (by omega)
      rw [List.length_cons, List.length_append, cut_len l n _ _ (by omega), cut_len l n _ _ (by omega)]
      omega

/-- The corners between two. -/
def seg (l : List (Int × Int)) (f g : Nat) : List (Int × Int) := (List.range (g - f - 1)).map fun i => pAt l (f + 1 + i)

theorem mem_seg {l : List (Int × Int)} {f g : Nat} {d : Int × Int} : d ∈ seg l f g ↔ ∃ k, f < k ∧ k < g ∧ d = pAt l k := by
  unfold seg
  simp only [List.mem_map, List.mem_range]
  constructor
  · rintro ⟨i, hi, rfl⟩; exact ⟨f + 1 + i, by omega, by omega, rfl⟩
  · rintro ⟨k, h1, h2, rfl⟩; exact ⟨k - f - 1, by omega, by rw [show f + 1 + (k - f - 1) = k by omega]⟩

theorem seg_split (l : List (Int × Int)) {f t g : Nat} (h1 : f < t) (h2 : t < g) : seg l f g = seg l f t ++ pAt l t :: seg l t g := by
  unfold seg
  have e : g - f - 1 = (t - f - 1) + ((g - t - 1) + 1) := by omega
  rw [e, List.range_add, List.map_append, List.range_succ_eq_map]
  simp only [List.map_cons, List.map_map]
  congr 1
  congr 1
  · rw [show f + 1 + (t - f - 1 + 0) = t by omega]
  · refine List.map_congr_left fun i _ => ?_
    simp only [Function.comp]
    congr 1
    omega

theorem pAt_getElem {l : List (Int × Int)} {i : Nat} (h : i < l.length) : pAt l i = l[i] := by
  unfold pAt
  rw [List.getD_eq_getElem?_getD, List.getElem?_eq_getElem h, Option.getD_some]

theorem drop_pAt {l : List (Int × Int)} {i : Nat} (h : i < l.length) : l.drop i = pAt l i :: l.drop (i + 1) := by
  rw [List.drop_eq_getElem_cons h, pAt_getElem h]

theorem seg_eq {l : List (Int × Int)} {f g : Nat} (h : g ≤ l.length) : seg l f g = (l.drop (f + 1)).take (g - f - 1) := by
  refine List.ext_getElem (by simp [seg]; omega) fun i h1 h2 => ?_
  have hi : i < g - f - 1 := by simpa [seg] using h1
  simp only [seg, List.getElem_map, List.getElem_range, List.getElem_take, List.getElem_drop]
  exact pAt_getElem (by omega)

theorem seg_at (l : List (Int × Int)) {f g : Nat} (h1 : f < g) (h2 : g < l.length) : ∃ a b, l = a ++ (pAt l f :: seg l f g ++ [pAt l g]) ++ b := by
  refine ⟨l.take f, l.drop (g + 1), ?_⟩
  have e1 : l = l.take f ++ l.drop f := (List.take_append_drop f l).symm
  have e2 := drop_pAt (l := l) (i := f) (by omega)
  have e3 : l.drop (f + 1) = seg l f g ++ l.drop g := by
    rw [seg_eq (by omega)]
    have := (List.take_append_drop (g - f - 1) (l.drop (f + 1))).symm
    rw [List.drop_drop] at this
    rw [show f + 1 + (g - f - 1) = g by omega] at this
    exact this
  have e4 := drop_pAt h2
  conv => lhs; rw [e1, e2, e3, e4]
  simp

/-- The same triangles, in another order, told from other corners on. -/
structure Alike (C D : List T3) : Prop where
  has : ∀ {a b c}, Has D a b c ↔ Has C a b c
  sum : ∀ F : Int × Int → Int × Int → Int, sumT (fun t => F t.1 t.2.1 + F t.2.1 t.2.2 + F t.2.2 t.1) D = sumT (fun t => F t.1 t.2.1 + F t.2.1 t.2.2 + F t.2.2 t.1) C

theorem Alike.refl (C : List T3) : Alike C C := ⟨Iff.rfl, fun _ => rfl⟩

theorem Alike.cut {P : List (Int × Int)} {C D : List T3} (h : Alike C D) (k : CutN P C) : CutN P D := by
  have a : CutA P C := ⟨k.cut, k.adj, k.corner⟩
  have b := a.same h.has h.sum
  exact b.good fun x y z w h1 h2 => k.good _ _ _ _ (h.has.1 h1) (h.has.1 h2)

theorem Alike.perm {C D : List T3} (p : C.Perm D) : Alike C D := ⟨has_perm p, fun F => (sumT_perm p).symm⟩

theorem Alike.trans {C D E : List T3} (h : Alike C D) (k : Alike D E) : Alike C E := ⟨k.has.trans h.has, fun F => (k.sum F).trans (h.sum F)⟩

theorem Alike.append {C D C' D' : List T3} (h : Alike C C') (k : Alike D D') : Alike (C ++ D) (C' ++ D') := by
  refine ⟨fun {a b c} => ?_, fun F => ?_⟩
  · rw [Has.append, Has.append, h.has, k.has]
  · rw [sumT_append, sumT_append, h.sum, k.sum]

/-- A triangle told from its last corner on, and the two parts the other way round. -/
theorem Alike.back {x y z : Int × Int} {C D C' D' : List T3} (h : Alike C C') (k : Alike D D') : Alike ((x, y, z) :: (D ++ C)) ((z, x, y) :: (C' ++ D')) := by
  have h1 : Alike ((x, y, z) :: (D ++ C)) ((x, y, z) :: (C ++ D)) := .perm (List.perm_append_comm.cons _)
  have h2 : Alike ((x, y, z) :: (C ++ D)) ((z, x, y) :: (C ++ D)) := ⟨has_cons_cyc.symm, fun F => by simp only [sumT]; omega⟩
  have h3 : Alike ([(z, x, y)] ++ (C ++ D)) ([(z, x, y)] ++ (C' ++ D')) := (Alike.refl _).append (h.append k)
  exact h1.trans (h2.trans h3)

def pts (l : List (Int × Int)) (t : Nat × Nat × Nat) : T3 := (pAt l t.1, pAt l t.2.1, pAt l t.2.2)

theorem tip_spec {l : List (Int × Int)} (hs : Simple l) {f g : Nat} (hfg : f + 2 ≤ g) (hg : g < l.length) (ho : Opn l (pAt l f) (pAt l g)) (ex : ∃ k, f < k ∧ k < g ∧ Cand l f g k ∧ tI (pAt l f) (pAt l k) (pAt l g) ≠ 0) :
    Cand l f g (tipI l f g) ∧ ∀ k, f < k → k < g → Cand l f g k → wide (pAt l f) (pAt l (tipI l f g)) (pAt l g) (pAt l k) ≤ 0 := by
  have e : f + 1 + (g - f - 1) = g := by omega
  rcases wst_spec hs hg ho (g - f - 1) (by omega) with ⟨_, hz⟩ | ⟨t, t1, t2, tc, tz, e', tw⟩
  · obtain ⟨k, k1, k2, kc, kz⟩ := ex
    exact absurd (hz k k1 (by omega) kc) kz
  · have : tipI l f g = t := by unfold tipI; rw [e']
    rw [this]
    exact ⟨tc, fun k k1 k2 kc => tw k k1 (by omega) kc⟩

theorem wide_comm (a b c d : Int × Int) : wide c b a d = wide a b c d := by
  unfold wide
  have e1 : dotP b c a = dotP b a c := by unfold dotP; grind
  have e2 : dotP d c a = dotP d a c := by unfold dotP; grind
  have e3 : tI c d a = - tI a d c := by unfold tI; grind
  have e4 : tI c b a = - tI a b c := by unfold tI; grind
  rw [e1, e2, e3, e4, Int.natAbs_neg, Int.natAbs_neg]

/-- Told against the clock. -/
theorem cut_ccw {l : List (Int × Int)} (hs : Simple l) (hR : Rho l 1) : ∀ n f g, g - f ≤ n → f < g → g < l.length → Opn l (pAt l f) (pAt l g) → CL l (pAt l f) (seg l f g) (pAt l g) ((cutI l n f g).map (pts l))
  | 0, f, g, hn, h1, _, _ => by omega
  | n + 1, f, g, hn, h1, h2, ho => by
    unfold cutI
    by_cases hg : g < f + 2
    · rw [if_pos hg]
      have : seg l f g = [] := by unfold seg; rw [show g - f - 1 = 0 by omega]; rfl
      rw [this]
      exact CL.nil _ _
    · rw [if_neg hg]
      obtain ⟨r1, r2⟩ := tip_range (l := l) (f := f) (g := g) (by omega)
      obtain ⟨a, b, e⟩ := seg_at l h1 h2
      have hne : seg l f g ≠ [] := by
        intro q
        have : pAt l (f + 1) ∈ seg l f g := mem_seg.2 ⟨f + 1, by omega, by omega, rfl⟩
        rw [q] at this; simp at this
      obtain ⟨pt, iff⟩ := part_of hs hR e ho hne
      obtain ⟨d, hd, o1, o2, pos⟩ := pt.tip
      obtain ⟨k, k1, k2, rfl⟩ := mem_seg.1 hd
      obtain ⟨tc, tw⟩ := tip_spec hs (by omega) h2 ho ⟨k, k1, k2, ⟨(iff _ _).1 o1, (iff _ _).1 o2⟩, by omega⟩
      generalize tipI l f g = t at *
      have sp := seg_split l r1 r2
      have pt' := pt
      rw [sp] at pt' iff
      have tp := pt'.step ((iff _ _).2 tc.1) ((iff _ _).2 tc.2)
      have et : triI l f t g = (f, t, g) := by unfold triI; rw [if_pos tp]
      rw [et, sp]
      simp only [List.map_cons, List.map_append]
      refine CL.step _ _ _ _ _ _ _ tc.1 tc.2 (fun d hd h3 h4 => ?_) (cut_ccw hs hR n f t (by omega) r1 (by omega) tc.1) (cut_ccw hs hR n t g (by omega) r2 h2 tc.2)
      rw [← sp] at hd
      obtain ⟨x, x1, x2, rfl⟩ := mem_seg.1 hd
      exact tw x x1 x2 ⟨h3, h4⟩

/-- Told with the clock. -/
theorem cut_cw {l : List (Int × Int)} (hs : Simple l) (hR : Rho l.reverse 1) : ∀ n f g, g - f ≤ n → f < g → g < l.length → Opn l (pAt l f) (pAt l g) → ∃ C, CL l.reverse (pAt l g) (seg l f g).reverse (pAt l f) C ∧ Alike C ((cutI l n f g).map (pts l))
  | 0, f, g, hn, h1, _, _ => by omega
  | n + 1, f, g, hn, h1, h2, ho => by
    have two : 2 ≤ l.length := by have := hs.three; omega
    unfold cutI
    by_cases hg : g < f + 2
    · rw [if_pos hg]
      have : seg l f g = [] := by unfold seg; rw [show g - f - 1 = 0 by omega]; rfl
      rw [this]
      exact ⟨[], CL.nil _ _, Alike.refl _⟩
    · rw [if_neg hg]
      obtain ⟨r1, r2⟩ := tip_range (l := l) (f := f) (g := g) (by omega)
      obtain ⟨a, b, e⟩ := seg_at l h1 h2
      have er : l.reverse = b.reverse ++ (pAt l g :: (seg l f g).reverse ++ [pAt l f]) ++ a.reverse := by
        conv => lhs; rw [e]
        simp
      have hne : (seg l f g).reverse ≠ [] := by
        intro q
        have : pAt l (f + 1) ∈ (seg l f g).reverse := List.mem_reverse.2 (mem_seg.2 ⟨f + 1, by omega, by omega, rfl⟩)
        rw [q] at this; simp at this
      obtain ⟨pt, iff⟩ := part_of hs.backwards hR er ((Opn.back two).2 ho.symm) hne
      obtain ⟨d, hd, o1, o2, pos⟩ := pt.tip
      obtain ⟨k, k1, k2, rfl⟩ := mem_seg.1 (List.mem_reverse.1 hd)
      have cand : ∀ {x}, Opn l.reverse (pAt l g) (pAt l x) → Opn l.reverse (pAt l x) (pAt l f) → Cand l f g x := fun h3 h4 => ⟨((Opn.back two).1 h4).symm, ((Opn.back two).1 h3).symm⟩
      have ng : ∀ x, tI (pAt l g) x (pAt l f) = - tI (pAt l f) x (pAt l g) := fun x => by unfold tI; grind
      obtain ⟨tc, tw⟩ := tip_spec hs (by omega) h2 ho ⟨k, k1, k2, cand ((iff _ _).1 o1) ((iff _ _).1 o2), by rw [ng] at pos; omega⟩
      generalize tipI l f g = t at *
      have q1 : Opn l.reverse (pAt l g) (pAt l t) := (Opn.back two).2 tc.2.symm
      have q2 : Opn l.reverse (pAt l t) (pAt l f) := (Opn.back two).2 tc.1.symm
      have sp : (seg l f g).reverse = (seg l t g).reverse ++ pAt l t :: (seg l f t).reverse := by rw [seg_split l r1 r2]; simp
      have pt' := pt
      rw [sp] at pt' iff
      have tp := pt'.step ((iff _ _).2 q1) ((iff _ _).2 q2)
      rw [ng] at tp
      have et : triI l f t g = (f, g, t) := by unfold triI; rw [if_neg (by omega)]
      obtain ⟨C, c1, c2⟩ := cut_cw hs hR n f t (by omega) r1 (by omega) tc.1
      obtain ⟨D, d1, d2⟩ := cut_cw hs hR n t g (by omega) r2 h2 tc.2
      refine ⟨(pAt l g, pAt l t, pAt l f) :: (D ++ C), ?_, ?_⟩
      · rw [sp]
        refine CL.step _ _ _ _ _ _ _ q1 q2 (fun d hd h3 h4 => ?_) d1 c1
        rw [← sp] at hd
        obtain ⟨x, x1, x2, rfl⟩ := mem_seg.1 (List.mem_reverse.1 hd)
        rw [wide_comm]
        exact tw x x1 x2 (cand h3 h4)
      · rw [et]
        simp only [List.map_cons, List.map_append]
        exact Alike.back c2 d2

/-- THE PROGRAM's WAY TO CUT MAKES A GOOD CUT. -/
theorem cut_good {l : List (Int × Int)} (hs : Simple l) : CutN (ccw l) ((cutI l l.length 0 (l.length - 1)).map (pts l)) := by
  have h3 := hs.three
  have two : 2 ≤ l.length := by omega
  have k := ccw_all hs
  obtain ⟨a, b, e⟩ := seg_at l (f := 0) (g := l.length - 1) (by omega) (by omega)
  have hlen : (seg l 0 (l.length - 1)).length = l.length - 2 := by simp [seg]; omega
  have hab : a = [] ∧ b = [] := by
    have := congrArg List.length e
    simp only [List.length_append, List.length_cons, List.length_nil, hlen] at this
    exact ⟨List.length_eq_zero_iff.1 (by omega), List.length_eq_zero_iff.1 (by omega)⟩
  have e' : l = pAt l 0 :: seg l 0 (l.length - 1) ++ [pAt l (l.length - 1)] := by
    rw [hab.1, hab.2] at e
    conv => lhs; rw [e]
    simp
  have ho : Opn l (pAt l 0) (pAt l (l.length - 1)) := by
    refine (edge_open hs ?_).symm
    have := last_mem (pAt l (l.length - 1)) (pAt l 0) (seg l 0 (l.length - 1))
    rw [← e'] at this
    exact this
  have hR := k.rho
  by_cases hp : 0 < tw l
  · have ec : ccw l = l := if_pos hp
    rw [ec] at hR ⊢
    exact (cut_ccw hs hR l.length 0 (l.length - 1) (by omega) (by omega) (by omega) ho).all hs hR e'
  · have ec : ccw l = l.reverse := if_neg hp
    rw [ec] at hR ⊢
    obtain ⟨C, c1, c2⟩ := cut_cw hs hR l.length 0 (l.length - 1) (by omega) (by omega) (by omega) ho
    refine c2.cut (c1.all hs.backwards hR ?_)
    conv => lhs; rw [e']
    simp
end

end Go.Proofs.Ytlicmfhgjonmnaa
