/- The mesh cuts what lies behind a line. Own work. -/
import Derived.Test.YtlicmfhgjonmnaaSd
import Derived.Deep.RegionLaw
import Derived.Deep.AppendLies
import Derived.Deep.DrawnRows
namespace Go.Proofs.Ytlicmfhgjonmnaa
open Go.RowKit
set_option linter.unusedVariables false

def flat3 : List (Nat × Nat × Nat) → List Value
  | [] => []
  | t :: T => .int .i64 t.1 :: .int .i64 t.2.1 :: .int .i64 t.2.2 :: flat3 T

theorem flat3_len : ∀ T, (flat3 T).length = T.length * 3
  | [] => rfl
  | t :: T => by simp [flat3, flat3_len T]; omega

theorem flat3_append : ∀ T U, flat3 (T ++ U) = flat3 T ++ flat3 U
  | [], U => rfl
  | t :: T, U => by simp [flat3, flat3_append T U]

theorem owns_below {w w' : World} {base : Nat} {e : TypeId} {size : Nat} {v : Value} {n : Nat} {xs : List Value} (h : w.ownsRow base e size v n xs) (hb : Below w.heap.size w w') : w'.ownsRow base e size v n xs := by
  refine ⟨h.1, ?_⟩
  rcases h.2 with g | ⟨g, cap, cur, h1, h2, h3, h4⟩
  · exact .inl g
  · refine .inr ⟨g, cap, cur, h1, h2, ?_, h4⟩
    rw [hb.block g (by have := lt_of_block h3; exact this)]; exact h3

/-- The mesh's triangles so far. -/
structure TriAt (ps : List CP) (m b cap : Nat) (T : List (Nat × Nat × Nat)) (v : Value) (w : World) : Prop where
  mesh : MeshAt w m b cap ps
  bm : b < m
  tri : w.cell? ⟨m, 1, none⟩ = some v
  open1 : w.frozen? ⟨m, 1, none⟩ = false
  own : w.ownsRow (m + 1) 48 3 v T.length (flat3 T)

theorem TriAt.below {ps : List CP} {m b cap : Nat} {T : List (Nat × Nat × Nat)} {v : Value} {w w' : World} (h : TriAt ps m b cap T v w) (hb : Below w.heap.size w w') : TriAt ps m b cap T v w' :=
  ⟨h.mesh.below hb, h.bm, by rw [hb.cell (p := ⟨m, 1, none⟩) h.mesh.lt]; exact h.tri, by rw [hb.frozen (p := ⟨m, 1, none⟩) h.mesh.lt]; exact h.open1, owns_below h.own hb⟩

theorem infoT : (Try.prog.info? 48).map (fun i => (i.zero, i.size, i.bytes)) = some (some (.agg #[.int .i64 0, .int .i64 0, .int .i64 0]), 3, 24) := by kernel_rfl

/-- One triangle more. -/
theorem tri_push {ps : List CP} {m b cap : Nat} {T : List (Nat × Nat × Nat)} {v : Value} {w w3 : World} {o : Obj} {t : Nat × Nat × Nat} {gg cap' : Nat} (h : TriAt ps m b cap T v w)
    (hown : w3.ownsRow (m + 1) 48 3 (.slice (some ⟨gg, 0, none⟩) (T.length + 1) cap') (T.length + 1) (flat3 T ++ [.int .i64 t.1, .int .i64 t.2.1, .int .i64 t.2.2])) (hg : (w.alloc o).grownBy w3 v.ownBlock) :
    TriAt ps m b cap (T ++ [t]) (.slice (some ⟨gg, 0, none⟩) (T.length + 1) cap') (w3.setCell ⟨m, 1, none⟩ (.slice (some ⟨gg, 0, none⟩) (T.length + 1) cap')) ∧ Below m w (w3.setCell ⟨m, 1, none⟩ (.slice (some ⟨gg, 0, none⟩) (T.length + 1) cap')) := by
  have hlt := h.mesh.lt
  have hbm := h.bm
  have hne : ∀ k, k ≤ m → some k ≠ v.ownBlock := fun k hk e => by have := (h.own.lt k e.symm).1; omega
  have hblk : ∀ k, k ≤ m → w3.heap[k]? = w.heap[k]? := fun k hk => by
    rw [hg.block k (by simp; omega) (hne k hk), Below.heap_alloc _ _ _ (by omega)]
  have hb3 : Below m w w3 := by
    have := (Below.refl m w).alloc (by omega) o
    exact this.grown hg (by simp; omega) (fun k hk => by have := (h.own.lt k hk).1; omega)
  have hs3 := hb3.size
  have hb4 := hb3.setCell (p := ⟨m, 1, none⟩) (Nat.le_refl m) (.slice (some ⟨gg, 0, none⟩) (T.length + 1) cap')
  have cell3 : ∀ i, w3.cell? ⟨m, i, none⟩ = w.cell? ⟨m, i, none⟩ := fun i => World.cell?_of_block (w := w) (a := ⟨m, i, none⟩) (hblk m (Nat.le_refl m))
  have froz3 : ∀ i, w3.frozen? ⟨m, i, none⟩ = w.frozen? ⟨m, i, none⟩ := fun i => World.frozen?_of_block (w := w) (a := ⟨m, i, none⟩) (hblk m (Nat.le_refl m))
  refine ⟨⟨⟨?_, ?_, ?_, ?_⟩, hbm, ?_, ?_, ?_⟩, hb4⟩
  · exact Nat.lt_of_lt_of_le hlt hb4.size
  · exact Nat.lt_of_lt_of_le h.mesh.blt hb4.size
  · intro i hi
    rw [hb4.cell (p := ⟨b, i, none⟩) hbm]; exact h.mesh.row i hi
  · rw [World.cell?_setCell_other _ _ _ _ (by intro q; injection q with _ q2 _; omega), cell3]; exact h.mesh.corners
  · exact World.cell?_setCell_same _ _ _ ((cell3 1).trans h.tri)
  · rw [World.frozen?_setCell, froz3]; exact h.open1
  · have e1 : (T ++ [t]).length = T.length + 1 := by simp
    have e2 : flat3 (T ++ [t]) = flat3 T ++ [.int .i64 t.1, .int .i64 t.2.1, .int .i64 t.2.2] := by rw [flat3_append]; rfl
    rw [e1, e2]
    exact ownsRow_setCell_below hown (by show m < m + 1; omega) _

attribute [local go_sem ↓] Go.wp_at_zero Go.wp_at_succ

set_option maxRecDepth 100000 in
set_option maxHeartbeats 4000000 in
theorem cutBehind_any (ps : List CP) (m b cap : Nat) (hn : ps.length ≤ 16) : ∀ (n f g : Nat) (T : List (Nat × Nat × Nat)) (v : Value) (w : World), g - f ≤ n → f < g → g < ps.length → T.length + (g - f - 1) ≤ 16 → TriAt ps m b cap T v w →
    Calls Try.prog 51 #[.pointer (some ⟨m, 0, none⟩), .int .i64 f, .int .i64 g] w fun r w' =>
      r = .returned (.tuple #[]) ∧ Below m w w' ∧ ∃ v', TriAt ps m b cap (T ++ cutI (xy ps) n f g) v' w'
  | 0, f, g, T, v, w, hn', hfg, _, _, _ => by omega
  | n + 1, f, g, T, v, w, hn', hfg, hg, hT, hA => by
    obtain ⟨i0, hi0, hz0, hz1, hz2⟩ := info_parts infoT
    have hf16 : (f : Int) < 16 := by omega
    have hg16 : (g : Int) < 16 := by omega
    by_cases h2 : g < f + 2
    · have hd : (g : Int) - (f : Int) < 2 := by omega
      have hc : cutI (xy ps) (n + 1) f g = [] := by rw [cutI.eq_2, if_pos h2]
      have Hc := hide hc
      have HA := hide hA
      clear hc hA
      go_enter Try.func51, Try.ntmps51
      go_wp2_with fail
      refine bodyPost_ret (results_none (by rfl) _ _ _) rfl ?_
      exact ⟨rfl, Below.refl _ _, v, by rw [Hc.out, List.append_nil]; exact HA.out⟩
    · have hd : ¬ (g : Int) - (f : Int) < 2 := by omega
      obtain ⟨r1, r2⟩ := tip_range (l := xy ps) (f := f) (g := g) (by omega)
      have hc : cutI (xy ps) (n + 1) f g = triI (xy ps) f (tipI (xy ps) f g) g :: (cutI (xy ps) n f (tipI (xy ps) f g) ++ cutI (xy ps) n (tipI (xy ps) f g) g) := by rw [cutI.eq_2, if_neg h2]
      have HW := hide (widestTip_any ps m b cap f g w hn hfg hg hA.mesh)
      have ih := cutBehind_any ps m b cap hn n
      generalize tipI (xy ps) f g = t at *
      have HT := hide (fun W (hb : TriAt ps m b cap T v W) => triangle_any ps m b cap f t g W hn (by omega) (by omega) hg hb.mesh)
      have I1 := hide (fun U u W => ih f t U u W (by omega) r1 (by omega))
      have I2 := hide (fun U u W => ih t g U u W (by omega) r2 hg)
      generalize triI (xy ps) f t g = tr at *
      have L1 := cut_len (xy ps) n f t (by omega)
      generalize cutI (xy ps) n f t = C1 at *
      generalize cutI (xy ps) n t g = C2 at *
      have Hc := hide hc
      have HL1 := hide L1
      have Hr := hide (And.intro r1 r2)
      have HA := hide hA
      have Hnums := hide (And.intro hT (And.intro hn' hfg))
      have hT16 : T.length ≤ 15 := by omega
      clear hc ih L1 hA r1 r2
      go_enter Try.func51, Try.ntmps51
      go_wp2_with fail
      refine HW.out.mono ?_
      rintro r w1 ⟨rfl, hb1⟩
      have hA1 := HA.out.below hb1
      have c1 := hA1.tri
      have hm1 := hA1.mesh.lt
      have HA1 := hide hA1
      have Hb1 := hide (hb1.mono (Nat.le_of_lt HA.out.mesh.lt))
      clear hb1 hA1
      go_wp2_with fail
      have hk1 : w1.drew.cell? ⟨m, 1, none⟩ = some v := c1
      go_region_law (first
        | (refine step_append_lies _ (by rfl) _ _ _ (by rfl) (m + 1) 48 i0 _ 3 24 Try.underlying41 hi0 hz0 hz1 hz2 rfl (by omega) v T.length (flat3 T) (by rfl) (by first | exact HA2.out.own.alloc _ | exact (HA2.out.own.alloc _).drew | exact (HA2.out.own.drew.alloc _))
            ⟨w2.heap.size, 0, none⟩ 1 1 [.int .i64 tr.1, .int .i64 tr.2.1, .int .i64 tr.2.2] (by rfl) (by rfl) (World.news_of_block (cs := #[.int .i64 tr.1, .int .i64 tr.2.1, .int .i64 tr.2.2]) (t := 48) (fr := (0, 0)) (heap_alloc_new w2 _)) (by simp [Value.oneCell'])
            (by omega) (by unfold maxLen; omega) (by omega) (by simp; omega) (w2.heap.size + 1) (by simp) ?_
           intro gg cap' w3 hown3 hgrow hat hlt3
           have ck3 : w3.cell? ⟨m, 1, none⟩ = some v := by rw [hgrow.cell_far _ (by simp; omega) (hne2 m (Nat.le_refl m))]; exact qk2 _
           have fk3 : w3.frozen? ⟨m, 1, none⟩ = false := by rw [hgrow.frozen_far _ (by simp; omega) (hne2 m (Nat.le_refl m))]; exact (frozen_under w2 _ ⟨m, 1, none⟩ hm2).trans fk2)
        | (go_simp
           go_wp2_with (
             go_at_call 73
             refine (HT.out _ (by first | exact HA1.out | exact HA1.out.below (below_dr _))).mono ?_
             rintro r w2 ⟨rfl, hb2⟩
             have hA2 : TriAt ps m b cap T v w2 := by first | exact HA1.out.below hb2 | exact (HA1.out.below (below_dr _)).below hb2
             have Hb2 : Hid (Below m w1 w2) := by
               show Below m w1 w2
               first | exact hb2.mono (Nat.le_of_lt hm1) | exact ((below_dr _).trans hb2).mono (Nat.le_of_lt hm1)
             have ck2 := hA2.tri
             have fk2 := hA2.open1
             have hm2 := hA2.mesh.lt
             have qk2 := under_cell (W := w2) (b := m) (i := 1) hm2 ck2
             have hne2 : ∀ k, k ≤ m → some k ≠ v.ownBlock := fun k hk e => by have := (hA2.own.lt k e.symm).1; omega
             have HA2 := hide hA2
             clear hA2 hb2)))
      all_goals (
        obtain ⟨hA4, hb4⟩ := tri_push HA2.out hown3 hgrow
        have HA4 := hide hA4
        have Hb4 := hide (Hb1.out.trans (Hb2.out.trans hb4))
        clear hown3 hgrow hat hlt3 ck3 fk3 hA4 hb4 ck2 fk2 qk2 hne2 hk1 c1 hm1 hm2 HA2 HA1 Hb1 Hb2
        generalize w3.setCell ⟨m, 1, none⟩ (.slice (some ⟨gg, 0, none⟩) (T.length + 1) cap') = w4 at *
        go_wp2_with fail
        refine (I1.out (T ++ [tr]) _ w4 (by have := Hnums.out; have := Hr.out; rw [List.length_append, List.length_singleton]; omega) HA4.out).mono ?_
        rintro r w5 ⟨rfl, hb5, v5, hA5⟩
        have HA5 := hide hA5
        have Hb5 := hide (Hb4.out.trans hb5)
        clear hb5 hA5
        go_wp2_with fail
        refine (I2.out (T ++ [tr] ++ C1) v5 w5 (by have := Hnums.out; have := Hr.out; have := HL1.out; rw [List.length_append, List.length_append, List.length_singleton]; omega) HA5.out).mono ?_
        rintro r w6 ⟨rfl, hb6, v6, hA6⟩
        have HA6 := hide hA6
        have Hb6 := hide (Hb5.out.trans hb6)
        clear hb6 hA6
        go_wp2_with fail
        go_end0
        refine ⟨rfl, Hb6.out, v6, ?_⟩
        rw [Hc.out]
        have := HA6.out
        rw [List.append_assoc, List.append_assoc, List.singleton_append] at this
        exact this)

end Go.Proofs.Ytlicmfhgjonmnaa
