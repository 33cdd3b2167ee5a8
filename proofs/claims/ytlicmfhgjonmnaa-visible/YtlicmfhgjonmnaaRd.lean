/- The document's Read. Own work. -/
import Derived.Test.YtlicmfhgjonmnaaRc
namespace Go.Proofs.Ytlicmfhgjonmnaa
open Go.RowKit
set_option linter.unusedVariables false

def flat : List (Int × Int) → List Value
  | [] => []
  | p :: l => .int .i64 p.1 :: .int .i64 p.2 :: flat l

theorem flat_len : ∀ l, (flat l).length = l.length * 2
  | [] => rfl
  | p :: l => by simp [flat, flat_len l]; omega

theorem flat_append : ∀ l m, flat (l ++ m) = flat l ++ flat m
  | [], m => rfl
  | p :: l, m => by simp [flat, flat_append l m]

theorem flat_get : ∀ (l : List (Int × Int)) (i : Nat), i < l.length → (flat l)[i * 2]? = some (.int .i64 (pAt l i).1) ∧ (flat l)[i * 2 + 1]? = some (.int .i64 (pAt l i).2)
  | [], i, h => by simp at h
  | p :: l, 0, h => by simp [flat, pAt]
  | p :: l, i + 1, h => by
    have := flat_get l i (by simpa using h)
    have e1 : (i + 1) * 2 = i * 2 + 1 + 1 := by omega
    rw [e1]
    simpa [flat, pAt] using this

/-- The points' row, in block g. -/
def RowP (w : World) (g : Nat) (l : List (Int × Int)) : Prop := ∀ i, i < l.length → w.cell? ⟨g, i * 2, none⟩ = some (.int .i64 (pAt l i).1) ∧ w.cell? ⟨g, i * 2 + 1, none⟩ = some (.int .i64 (pAt l i).2)

theorem RowP.below {w w' : World} {b : Nat} {l : List (Int × Int)} (h : RowP w b l) (hb : Below w.heap.size w w') (hlt : b < w.heap.size) : RowP w' b l :=
  fun i hi => by rw [hb.cell (p := ⟨b, i * 2, none⟩) hlt, hb.cell (p := ⟨b, i * 2 + 1, none⟩) hlt]; exact h i hi

def RdPost (s : ByteArray) (w0 : World) (v2 v3 : Value) (w : World) : Prop :=
  Below w0.heap.size w0 w ∧
  match rdAll s 16 0 [] with
  | .inl p => v2 = .slice none 0 0 ∧ v3 = .int .i64 p
  | .inr l => ∃ (g cap : Nat), v2 = .slice (some ⟨g, 0, none⟩) l.length cap ∧ v3 = .int .i64 (-1) ∧ g < w.heap.size ∧ RowP w g l

def lenOf : Value → Nat
  | .slice _ n _ => n
  | _ => 0

def badOf (q : Nat) (w : World) : Int :=
  match w.cell? ⟨q, 2, none⟩ with
  | some (.int _ b) => b
  | _ => 0

def rdMeasure (q : Nat) (v : Value) (w : World) : Nat := if badOf q w < 0 then 17 - lenOf v else 0

theorem badOf_rs {w : World} {q : Nat} {s : ByteArray} {I Bad : Int} (h : RS w q s I Bad) : badOf q w = Bad := by
  simp [badOf, h.cells.2.2.1]

theorem lenOf_owns {w : World} {base : Nat} {e : TypeId} {size n : Nat} {v : Value} {xs : List Value} (h : w.ownsRow base e size v n xs) : lenOf v = n := by
  rcases h.2 with ⟨rfl, rfl⟩ | ⟨g, cap, cur, rfl, _⟩ <;> rfl

/-- What holds at the head of the loop. -/
def RdInv (s : ByteArray) (w0 : World) (q : Nat) (v : Value) (w : World) : Prop :=
  Below w0.heap.size w0 w ∧
  ((∃ (acc : List (Int × Int)) (m i : Nat), w.ownsRow (w0.heap.size + 1) 39 2 v acc.length (flat acc) ∧ m + acc.length + 1 = 16 ∧ RS w q s i (-1) ∧ i ≤ s.size ∧ rdAll s (m + 1) i acc = rdAll s 16 0 []) ∨
   (∃ (p j : Nat), RS w q s j p ∧ rdAll s 16 0 [] = .inl p))

theorem infoP : (Try.prog.info? 39).map (fun i => (i.zero, i.size, i.bytes)) = some (some (.agg #[.int .i64 0, .int .i64 0]), 2, 16) := by kernel_rfl

theorem pair_new (w : World) (x y : Value) (t : TypeId) : ∀ j u, [x, y][j]? = some u → (w.alloc (.cells #[x, y] t)).cell? ((⟨w.heap.size, 0, none⟩ : Addr).add j) = some u := by
  intro j u hj
  match j, hj with
  | 0, hj => simp at hj; subst hj; simp [Addr.add]
  | 1, hj => simp at hj; subst hj; simp [Addr.add]

theorem inv_stop {s : ByteArray} {w0 w : World} {q p j : Nat} {v : Value} (hb : Below w0.heap.size w0 w) (hr : RS w q s j p) (h : rdAll s 16 0 [] = .inl p) (n : Nat) (hn : 0 < n) : RdInv s w0 q v w ∧ rdMeasure q v w < n := by
  refine ⟨⟨hb, .inr ⟨p, j, hr, h⟩⟩, ?_⟩
  rw [rdMeasure, badOf_rs hr, if_neg (by omega)]; exact hn

theorem rd_push {s : ByteArray} {w0 w w4 : World} {q k : Nat} {v v' : Value} {acc : List (Int × Int)} {x y : Int} {o : Obj} (hb : Below w0.heap.size w0 w) (hq : w0.heap.size = q) (hq2 : q < w.heap.size)
    (ho : w.ownsRow (q + 1) 39 2 v acc.length (flat acc)) (hr : RS w q s k (-1)) (hown : w4.ownsRow (q + 1) 39 2 v' (acc.length + 1) (flat acc ++ [.int .i64 x, .int .i64 y])) (hg : (w.alloc o).grownBy w4 v.ownBlock) :
    (w4.ownsRow (q + 1) 39 2 v' (acc ++ [(x, y)]).length (flat (acc ++ [(x, y)])) ∧ Below w0.heap.size w0 w4 ∧ RS w4 q s k (-1)) ∧
    ∃ g cap, v' = .slice (some ⟨g, 0, none⟩) (acc.length + 1) cap ∧ g < w4.heap.size ∧ RowP w4 g (acc ++ [(x, y)]) := by
  have e1 : (acc ++ [(x, y)]).length = acc.length + 1 := by simp
  have e2 : flat (acc ++ [(x, y)]) = flat acc ++ [.int .i64 x, .int .i64 y] := by rw [flat_append]; rfl
  have hown' : w4.ownsRow (q + 1) 39 2 v' (acc ++ [(x, y)]).length (flat (acc ++ [(x, y)])) := by rw [e1, e2]; exact hown
  refine ⟨⟨hown', ?_, ?_⟩, ?_⟩
  · refine (hb.alloc hb.size o).grown hg (by have := hb.size; simp; omega) ?_
    intro k hk
    have := (ho.lt k hk).1
    omega
  · have hne : some q ≠ v.ownBlock := fun e => by have := (ho.lt q e.symm).1; omega
    have := hg.block q (by simp; omega) hne
    rw [RS, this, Below.heap_alloc _ _ _ hq2]
    exact hr
  · rcases hown.2 with ⟨_, h0⟩ | ⟨g, cap, cur, hv, hgb, hh, _⟩
    · omega
    · refine ⟨g, cap, hv, lt_of_block hh, fun i hi => ?_⟩
      have hs := flat_get _ i hi
      subst hv
      rw [e1] at hi
      have c1 := hown.cellAt (i * 2) (by omega)
      have c2 := hown.cellAt (i * 2 + 1) (by omega)
      rw [c1, c2, ← e2]
      exact hs

set_option maxRecDepth 100000 in
set_option maxHeartbeats 8000000 in
theorem Read_any (s : ByteArray) (w : World) (hs : s.size ≤ 160) :
    Calls Try.prog 18 #[.string s] w fun e w' => ∃ v2 v3, e = .returned (.tuple #[v2, v3]) ∧ RdPost s w v2 v3 w' := by
  obtain ⟨i0, hi0, hz0, hz1, hz2⟩ := info_parts infoP
  go_enter Try.func18, Try.ntmps18
  go_wp2_with fail
  go_loopw [5] (fun v wr => ∃ v', v' = v ∧ RdInv s w w.heap.size v' wr) (fun v wr => rdMeasure w.heap.size v wr)
  case atStart =>
    refine ⟨_, rfl, (Below.refl _ _).alloc (Nat.le_refl _) _, .inl ⟨[], 15, 0, World.ownsRow_nil _ _ _ _, rfl, ?_, Nat.zero_le _, rfl⟩⟩
    exact heap_alloc_new _ _
  case round =>
    obtain ⟨v, hv, hbel, h | h⟩ := hrel
    all_goals subst hv
    · obtain ⟨acc, m, i, hown, hm, hrs, hi, hR⟩ := h
      obtain ⟨c0, c1, c2, f1, f2⟩ := hrs.cells
      have hq : w.heap.size < wr.heap.size := lt_of_block hrs
      have hmu : 0 < rdMeasure w.heap.size v wr := by
        rw [rdMeasure, badOf_rs hrs, if_pos (by omega), lenOf_owns hown]; omega
      have hmu2 : rdMeasure w.heap.size v wr = 17 - acc.length := by
        rw [rdMeasure, badOf_rs hrs, if_pos (by omega), lenOf_owns hown]
      have Hbel := hide hbel
      have HR := hide hR
      have HO := hide hown
      have Hrs := hide hrs
      have Hmu := hide hmu
      have Hmu2 := hide hmu2
      clear hbel hR hown hrs hmu hmu2
      go_wp2_with fail
      refine (number_any w.heap.size s i _ hs hi Hrs.out).mono ?_
      rintro e w1 ⟨vx, rfl, hx1, hp1⟩
      have HX1 := hide hx1
      clear hx1
      cases hN : rdNum s i with
      | inl p =>
        rw [hN] at hp1
        obtain ⟨rfl, hr1, hpl⟩ := hp1
        have hfin : rdAll s 16 0 [] = .inl p := by rw [← HR.out, rdAll, hN, kx]
        have HF := hide hfin
        have Hr1 := hide hr1
        clear hfin hr1 hN
        go_wp2_with fail
        refine (must_no w.heap.size s p 44 p (by omega) _ hs Hr1.out).mono ?_
        rintro e w2 ⟨rfl, hr2, hx2⟩
        have Hr2 := hide hr2
        have HX2 := hide hx2
        clear hr2 hx2
        go_wp2_with fail
        refine (number_no w.heap.size s p p (by omega) _ hs Hr2.out).mono ?_
        rintro e w3 ⟨rfl, hr3, hx3⟩
        have Hr3 := hide hr3
        have HX3 := hide hx3
        clear hr3 hx3
        obtain ⟨c0, c1, c2, f1, f2⟩ := Hr3.out.cells
        have hpn : ¬ (p : Int) < 0 := by omega
        go_wp2_with fail
        go_roundw
        case rel => exact ⟨_, rfl, (inv_stop ((HX1.out.trans (HX2.out.trans HX3.out)).below Hbel.out (Nat.le_refl _)) Hr3.out HF.out 1 (by omega)).1⟩
        case measure => exact (inv_stop (v := v) ((HX1.out.trans (HX2.out.trans HX3.out)).below Hbel.out (Nat.le_refl _)) Hr3.out HF.out _ Hmu.out).2
      | inr xj =>
        obtain ⟨x, j⟩ := xj
        rw [hN] at hp1
        obtain ⟨rfl, hr1, hj⟩ := hp1
        have HN := hide hN
        have Hr1 := hide hr1
        clear hN hr1
        by_cases h44 : bAt s j = 44
        · have hdummy : True := trivial
          go_wp2_with fail
          refine (must_yes w.heap.size s j 44 _ hs hj Hr1.out (by decide) h44).mono ?_
          rintro e w2 ⟨rfl, hr2, hx2⟩
          have hjl : j < s.size := bAt_lt (by omega)
          have Hr2 := hide hr2
          have HX2 := hide hx2
          have H44 := hide h44
          clear hr2 hx2 h44
          go_wp2_with fail
          refine (number_any w.heap.size s (j + 1) _ hs (by omega) Hr2.out).mono ?_
          rintro e w3 ⟨vy, rfl, hx3, hp3⟩
          have HX3 := hide hx3
          clear hx3
          cases hN2 : rdNum s (j + 1) with
          | inl p =>
            rw [hN2] at hp3
            obtain ⟨rfl, hr3, hpl⟩ := hp3
            have hfin : rdAll s 16 0 [] = .inl p := by rw [← HR.out, rdAll, HN.out, kx, if_pos H44.out, hN2, ky]
            have HF := hide hfin
            have Hr3 := hide hr3
            clear hfin hr3 hN2
            obtain ⟨c0, c1, c2, f1, f2⟩ := Hr3.out.cells
            have hpn : ¬ (p : Int) < 0 := by omega
            go_wp2_with fail
            go_roundw
            case rel => exact ⟨_, rfl, (inv_stop ((HX1.out.trans (HX2.out.trans HX3.out)).below Hbel.out (Nat.le_refl _)) Hr3.out HF.out 1 (by omega)).1⟩
            case measure => exact (inv_stop (v := v) ((HX1.out.trans (HX2.out.trans HX3.out)).below Hbel.out (Nat.le_refl _)) Hr3.out HF.out _ Hmu.out).2
          | inr yk =>
            obtain ⟨y, k⟩ := yk
            rw [hN2] at hp3
            obtain ⟨rfl, hr3, hk⟩ := hp3
            have HK : Hid (kp s (rdAll s m) m acc (x, y) k = rdAll s 16 0 []) := by
              show _ = _
              rw [← HR.out, rdAll, HN.out, kx, if_pos H44.out, hN2, ky]
            have Hr3 := hide hr3
            clear hr3 hN2
            obtain ⟨c0, c1, c2, f1, f2⟩ := Hr3.out.cells
            have hx13 : Ex w.heap.size wr w3 := HX1.out.trans (HX2.out.trans HX3.out)
            have hb3 : Below w.heap.size w w3 := hx13.below Hbel.out (Nat.le_refl _)
            have ho3 : w3.ownsRow (w.heap.size + 1) 39 2 v acc.length (flat acc) := hx13.owns HO.out (by omega)
            have hq3 : w.heap.size < w3.heap.size := by rw [hx13.size]; exact hq
            have HB3 := hide hb3
            have HO3 := hide ho3
            clear hx13 hb3 ho3
            go_wp2_with (at_builtin; refine wpList_append_own _ rfl _ _ 44 rfl (w.heap.size + 1) 39 i0 (.agg #[.int .i64 0, .int .i64 0]) 2 16 Try.underlying44 hi0 hz0 hz1 hz2 rfl (by decide) v acc.length (flat acc) rfl (HO3.out.alloc _) ⟨w3.heap.size, 0, none⟩ 1 1 [.int .i64 x, .int .i64 y] rfl rfl (pair_new _ _ _ _) (by intro u hu; simp at hu; rcases hu with rfl | rfl <;> rfl) (by unfold maxLen; omega) (by omega) (by simp; omega) ?_)
            intro v' w4 hown4 hgrow _
            obtain ⟨h4, g, cap, hv4, hg4, hrow4⟩ := rd_push HB3.out rfl hq3 HO3.out Hr3.out hown4 hgrow
            subst hv4
            obtain ⟨c0, c1, c2, f1, f2⟩ := h4.2.2.cells
            have H4 := hide h4
            have HP := hide hrow4
            clear hown4 hgrow h4 hrow4
            by_cases h3 : 3 ≤ acc.length + 1
            · have g3 : (3 : Int) ≤ (acc.length : Int) + 1 := by omega
              have g3' : (3 : Int) ≤ ((acc.length + 1 : Nat) : Int) := by omega
              by_cases hke : k = s.size
              · have gk : ((k : Int) == (s.size : Int)) = true := by simp; omega
                have Hke := hide hke
                clear hke
                go_wp2_with fail
                go_ret2
                refine ⟨_, _, rfl, H4.out.2.1, ?_⟩
                rw [← HK.out, kp_ret Hke.out h3]
                exact ⟨g, cap, by rw [List.length_append, List.length_singleton]; rfl, rfl, hg4, HP.out⟩
              · have gk : ((k : Int) == (s.size : Int)) = false := by simp; omega
                by_cases hm0 : m = 0
                · have g5 : (((acc.length + 1 : Nat) : Int) == 16) = true := by simp; omega
                  have g6 : (((acc.length : Int) + 1) == 16) = true := by simp; omega
                  have hfin : rdAll s 16 0 [] = .inl k := by rw [← HK.out, kp_bad (fun a => hke a.1) (.inr hm0)]
                  have HF := hide hfin
                  have Hm0 := hide hm0
                  clear hfin hm0
                  go_wp2_with fail
                  refine (fail_yes w.heap.size s k _ H4.out.2.2).mono ?_
                  rintro e w5 ⟨rfl, hr5, hx5⟩
                  have Hr5 := hide hr5
                  have HX5 := hide hx5
                  clear hr5 hx5
                  go_wp2_with fail
                  refine (must_no w.heap.size s k 32 k (by omega) _ hs Hr5.out).mono ?_
                  rintro e w6 ⟨rfl, hr6, hx6⟩
                  have Hr6 := hide hr6
                  have HX6 := hide hx6
                  clear hr6 hx6
                  go_wp2_with fail
                  go_roundw
                  case rel => exact ⟨_, rfl, (inv_stop ((HX5.out.trans HX6.out).below H4.out.2.1 (Nat.le_refl _)) Hr6.out HF.out 1 (by omega)).1⟩
                  case measure => exact (inv_stop ((HX5.out.trans HX6.out).below H4.out.2.1 (Nat.le_refl _)) Hr6.out HF.out _ Hmu.out).2
                · have g5 : (((acc.length + 1 : Nat) : Int) == 16) = false := by simp; omega
                  have g6 : (((acc.length : Int) + 1) == 16) = false := by simp; omega
                  by_cases h32 : bAt s k = 32
                  · have hfin : rdAll s m (k + 1) (acc ++ [(x, y)]) = rdAll s 16 0 [] := by rw [← HK.out, kp_next hke h32 hm0]
                    have HFN := hide hfin
                    have hlt : k < s.size := bAt_lt (by omega)
                    clear hfin
                    go_wp2_with fail
                    refine (must_yes w.heap.size s k 32 _ hs hk H4.out.2.2 (by decide) h32).mono ?_
                    rintro e w5 ⟨rfl, hr5, hx5⟩
                    have Hr5 := hide hr5
                    have HX5 := hide hx5
                    clear hr5 hx5 h32
                    go_wp2_with fail
                    obtain ⟨m, rfl⟩ : ∃ z, m = z + 1 := ⟨m - 1, by omega⟩
                    have hown5 := HX5.out.owns H4.out.1 (by omega)
                    go_roundw
                    case rel => exact ⟨_, rfl, HX5.out.below H4.out.2.1 (Nat.le_refl _), .inl ⟨acc ++ [(x, y)], m, k + 1, hown5, by simp; omega, Hr5.out, by omega, HFN.out⟩⟩
                    case measure =>
                      rw [Hmu2.out, rdMeasure, badOf_rs Hr5.out, if_pos (by omega), lenOf_owns hown5]; simp; omega
                  · have hfin : rdAll s 16 0 [] = .inl k := by rw [← HK.out, kp_bad (fun a => hke a.1) (.inl h32)]
                    have HF := hide hfin
                    clear hfin
                    go_wp2_with fail
                    refine (must_bad w.heap.size s k 32 _ hs H4.out.2.2 h32).mono ?_
                    rintro e w5 ⟨rfl, hr5, hx5⟩
                    have Hr5 := hide hr5
                    have HX5 := hide hx5
                    clear hr5 hx5 h32
                    go_wp2_with fail
                    go_roundw
                    case rel => exact ⟨_, rfl, (inv_stop (HX5.out.below H4.out.2.1 (Nat.le_refl _)) Hr5.out HF.out 1 (by omega)).1⟩
                    case measure => exact (inv_stop (HX5.out.below H4.out.2.1 (Nat.le_refl _)) Hr5.out HF.out _ Hmu.out).2
            · have g3 : ¬ (3 : Int) ≤ (acc.length : Int) + 1 := by omega
              have g3' : ¬ (3 : Int) ≤ ((acc.length + 1 : Nat) : Int) := by omega
              have hm0 : m ≠ 0 := by omega
              have g5 : (((acc.length + 1 : Nat) : Int) == 16) = false := by simp; omega
              have g6 : (((acc.length : Int) + 1) == 16) = false := by simp; omega
              by_cases h32 : bAt s k = 32
              · have hfin : rdAll s m (k + 1) (acc ++ [(x, y)]) = rdAll s 16 0 [] := by rw [← HK.out, kp_next (fun e => by rw [bAt, dif_neg (by omega)] at h32; cases h32) h32 hm0]
                have HFN := hide hfin
                have hlt : k < s.size := bAt_lt (by omega)
                clear hfin
                go_wp2_with fail
                refine (must_yes w.heap.size s k 32 _ hs hk H4.out.2.2 (by decide) h32).mono ?_
                rintro e w5 ⟨rfl, hr5, hx5⟩
                have Hr5 := hide hr5
                have HX5 := hide hx5
                clear hr5 hx5 h32
                go_wp2_with fail
                obtain ⟨m, rfl⟩ : ∃ z, m = z + 1 := ⟨m - 1, by omega⟩
                have hown5 := HX5.out.owns H4.out.1 (by omega)
                go_roundw
                case rel => exact ⟨_, rfl, HX5.out.below H4.out.2.1 (Nat.le_refl _), .inl ⟨acc ++ [(x, y)], m, k + 1, hown5, by simp; omega, Hr5.out, by omega, HFN.out⟩⟩
                case measure =>
                  rw [Hmu2.out, rdMeasure, badOf_rs Hr5.out, if_pos (by omega), lenOf_owns hown5]; simp; omega
              · have hfin : rdAll s 16 0 [] = .inl k := by rw [← HK.out, kp_bad (fun a => h3 a.2) (.inl h32)]
                have HF := hide hfin
                clear hfin
                go_wp2_with fail
                refine (must_bad w.heap.size s k 32 _ hs H4.out.2.2 h32).mono ?_
                rintro e w5 ⟨rfl, hr5, hx5⟩
                have Hr5 := hide hr5
                have HX5 := hide hx5
                clear hr5 hx5 h32
                go_wp2_with fail
                go_roundw
                case rel => exact ⟨_, rfl, (inv_stop (HX5.out.below H4.out.2.1 (Nat.le_refl _)) Hr5.out HF.out 1 (by omega)).1⟩
                case measure => exact (inv_stop (HX5.out.below H4.out.2.1 (Nat.le_refl _)) Hr5.out HF.out _ Hmu.out).2
        · have hfin : rdAll s 16 0 [] = .inl j := by rw [← HR.out, rdAll, HN.out, kx, if_neg h44]
          have HF := hide hfin
          clear hfin
          go_wp2_with fail
          refine (must_bad w.heap.size s j 44 _ hs Hr1.out h44).mono ?_
          rintro e w2 ⟨rfl, hr2, hx2⟩
          have Hr2 := hide hr2
          have HX2 := hide hx2
          clear hr2 hx2 h44
          go_wp2_with fail
          refine (number_no w.heap.size s j j (by omega) _ hs Hr2.out).mono ?_
          rintro e w3 ⟨rfl, hr3, hx3⟩
          have Hr3 := hide hr3
          have HX3 := hide hx3
          clear hr3 hx3
          obtain ⟨c0, c1, c2, f1, f2⟩ := Hr3.out.cells
          have hpn : ¬ (j : Int) < 0 := by omega
          go_wp2_with fail
          go_roundw
          case rel => exact ⟨_, rfl, (inv_stop ((HX1.out.trans (HX2.out.trans HX3.out)).below Hbel.out (Nat.le_refl _)) Hr3.out HF.out 1 (by omega)).1⟩
          case measure => exact (inv_stop (v := v) ((HX1.out.trans (HX2.out.trans HX3.out)).below Hbel.out (Nat.le_refl _)) Hr3.out HF.out _ Hmu.out).2
    · obtain ⟨p, j, hrs, hR⟩ := h
      obtain ⟨c0, c1, c2, f1, f2⟩ := hrs.cells
      have Hbel := hide hbel
      have HR := hide hR
      clear hbel hR hrs
      have hp : ¬ (p : Int) < 0 := by omega
      go_wp2_with fail
      go_quiet (fail)
      go_wp2_with fail
      go_ret2
      refine ⟨_, _, rfl, below_drewN Hbel.out _, ?_⟩
      rw [HR.out]
      exact ⟨rfl, rfl⟩

end Go.Proofs.Ytlicmfhgjonmnaa
