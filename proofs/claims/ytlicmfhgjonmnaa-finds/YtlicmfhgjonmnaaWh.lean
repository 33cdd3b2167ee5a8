/- The scanner, its other labels, and the whole. Own work. -/
import Derived.Test.YtlicmfhgjonmnaaWg
namespace Go.Proofs.Ytlicmfhgjonmnaa
open Go.RowKit
set_option linter.unusedVariables false

/-- The frame where the scanner returns. -/
def FrR (v2 v3 : Value) (a : Act) : Prop := ∃ u : Nat → Value, a = { tmps := #[u 0, u 1, v2, v3, u 4, u 5, u 6, u 7, u 8, u 9, u 10, u 11, u 12, u 13, u 14, u 15, u 16, u 17, u 18, u 19, u 20, u 21, u 22, u 23, u 24, u 25, u 26, u 27, u 28, u 29, u 30, u 31, u 32, u 33, u 34, u 35, u 36, u 37, u 38, u 39, u 40, u 41, u 42, u 43, u 44, u 45, u 46, u 47, u 48, u 49, u 50, u 51, u 52, u 53, u 54, u 55, u 56, u 57, u 58, u 59, u 60, u 61, u 62, u 63, u 64, u 65, u 66, u 67, u 68, u 69, u 70, u 71, u 72, u 73, u 74, u 75, u 76, u 77, u 78, u 79, u 80, u 81, u 82, u 83, u 84, u 85, u 86, u 87, u 88, u 89, u 90, u 91], defers := [] }

theorem FrR.mk {v2 v3 : Value} {u0 u1 u4 u5 u6 u7 u8 u9 u10 u11 u12 u13 u14 u15 u16 u17 u18 u19 u20 u21 u22 u23 u24 u25 u26 u27 u28 u29 u30 u31 u32 u33 u34 u35 u36 u37 u38 u39 u40 u41 u42 u43 u44 u45 u46 u47 u48 u49 u50 u51 u52 u53 u54 u55 u56 u57 u58 u59 u60 u61 u62 u63 u64 u65 u66 u67 u68 u69 u70 u71 u72 u73 u74 u75 u76 u77 u78 u79 u80 u81 u82 u83 u84 u85 u86 u87 u88 u89 u90 u91 : Value} : FrR v2 v3 { tmps := #[u0, u1, v2, v3, u4, u5, u6, u7, u8, u9, u10, u11, u12, u13, u14, u15, u16, u17, u18, u19, u20, u21, u22, u23, u24, u25, u26, u27, u28, u29, u30, u31, u32, u33, u34, u35, u36, u37, u38, u39, u40, u41, u42, u43, u44, u45, u46, u47, u48, u49, u50, u51, u52, u53, u54, u55, u56, u57, u58, u59, u60, u61, u62, u63, u64, u65, u66, u67, u68, u69, u70, u71, u72, u73, u74, u75, u76, u77, u78, u79, u80, u81, u82, u83, u84, u85, u86, u87, u88, u89, u90, u91], defers := [] } :=
  ⟨fun k => (#[u0, u1, undef, undef, u4, u5, u6, u7, u8, u9, u10, u11, u12, u13, u14, u15, u16, u17, u18, u19, u20, u21, u22, u23, u24, u25, u26, u27, u28, u29, u30, u31, u32, u33, u34, u35, u36, u37, u38, u39, u40, u41, u42, u43, u44, u45, u46, u47, u48, u49, u50, u51, u52, u53, u54, u55, u56, u57, u58, u59, u60, u61, u62, u63, u64, u65, u66, u67, u68, u69, u70, u71, u72, u73, u74, u75, u76, u77, u78, u79, u80, u81, u82, u83, u84, u85, u86, u87, u88, u89, u90, u91] : Array Value).getD k undef, rfl⟩

theorem jumps_mono {J J' : Nat → Act → World → Prop} {Q : Exit → Act → World → Prop} (h : ∀ l a w, J l a w → J' l a w) : ∀ e a w, jumps J Q e a w → jumps J' Q e a w := by
  intro e a w hq
  match e, hq with
  | .goto l, hq => exact h _ _ _ hq
  | .normal, hq => exact hq
  | .exit id, hq => exact hq
  | .ret, hq => exact hq
  | .panic ch, hq => exact hq
  | .outgrown, hq => exact hq

theorem pass1' (s : ByteArray) (w0 : World) (R : Nat ⊕ List (Int × Int)) (hs : s.size ≤ 160) (Q : Exit → Act → World → Prop) (n : Nat) (a : Act) (w : World) (x : Code) (hx : findLabel (scopeIn Try.f42.body) 1 = some (.seq .skip x)) (h : JJ s w0 R 1 n a w) :
    x.wp Try.prog (jumps (fun l' a' w' => ∃ n', n' < n ∧ JJ s w0 R l' n' a' w') Q) a w := by
  obtain ⟨y, hy, hw⟩ := pass1 s w0 R hs Q n a w h
  rw [hx] at hy
  injection hy with hy
  injection hy with _ hy
  rw [hy]
  exact hw

theorem jj1d {s : ByteArray} {w0 w : World} {R : Nat ⊕ List (Int × Int)} {v : Value} {i : Nat} {at_ sg sz : Int} {z : Nat} {dg rt : Int} {sc : Bool} {acc : List CP} {m : Nat} {a : Act}
    (hF : Fr s v at_ sg sz dg rt sc a) (ha : at_ = i) (hz : sz = z) (hC : Cr w0 w v acc) (hm : m + acc.length + 1 = 16) (hi : i ≤ s.size) (hr1 : -999 ≤ rt) (hr2 : rt ≤ 999)
    (hsg : sg = 1 ∨ sg = -1) (f : Nat) (hf : f ≤ 2) (hdg : dg = 2 - (f : Int)) (hz1 : z ≤ 99) (hz2 : 1 ≤ f → z ≤ 9) (hz3 : f = 2 → z = 0) (hK : KK s m acc rt sc (rdD s sg (f + 1) z i) = R) : JJ s w0 R 1 (4 * (s.size + 1 - i) + 2) a w := by
  subst ha hz
  exact ⟨v, i, sg, z, dg, rt, sc, acc, m, hF, hC, fun _ => hm, hi, hr1, hr2, by omega, .inr (.inl ⟨rfl, rfl, hsg, f, hf, hdg, hz1, hz2, hz3, hK⟩)⟩

set_option maxRecDepth 100000 in
set_option maxHeartbeats 1000000 in
theorem pass0 (s : ByteArray) (w0 : World) (R : Nat ⊕ List (Int × Int)) (hs : s.size ≤ 160) (Q : Exit → Act → World → Prop) (n : Nat) (a : Act) (w : World) (h : JJ s w0 R 0 n a w) :
    ∃ x, findLabel (scopeIn Try.f42.body) 0 = some (.seq .skip x) ∧ x.wp Try.prog (jumps (fun l' a' w' => ∃ n', n' < n ∧ JJ s w0 R l' n' a' w') Q) a w := by
  obtain ⟨v, i, sg, z, dg, rt, sc, acc, m, hF, hC, hm, hi, hr1, hr2, hn, hK⟩ := jj_open0 h
  clear h
  refine ⟨_, rfl, ?_⟩
  obtain ⟨u, rfl⟩ := hF
  have HK := hide hK
  have HC := hide hC
  have Hn := hide hn
  clear hK hC hn
  by_cases h45 : bAt s i = 45
  · have g : ((bAt s i : Int) != 45) = false := by simp; omega
    have hlt : i < s.size := bAt_lt (by omega)
    have H45 := hide h45
    clear h45
    by_cases h48 : bAt s (i + 1) = 48
    · have g2 : ((bAt s (i + 1) : Int) == 48) = true := by simp; omega
      have H48 := hide h48
      clear h48
      go_wp2_with fail
      refine (byteAt_any s i _ (by unfold maxLen; omega) (by omega)).mono ?_
      rintro e w' ⟨rfl, rfl⟩
      rw [Int.toNat_natCast]
      go_wp2_with fail
      refine (byteAt_any s ((i : Int) + 1) _ (by unfold maxLen; omega) (by omega)).mono ?_
      rintro e w' ⟨rfl, rfl⟩
      rw [show ((i : Int) + 1).toNat = i + 1 by omega]
      go_wp2_with fail
      go_step3
      refine jj2 (acc := acc) (i := i + 1) (z := 0) Fr.mk (by omega) (by omega) HC.out (by omega) hr1 hr2 (by omega) (by rw [Hn.out]; omega) ?_
      rw [← HK.out, rdNum, if_pos H45.out, if_pos H48.out, KK_bad]
    · have g2 : ((bAt s (i + 1) : Int) == 48) = false := by simp; omega
      have H48 := hide h48
      clear h48
      go_wp2_with fail
      refine (byteAt_any s i _ (by unfold maxLen; omega) (by omega)).mono ?_
      rintro e w' ⟨rfl, rfl⟩
      rw [Int.toNat_natCast]
      go_wp2_with fail
      refine (byteAt_any s ((i : Int) + 1) _ (by unfold maxLen; omega) (by omega)).mono ?_
      rintro e w' ⟨rfl, rfl⟩
      rw [show ((i : Int) + 1).toNat = i + 1 by omega]
      go_wp2_with fail
      go_step3
      rename_i hk
      refine hk _ _ ?_
      refine wp_mono (pass1' s w0 R hs Q _ _ w' _ rfl (jj1d (acc := acc) (m := m) (i := i + 1) (z := 0) Fr.mk (by omega) (by omega) HC.out hm (by omega) hr1 hr2 (by omega) 2 (by omega) (by omega) (by omega) (by omega) (by omega) (by rw [← HK.out, rdNum, if_pos H45.out, if_neg H48.out]))) (jumps_mono ?_)
      rintro l a w ⟨n2, h2, h3⟩
      exact ⟨n2, by have := Hn.out; omega, h3⟩
  · have g : ((bAt s i : Int) != 45) = true := by simp; omega
    have H45 := hide h45
    clear h45
    go_wp2_with fail
    refine (byteAt_any s i _ (by unfold maxLen; omega) (by omega)).mono ?_
    rintro e w' ⟨rfl, rfl⟩
    rw [Int.toNat_natCast]
    go_wp2_with fail
    go_step3
    refine jj1 (acc := acc) (m := m) (i := i) (z := 0) Fr.mk (by omega) (by omega) HC.out hm (by omega) hr1 hr2 (by rw [Hn.out]; omega) (by omega) 2 (by omega) (by omega) (by omega) (by omega) (by omega) ?_
    rw [← HK.out, rdNum, if_neg H45.out]

/-- What the scanner hands back. -/
def RCpost (s : ByteArray) (w0 : World) (v2 v3 : Value) (w : World) : Prop :=
  Below w0.heap.size w0 w ∧
  match rdAll s 16 0 [] with
  | .inl p => v2 = .slice none 0 0 ∧ v3 = .int .i64 p ∧ p ≤ s.size
  | .inr l => ∃ (g cap : Nat) (ps : List CP), v2 = .slice (some ⟨g, 0, none⟩) ps.length cap ∧ v3 = .int .i64 (-1) ∧ xy ps = l ∧ w0.heap.size ≤ g ∧ g < w.heap.size ∧ RowC w g ps

set_option maxRecDepth 100000 in
set_option maxHeartbeats 1000000 in
theorem pass2 (s : ByteArray) (w0 : World) (hs : s.size ≤ 160) (Q : Exit → Act → World → Prop) (hQ : ∀ v2 v3 a w, FrR v2 v3 a → RCpost s w0 v2 v3 w → Q .ret a w) (J : Nat → Act → World → Prop) (n : Nat) (a : Act) (w : World) (h : JJ s w0 (rdAll s 16 0 []) 2 n a w) :
    ∃ x, findLabel (scopeIn Try.f42.body) 2 = some (.seq .skip x) ∧ x.wp Try.prog (jumps J Q) a w := by
  obtain ⟨v, i, sg, z, dg, rt, sc, acc, hF, hC, hR, hi⟩ := jj_open2 h
  clear h
  refine ⟨_, rfl, ?_⟩
  obtain ⟨u, rfl⟩ := hF
  have HR := hide hR
  have HC := hide hC
  have HQ := hide hQ
  clear hR hC hQ
  go_wp2_with fail
  exact HQ.out _ _ _ _ FrR.mk ⟨HC.out.2, by rw [HR.out]; exact ⟨rfl, rfl, hi⟩⟩

theorem infoC : (Try.prog.info? 70).map (fun i => (i.zero, i.size, i.bytes)) = some (some (.complex .f64 0 0), 1, 16) := by kernel_rfl

theorem cp_make (x y : Int) (hx : -999 ≤ x ∧ x ≤ 999) (hy : -999 ≤ y ∧ y ≤ 999) : ∃ p : CP, p.x = x ∧ p.y = y ∧ p.re = floatOfInt .f64 x ∧ p.im = floatOfInt .f64 y :=
  ⟨⟨floatOfInt .f64 x, floatOfInt .f64 y, x, y, Rep.ofInt (small53 (by omega)), Rep.ofInt (small53 (by omega)), hx, hy⟩, rfl, rfl, rfl, rfl⟩

theorem one_new (w : World) (x : Value) (t : TypeId) : ∀ j u, [x][j]? = some u → (w.alloc (.cells #[x] t)).cell? ((⟨w.heap.size, 0, none⟩ : Addr).add j) = some u := by
  intro j u hj
  match j, hj with
  | 0, hj => simp at hj; subst hj; simp [Addr.add]

theorem cr_push {w0 w w1 : World} {v v' : Value} {acc : List CP} {p : CP} {o : Obj} (hC : Cr w0 w v acc)
    (hown : w1.ownsRow w0.heap.size 70 1 v' (acc.length + 1) (acc.map cval ++ [.complex .f64 p.re p.im])) (hg : (w.alloc o).grownBy w1 v.ownBlock) : Cr w0 w1 v' (acc ++ [p]) := by
  refine ⟨?_, ?_⟩
  · rw [List.length_append, List.map_append]; exact hown
  · refine ((hC.2.alloc hC.2.size o).grown hg (by have := hC.2.size; simp; omega) ?_)
    intro k hk
    exact (hC.1.lt k hk).1

theorem cr_shape {w0 w : World} {v : Value} {acc : List CP} (hC : Cr w0 w v acc) (h : acc ≠ []) : ∃ g cap, v = .slice (some ⟨g, 0, none⟩) acc.length cap ∧ (w0.heap.size ≤ g ∧ g < w.heap.size) ∧ RowC w g acc := by
  obtain ⟨h1, h2⟩ := hC
  have hpos : acc.length ≠ 0 := by simpa using h
  rcases h1.2 with ⟨_, h0⟩ | ⟨g, cap, cur, hv, hg, hh, _⟩
  · exact absurd h0 hpos
  · refine ⟨g, cap, hv, h1.lt g (by rw [hv]; rfl), fun i hi => ?_⟩
    have := (hv ▸ h1).cellAt i (by omega)
    rw [this, List.getElem?_map, List.getElem?_eq_getElem hi]
    simp [cval, ptAt, List.getD, List.getElem?_eq_getElem hi]

theorem kp_ret {s : ByteArray} {next : Nat → List (Int × Int) → Nat ⊕ List (Int × Int)} {m : Nat} {acc : List (Int × Int)} {p : Int × Int} {k : Nat} (h : k = s.size) (h2 : 3 ≤ acc.length + 1) : kp s next m acc p k = .inr (acc ++ [p]) := by
  simp [kp, h, h2]
theorem kp_bad {s : ByteArray} {next : Nat → List (Int × Int) → Nat ⊕ List (Int × Int)} {m : Nat} {acc : List (Int × Int)} {p : Int × Int} {k : Nat} (h : ¬ (k = s.size ∧ 3 ≤ acc.length + 1)) (h2 : bAt s k ≠ 32 ∨ m = 0) : kp s next m acc p k = .inl k := by
  rw [kp, if_neg h, if_neg]
  rintro ⟨a, b⟩
  rcases h2 with h2 | h2
  · exact h2 a
  · exact b h2
theorem kp_next {s : ByteArray} {next : Nat → List (Int × Int) → Nat ⊕ List (Int × Int)} {m : Nat} {acc : List (Int × Int)} {p : Int × Int} {k : Nat} (h : k ≠ s.size) (h2 : bAt s k = 32) (h3 : m ≠ 0) : kp s next m acc p k = next (k + 1) (acc ++ [p]) := by
  rw [kp, if_neg (fun a => h a.1), if_pos ⟨h2, h3⟩]

theorem xy_push (acc : List CP) (p : CP) : xy (acc ++ [p]) = xy acc ++ [(p.x, p.y)] := by simp [xy]
theorem xy_len (acc : List CP) : (xy acc).length = acc.length := by simp [xy]

set_option maxRecDepth 100000 in
set_option maxHeartbeats 8000000 in
theorem pass3 (s : ByteArray) (w0 : World) (hs : s.size ≤ 160) (Q : Exit → Act → World → Prop) (hQ : ∀ v2 v3 a w, FrR v2 v3 a → RCpost s w0 v2 v3 w → Q .ret a w) (n : Nat) (a : Act) (w : World) (h : JJ s w0 (rdAll s 16 0 []) 3 n a w) :
    ∃ x, findLabel (scopeIn Try.f42.body) 3 = some (.seq .skip x) ∧ x.wp Try.prog (jumps (fun l' a' w' => ∃ n', n' < n ∧ JJ s w0 (rdAll s 16 0 []) l' n' a' w') Q) a w := by
  obtain ⟨i0, hi0, hz0, hz1, hz2⟩ := info_parts infoC
  obtain ⟨v, i, sg, z, dg, rt, sc, acc, m, hF, hC, hm, hi, hr1, hr2, hz9, hn, hsg, hK⟩ := jj_open3 h
  clear h
  refine ⟨_, rfl, ?_⟩
  obtain ⟨u, rfl⟩ := hF
  have HK := hide hK
  have HC := hide hC
  have Hn := hide hn
  have HQ := hide hQ
  clear hK hC hn hQ
  rcases hsg with rfl | rfl
  · obtain ⟨p, hp⟩ := cp_make rt (z : Int) (by omega) (by omega)
    have HY := hide (show ((rt, 1 * (z : Int)) : Int × Int) = (p.x, p.y) by rw [hp.1, hp.2.1]; congr 1; omega)
    by_cases h1 : i = s.size
    · have g1 : ((i : Int) == (s.size : Int)) = true := by simp; omega
      by_cases h2 : 3 ≤ acc.length + 1
      · have g2 : (3 : Int) ≤ ((acc.length + 1 : Nat) : Int) := by omega
        have g3 : (3 : Int) ≤ (acc.length : Int) + 1 := by omega
        have H1 := hide h1
        clear h1
        go_wp2_with (at_builtin; refine wpList_append_own _ rfl _ _ 58 rfl w0.heap.size 70 i0 (.complex .f64 0 0) 1 16 Try.underlying58 hi0 hz0 hz1 hz2 rfl (by decide) v acc.length (acc.map cval) rfl (HC.out.1.alloc _) ⟨w.heap.size, 0, none⟩ 1 1 [.complex .f64 (floatOfInt .f64 rt) (floatOfInt .f64 (z : Int))] rfl rfl (one_new _ _ _) (by intro u hu; simp at hu; subst hu; rfl) (by unfold maxLen; omega) (by omega) (by have := HC.out.2.size; simp; omega) ?_)
        intro v' w1 hown hgrow _
        have hC1 : Cr w0 w1 v' (acc ++ [p]) := cr_push HC.out (by rw [hp.2.2.1, hp.2.2.2]; exact hown) hgrow
        obtain ⟨g, cap, hv, hg, hrow⟩ := cr_shape hC1 (by simp)
        rw [List.length_append, List.length_singleton] at hv
        subst hv
        have HC1 := hide hC1
        have HR := hide hrow
        clear hown hgrow hC1 hrow
        go_wp2_with fail
        refine HQ.out _ _ _ _ FrR.mk ⟨HC1.out.2, ?_⟩
        rw [← HK.out, kp_ret H1.out (by rw [xy_len]; exact h2)]
        exact ⟨g, cap, acc ++ [p], by rw [List.length_append, List.length_singleton], rfl, by rw [xy_push, HY.out], hg.1, hg.2, HR.out⟩
      · have g2 : ¬ (3 : Int) ≤ ((acc.length + 1 : Nat) : Int) := by omega
        have g3 : ¬ (3 : Int) ≤ (acc.length : Int) + 1 := by omega
        have hb : bAt s i = 0 := by simp [bAt, h1]
        have g4 : ((bAt s i : Int) != 32) = true := by simp; omega
        have Hb := hide hb
        have H2 := hide h2
        clear h1 hb h2
        go_wp2_with (at_builtin; refine wpList_append_own _ rfl _ _ 58 rfl w0.heap.size 70 i0 (.complex .f64 0 0) 1 16 Try.underlying58 hi0 hz0 hz1 hz2 rfl (by decide) v acc.length (acc.map cval) rfl (HC.out.1.alloc _) ⟨w.heap.size, 0, none⟩ 1 1 [.complex .f64 (floatOfInt .f64 rt) (floatOfInt .f64 (z : Int))] rfl rfl (one_new _ _ _) (by intro u hu; simp at hu; subst hu; rfl) (by unfold maxLen; omega) (by omega) (by have := HC.out.2.size; simp; omega) ?_)
        intro v' w1 hown hgrow _
        have hC1 : Cr w0 w1 v' (acc ++ [p]) := cr_push HC.out (by rw [hp.2.2.1, hp.2.2.2]; exact hown) hgrow
        obtain ⟨g, cap, hv, hg, hrow⟩ := cr_shape hC1 (by simp)
        rw [List.length_append, List.length_singleton] at hv
        subst hv
        have HC1 := hide hC1
        have HR := hide hrow
        clear hown hgrow hC1 hrow
        go_wp2_with fail
        refine (byteAt_any s i _ (by unfold maxLen; omega) (by omega)).mono ?_
        rintro e w' ⟨rfl, rfl⟩
        rw [Int.toNat_natCast]
        go_wp2_with fail
        go_step3
        refine jj2 (acc := acc ++ [p]) (i := i) (z := z) Fr.mk rfl rfl HC1.out hi hr1 hr2 hz9 (by rw [Hn.out]; omega) ?_
        rw [← HK.out, kp_bad (fun h => H2.out (by rw [xy_len] at h; exact h.2)) (.inl (by rw [Hb.out]; decide))]
    · have g1 : ((i : Int) == (s.size : Int)) = false := by simp; omega
      have H1 := hide h1
      clear h1
      by_cases h32 : bAt s i = 32
      · have g4 : ((bAt s i : Int) != 32) = false := by simp; omega
        have hlt : i < s.size := bAt_lt (by omega)
        have H32 := hide h32
        clear h32
        by_cases hm0 : m = 0
        · have hl : acc.length = 15 := by omega
          have g5 : (((acc.length + 1 : Nat) : Int) == 16) = true := by simp; omega
          have g6 : (((acc.length : Int) + 1) == 16) = true := by simp; omega
          have Hm0 := hide hm0
          have Hl := hide hl
          clear hm0 hl
          go_wp2_with (at_builtin; refine wpList_append_own _ rfl _ _ 58 rfl w0.heap.size 70 i0 (.complex .f64 0 0) 1 16 Try.underlying58 hi0 hz0 hz1 hz2 rfl (by decide) v acc.length (acc.map cval) rfl (HC.out.1.alloc _) ⟨w.heap.size, 0, none⟩ 1 1 [.complex .f64 (floatOfInt .f64 rt) (floatOfInt .f64 (z : Int))] rfl rfl (one_new _ _ _) (by intro u hu; simp at hu; subst hu; rfl) (by unfold maxLen; omega) (by omega) (by have := HC.out.2.size; simp; omega) ?_)
          intro v' w1 hown hgrow _
          have hC1 : Cr w0 w1 v' (acc ++ [p]) := cr_push HC.out (by rw [hp.2.2.1, hp.2.2.2]; exact hown) hgrow
          obtain ⟨g, cap, hv, hg, hrow⟩ := cr_shape hC1 (by simp)
          rw [List.length_append, List.length_singleton] at hv
          subst hv
          have HC1 := hide hC1
          have HR := hide hrow
          clear hown hgrow hC1 hrow
          go_wp2_with fail
          refine (byteAt_any s i _ (by unfold maxLen; omega) (by omega)).mono ?_
          rintro e w' ⟨rfl, rfl⟩
          rw [Int.toNat_natCast]
          go_wp2_with fail
          go_step3
          refine jj2 (acc := acc ++ [p]) (i := i) (z := z) Fr.mk rfl rfl HC1.out hi hr1 hr2 hz9 (by rw [Hn.out]; omega) ?_
          rw [← HK.out, kp_bad (fun h => H1.out h.1) (.inr Hm0.out)]
        · have g5 : (((acc.length + 1 : Nat) : Int) == 16) = false := by simp; omega
          have g6 : (((acc.length : Int) + 1) == 16) = false := by simp; omega
          go_wp2_with (at_builtin; refine wpList_append_own _ rfl _ _ 58 rfl w0.heap.size 70 i0 (.complex .f64 0 0) 1 16 Try.underlying58 hi0 hz0 hz1 hz2 rfl (by decide) v acc.length (acc.map cval) rfl (HC.out.1.alloc _) ⟨w.heap.size, 0, none⟩ 1 1 [.complex .f64 (floatOfInt .f64 rt) (floatOfInt .f64 (z : Int))] rfl rfl (one_new _ _ _) (by intro u hu; simp at hu; subst hu; rfl) (by unfold maxLen; omega) (by omega) (by have := HC.out.2.size; simp; omega) ?_)
          intro v' w1 hown hgrow _
          have hC1 : Cr w0 w1 v' (acc ++ [p]) := cr_push HC.out (by rw [hp.2.2.1, hp.2.2.2]; exact hown) hgrow
          obtain ⟨g, cap, hv, hg, hrow⟩ := cr_shape hC1 (by simp)
          rw [List.length_append, List.length_singleton] at hv
          subst hv
          have HC1 := hide hC1
          have HR := hide hrow
          clear hown hgrow hC1 hrow
          go_wp2_with fail
          refine (byteAt_any s i _ (by unfold maxLen; omega) (by omega)).mono ?_
          rintro e w' ⟨rfl, rfl⟩
          rw [Int.toNat_natCast]
          go_wp2_with fail
          go_step3
          obtain ⟨m, rfl⟩ : ∃ k, m = k + 1 := ⟨m - 1, by omega⟩
          refine jj0 (acc := acc ++ [p]) (m := m) (i := i + 1) (z := z) Fr.mk (by omega) rfl HC1.out (by simp; omega) (by omega) hr1 hr2 hz9 (by rw [Hn.out]; omega) ?_
          rw [← HK.out, kp_next H1.out H32.out hm0, HY.out, ← xy_push]
          rfl
      · have g4 : ((bAt s i : Int) != 32) = true := by simp; omega
        have H32 := hide h32
        clear h32
        go_wp2_with (at_builtin; refine wpList_append_own _ rfl _ _ 58 rfl w0.heap.size 70 i0 (.complex .f64 0 0) 1 16 Try.underlying58 hi0 hz0 hz1 hz2 rfl (by decide) v acc.length (acc.map cval) rfl (HC.out.1.alloc _) ⟨w.heap.size, 0, none⟩ 1 1 [.complex .f64 (floatOfInt .f64 rt) (floatOfInt .f64 (z : Int))] rfl rfl (one_new _ _ _) (by intro u hu; simp at hu; subst hu; rfl) (by unfold maxLen; omega) (by omega) (by have := HC.out.2.size; simp; omega) ?_)
        intro v' w1 hown hgrow _
        have hC1 : Cr w0 w1 v' (acc ++ [p]) := cr_push HC.out (by rw [hp.2.2.1, hp.2.2.2]; exact hown) hgrow
        obtain ⟨g, cap, hv, hg, hrow⟩ := cr_shape hC1 (by simp)
        rw [List.length_append, List.length_singleton] at hv
        subst hv
        have HC1 := hide hC1
        have HR := hide hrow
        clear hown hgrow hC1 hrow
        go_wp2_with fail
        refine (byteAt_any s i _ (by unfold maxLen; omega) (by omega)).mono ?_
        rintro e w' ⟨rfl, rfl⟩
        rw [Int.toNat_natCast]
        go_wp2_with fail
        go_step3
        refine jj2 (acc := acc ++ [p]) (i := i) (z := z) Fr.mk rfl rfl HC1.out hi hr1 hr2 hz9 (by rw [Hn.out]; omega) ?_
        rw [← HK.out, kp_bad (fun h => H1.out h.1) (.inl H32.out)]
  · obtain ⟨p, hp⟩ := cp_make rt (-(z : Int)) (by omega) (by omega)
    have HY := hide (show ((rt, -1 * (z : Int)) : Int × Int) = (p.x, p.y) by rw [hp.1, hp.2.1]; congr 1; omega)
    by_cases h1 : i = s.size
    · have g1 : ((i : Int) == (s.size : Int)) = true := by simp; omega
      by_cases h2 : 3 ≤ acc.length + 1
      · have g2 : (3 : Int) ≤ ((acc.length + 1 : Nat) : Int) := by omega
        have g3 : (3 : Int) ≤ (acc.length : Int) + 1 := by omega
        have H1 := hide h1
        clear h1
        go_wp2_with (at_builtin; refine wpList_append_own _ rfl _ _ 58 rfl w0.heap.size 70 i0 (.complex .f64 0 0) 1 16 Try.underlying58 hi0 hz0 hz1 hz2 rfl (by decide) v acc.length (acc.map cval) rfl (HC.out.1.alloc _) ⟨w.heap.size, 0, none⟩ 1 1 [.complex .f64 (floatOfInt .f64 rt) (floatOfInt .f64 (-(z : Int)))] rfl rfl (one_new _ _ _) (by intro u hu; simp at hu; subst hu; rfl) (by unfold maxLen; omega) (by omega) (by have := HC.out.2.size; simp; omega) ?_)
        intro v' w1 hown hgrow _
        have hC1 : Cr w0 w1 v' (acc ++ [p]) := cr_push HC.out (by rw [hp.2.2.1, hp.2.2.2]; exact hown) hgrow
        obtain ⟨g, cap, hv, hg, hrow⟩ := cr_shape hC1 (by simp)
        rw [List.length_append, List.length_singleton] at hv
        subst hv
        have HC1 := hide hC1
        have HR := hide hrow
        clear hown hgrow hC1 hrow
        go_wp2_with fail
        refine HQ.out _ _ _ _ FrR.mk ⟨HC1.out.2, ?_⟩
        rw [← HK.out, kp_ret H1.out (by rw [xy_len]; exact h2)]
        exact ⟨g, cap, acc ++ [p], by rw [List.length_append, List.length_singleton], rfl, by rw [xy_push, HY.out], hg.1, hg.2, HR.out⟩
      · have g2 : ¬ (3 : Int) ≤ ((acc.length + 1 : Nat) : Int) := by omega
        have g3 : ¬ (3 : Int) ≤ (acc.length : Int) + 1 := by omega
        have hb : bAt s i = 0 := by simp [bAt, h1]
        have g4 : ((bAt s i : Int) != 32) = true := by simp; omega
        have Hb := hide hb
        have H2 := hide h2
        clear h1 hb h2
        go_wp2_with (at_builtin; refine wpList_append_own _ rfl _ _ 58 rfl w0.heap.size 70 i0 (.complex .f64 0 0) 1 16 Try.underlying58 hi0 hz0 hz1 hz2 rfl (by decide) v acc.length (acc.map cval) rfl (HC.out.1.alloc _) ⟨w.heap.size, 0, none⟩ 1 1 [.complex .f64 (floatOfInt .f64 rt) (floatOfInt .f64 (-(z : Int)))] rfl rfl (one_new _ _ _) (by intro u hu; simp at hu; subst hu; rfl) (by unfold maxLen; omega) (by omega) (by have := HC.out.2.size; simp; omega) ?_)
        intro v' w1 hown hgrow _
        have hC1 : Cr w0 w1 v' (acc ++ [p]) := cr_push HC.out (by rw [hp.2.2.1, hp.2.2.2]; exact hown) hgrow
        obtain ⟨g, cap, hv, hg, hrow⟩ := cr_shape hC1 (by simp)
        rw [List.length_append, List.length_singleton] at hv
        subst hv
        have HC1 := hide hC1
        have HR := hide hrow
        clear hown hgrow hC1 hrow
        go_wp2_with fail
        refine (byteAt_any s i _ (by unfold maxLen; omega) (by omega)).mono ?_
        rintro e w' ⟨rfl, rfl⟩
        rw [Int.toNat_natCast]
        go_wp2_with fail
        go_step3
        refine jj2 (acc := acc ++ [p]) (i := i) (z := z) Fr.mk rfl rfl HC1.out hi hr1 hr2 hz9 (by rw [Hn.out]; omega) ?_
        rw [← HK.out, kp_bad (fun h => H2.out (by rw [xy_len] at h; exact h.2)) (.inl (by rw [Hb.out]; decide))]
    · have g1 : ((i : Int) == (s.size : Int)) = false := by simp; omega
      have H1 := hide h1
      clear h1
      by_cases h32 : bAt s i = 32
      · have g4 : ((bAt s i : Int) != 32) = false := by simp; omega
        have hlt : i < s.size := bAt_lt (by omega)
        have H32 := hide h32
        clear h32
        by_cases hm0 : m = 0
        · have hl : acc.length = 15 := by omega
          have g5 : (((acc.length + 1 : Nat) : Int) == 16) = true := by simp; omega
          have g6 : (((acc.length : Int) + 1) == 16) = true := by simp; omega
          have Hm0 := hide hm0
          have Hl := hide hl
          clear hm0 hl
          go_wp2_with (at_builtin; refine wpList_append_own _ rfl _ _ 58 rfl w0.heap.size 70 i0 (.complex .f64 0 0) 1 16 Try.underlying58 hi0 hz0 hz1 hz2 rfl (by decide) v acc.length (acc.map cval) rfl (HC.out.1.alloc _) ⟨w.heap.size, 0, none⟩ 1 1 [.complex .f64 (floatOfInt .f64 rt) (floatOfInt .f64 (-(z : Int)))] rfl rfl (one_new _ _ _) (by intro u hu; simp at hu; subst hu; rfl) (by unfold maxLen; omega) (by omega) (by have := HC.out.2.size; simp; omega) ?_)
          intro v' w1 hown hgrow _
          have hC1 : Cr w0 w1 v' (acc ++ [p]) := cr_push HC.out (by rw [hp.2.2.1, hp.2.2.2]; exact hown) hgrow
          obtain ⟨g, cap, hv, hg, hrow⟩ := cr_shape hC1 (by simp)
          rw [List.length_append, List.length_singleton] at hv
          subst hv
          have HC1 := hide hC1
          have HR := hide hrow
          clear hown hgrow hC1 hrow
          go_wp2_with fail
          refine (byteAt_any s i _ (by unfold maxLen; omega) (by omega)).mono ?_
          rintro e w' ⟨rfl, rfl⟩
          rw [Int.toNat_natCast]
          go_wp2_with fail
          go_step3
          refine jj2 (acc := acc ++ [p]) (i := i) (z := z) Fr.mk rfl rfl HC1.out hi hr1 hr2 hz9 (by rw [Hn.out]; omega) ?_
          rw [← HK.out, kp_bad (fun h => H1.out h.1) (.inr Hm0.out)]
        · have g5 : (((acc.length + 1 : Nat) : Int) == 16) = false := by simp; omega
          have g6 : (((acc.length : Int) + 1) == 16) = false := by simp; omega
          go_wp2_with (at_builtin; refine wpList_append_own _ rfl _ _ 58 rfl w0.heap.size 70 i0 (.complex .f64 0 0) 1 16 Try.underlying58 hi0 hz0 hz1 hz2 rfl (by decide) v acc.length (acc.map cval) rfl (HC.out.1.alloc _) ⟨w.heap.size, 0, none⟩ 1 1 [.complex .f64 (floatOfInt .f64 rt) (floatOfInt .f64 (-(z : Int)))] rfl rfl (one_new _ _ _) (by intro u hu; simp at hu; subst hu; rfl) (by unfold maxLen; omega) (by omega) (by have := HC.out.2.size; simp; omega) ?_)
          intro v' w1 hown hgrow _
          have hC1 : Cr w0 w1 v' (acc ++ [p]) := cr_push HC.out (by rw [hp.2.2.1, hp.2.2.2]; exact hown) hgrow
          obtain ⟨g, cap, hv, hg, hrow⟩ := cr_shape hC1 (by simp)
          rw [List.length_append, List.length_singleton] at hv
          subst hv
          have HC1 := hide hC1
          have HR := hide hrow
          clear hown hgrow hC1 hrow
          go_wp2_with fail
          refine (byteAt_any s i _ (by unfold maxLen; omega) (by omega)).mono ?_
          rintro e w' ⟨rfl, rfl⟩
          rw [Int.toNat_natCast]
          go_wp2_with fail
          go_step3
          obtain ⟨m, rfl⟩ : ∃ k, m = k + 1 := ⟨m - 1, by omega⟩
          refine jj0 (acc := acc ++ [p]) (m := m) (i := i + 1) (z := z) Fr.mk (by omega) rfl HC1.out (by simp; omega) (by omega) hr1 hr2 hz9 (by rw [Hn.out]; omega) ?_
          rw [← HK.out, kp_next H1.out H32.out hm0, HY.out, ← xy_push]
          rfl
      · have g4 : ((bAt s i : Int) != 32) = true := by simp; omega
        have H32 := hide h32
        clear h32
        go_wp2_with (at_builtin; refine wpList_append_own _ rfl _ _ 58 rfl w0.heap.size 70 i0 (.complex .f64 0 0) 1 16 Try.underlying58 hi0 hz0 hz1 hz2 rfl (by decide) v acc.length (acc.map cval) rfl (HC.out.1.alloc _) ⟨w.heap.size, 0, none⟩ 1 1 [.complex .f64 (floatOfInt .f64 rt) (floatOfInt .f64 (-(z : Int)))] rfl rfl (one_new _ _ _) (by intro u hu; simp at hu; subst hu; rfl) (by unfold maxLen; omega) (by omega) (by have := HC.out.2.size; simp; omega) ?_)
        intro v' w1 hown hgrow _
        have hC1 : Cr w0 w1 v' (acc ++ [p]) := cr_push HC.out (by rw [hp.2.2.1, hp.2.2.2]; exact hown) hgrow
        obtain ⟨g, cap, hv, hg, hrow⟩ := cr_shape hC1 (by simp)
        rw [List.length_append, List.length_singleton] at hv
        subst hv
        have HC1 := hide hC1
        have HR := hide hrow
        clear hown hgrow hC1 hrow
        go_wp2_with fail
        refine (byteAt_any s i _ (by unfold maxLen; omega) (by omega)).mono ?_
        rintro e w' ⟨rfl, rfl⟩
        rw [Int.toNat_natCast]
        go_wp2_with fail
        go_step3
        refine jj2 (acc := acc ++ [p]) (i := i) (z := z) Fr.mk rfl rfl HC1.out hi hr1 hr2 hz9 (by rw [Hn.out]; omega) ?_
        rw [← HK.out, kp_bad (fun h => H1.out h.1) (.inl H32.out)]

end Go.Proofs.Ytlicmfhgjonmnaa
