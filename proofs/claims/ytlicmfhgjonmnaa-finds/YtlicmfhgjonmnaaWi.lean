/- The scanner whole, and what the program's Check answers. Own work. -/
import Derived.Test.YtlicmfhgjonmnaaWh
namespace Go.Proofs.Ytlicmfhgjonmnaa
open Go.RowKit
set_option linter.unusedVariables false

theorem jj0d {s : ByteArray} {w0 w : World} {R : Nat ⊕ List (Int × Int)} {v : Value} {i : Nat} {at_ sg sz : Int} {z : Nat} {dg rt : Int} {sc : Bool} {acc : List CP} {m : Nat} {a : Act}
    (hF : Fr s v at_ sg sz dg rt sc a) (ha : at_ = i) (hz : sz = z) (hC : Cr w0 w v acc) (hm : m + acc.length + 1 = 16) (hi : i ≤ s.size) (hr1 : -999 ≤ rt) (hr2 : rt ≤ 999) (hz9 : z ≤ 999)
    (hK : KK s m acc rt sc (rdNum s i) = R) : JJ s w0 R 0 (4 * (s.size + 1 - i) + 3) a w := by
  subst ha hz
  exact ⟨v, i, sg, z, dg, rt, sc, acc, m, hF, hC, fun _ => hm, hi, hr1, hr2, hz9, .inl ⟨rfl, rfl, hK⟩⟩

theorem pass0' (s : ByteArray) (w0 : World) (R : Nat ⊕ List (Int × Int)) (hs : s.size ≤ 160) (Q : Exit → Act → World → Prop) (n : Nat) (a : Act) (w : World) (x : Code) (hx : findLabel (scopeIn Try.f42.body) 0 = some (.seq .skip x)) (h : JJ s w0 R 0 n a w) :
    x.wp Try.prog (jumps (fun l' a' w' => ∃ n', n' < n ∧ JJ s w0 R l' n' a' w') Q) a w := by
  obtain ⟨y, hy, hw⟩ := pass0 s w0 R hs Q n a w h
  rw [hx] at hy
  injection hy with hy
  injection hy with _ hy
  rw [hy]
  exact hw

set_option maxRecDepth 100000 in
set_option maxHeartbeats 1000000 in
theorem readCorners_any (s : ByteArray) (w : World) (hs : s.size ≤ 160) :
    Calls Try.prog 42 #[.string s] w fun e w' => ∃ v2 v3, e = .returned (.tuple #[v2, v3]) ∧ RCpost s w v2 v3 w' := by
  have hq : ∀ v2 v3 a w', FrR v2 v3 a → RCpost s w v2 v3 w' → bodyPost Try.prog Try.f42 (fun e w' => ∃ v2 v3, e = .returned (.tuple #[v2, v3]) ∧ RCpost s w v2 v3 w') .ret a w' := by
    rintro v2 v3 a w' ⟨u, rfl⟩ hp
    have HP := hide hp
    clear hp
    go_ret2
    exact ⟨_, _, rfl, HP.out⟩
  have HQ := hide hq
  clear hq
  go_enter Try.func42, Try.ntmps42
  go_wp2
  refine wp_scope_many (JJ s w (rdAll s 16 0 [])) ?_ ?_
  · have hC : Cr w w (.slice none 0 0) [] := ⟨World.ownsRow_nil _ _ _ _, Below.refl _ _⟩
    have HC := hide hC
    clear hC
    go_wp2_with fail
    go_step3
    rename_i hk
    refine hk _ _ ?_
    refine wp_mono (pass0' s w (rdAll s 16 0 []) hs _ _ _ w _ rfl (jj0d (acc := []) (m := 15) (i := 0) (z := 0) Fr.mk rfl rfl HC.out rfl (Nat.zero_le _) (by omega) (by omega) (by omega) rfl)) (jumps_mono ?_)
    rintro l a w ⟨n2, h2, h3⟩
    exact ⟨n2, h3⟩
  · intro n l a w1 h
    have hl : l = 0 ∨ l = 1 ∨ l = 3 ∨ l = 2 := by
      obtain ⟨_, _, _, _, _, _, _, _, _, _, _, _, _, _, _, _, h⟩ := h
      rcases h with h | h | h | h
      · exact .inl h.1
      · exact .inr (.inl h.1)
      · exact .inr (.inr (.inl h.1))
      · exact .inr (.inr (.inr h.1))
    rcases hl with rfl | rfl | rfl | rfl
    · obtain ⟨x, hx, hw⟩ := pass0 s w _ hs _ n a w1 h
      exact ⟨_, hx, wp_seq (wp_skip hw)⟩
    · obtain ⟨x, hx, hw⟩ := pass1 s w _ hs _ n a w1 h
      exact ⟨_, hx, wp_seq (wp_skip hw)⟩
    · obtain ⟨x, hx, hw⟩ := pass3 s w hs _ HQ.out n a w1 h
      exact ⟨_, hx, wp_seq (wp_skip hw)⟩
    · obtain ⟨x, hx, hw⟩ := pass2 s w hs _ HQ.out _ n a w1 h
      exact ⟨_, hx, wp_seq (wp_skip hw)⟩

set_option maxHeartbeats 1000000 in
theorem readPolygon_long (s : ByteArray) (w : World) (hs : s.size ≤ maxLen) (h : 160 < s.size) :
    Calls Try.prog 27 #[.string s] w fun e w' => e = .returned (.tuple #[.agg #[.slice none 0 0], .int .i64 1, .int .i64 0]) ∧ Below w.heap.size w w' := by
  unfold maxLen at hs
  have g : (160 : Int) < (s.size : Int) := by omega
  go_enter Try.func27, Try.ntmps27
  go_wp2_with fail
  refine bodyPost_ret (v := .tuple #[.agg #[.slice none 0 0], .int .i64 1, .int .i64 0]) (by simp [results, Try.results27, go_sem]) rfl ⟨rfl, ?_⟩
  exact (Below.refl _ _).alloc (Nat.le_refl _) _

set_option maxHeartbeats 1000000 in
theorem readPolygon_text (s : ByteArray) (w : World) (hs : s.size ≤ 160) (p : Nat) (h : rdAll s 16 0 [] = .inl p) :
    Calls Try.prog 27 #[.string s] w fun e w' => e = .returned (.tuple #[.agg #[.slice none 0 0], .int .i64 2, .int .i64 p]) ∧ Below w.heap.size w w' := by
  have g : ¬ (160 : Int) < (s.size : Int) := by omega
  have H := hide h
  clear h
  go_enter Try.func27, Try.ntmps27
  go_wp2_with fail
  refine (readCorners_any s _ hs).mono ?_
  rintro e w1 ⟨v2, v3, rfl, hb, hr⟩
  rw [H.out] at hr
  obtain ⟨rfl, rfl, hp⟩ := hr
  have g2 : ((p : Int) != -1) = true := by rw [bne_iff_ne]; omega
  obtain ⟨hc, hf⟩ := bcell hb
  have Hb := hide hb
  clear hb
  go_wp2_with fail
  refine bodyPost_ret (v := .tuple #[.agg #[.slice none 0 0], .int .i64 2, .int .i64 p]) (by simp [results, Try.results27, go_sem, hc]) rfl ⟨rfl, ?_⟩
  exact (below_one Hb.out).setCell (Nat.le_refl _) _

set_option maxHeartbeats 1000000 in
theorem readPolygon_meet (s : ByteArray) (w : World) (hs : s.size ≤ 160) (l : List (Int × Int)) (h : rdAll s 16 0 [] = .inr l) :
    Calls Try.prog 27 #[.string s] w fun e w' => ∃ ps : List CP, xy ps = l ∧ Below w.heap.size w w' ∧
      (firstI (clashRow ps) ps.length ≠ -1 → e = .returned (.tuple #[.agg #[.slice none 0 0], .int .i64 3, .int .i64 (firstI (clashRow ps) ps.length)])) ∧
      (firstI (clashRow ps) ps.length = -1 → ∃ g cap, e = .returned (.tuple #[.agg #[.slice (some ⟨g, 0, none⟩) ps.length cap], .int .i64 0, .int .i64 0]) ∧ g < w'.heap.size ∧ RowC w' g ps) := by
  have g : ¬ (160 : Int) < (s.size : Int) := by omega
  have H := hide h
  clear h
  go_enter Try.func27, Try.ntmps27
  go_wp2_with fail
  refine (readCorners_any s _ hs).mono ?_
  rintro e w1 ⟨v2, v3, rfl, hb, hr⟩
  rw [H.out] at hr
  obtain ⟨gb, cap, ps, rfl, rfl, hxy, hgb0, hgb, hrow⟩ := hr
  have hne : gb ≠ w.heap.size := by simp at hgb0; omega
  have hlen : ps.length ≤ 16 := by
    have := rdAll_len s 16 0 [] l H.out (by simp)
    rw [← hxy, xy, List.length_map] at this
    exact this.2
  have g2 : ((-1 : Int) != -1) = false := by decide
  obtain ⟨hc, hf⟩ := bcell hb
  have hsz : w.heap.size + 1 ≤ w1.heap.size := by have := hb.size; simpa using this
  have Hb := hide hb
  have Hxy := hide hxy
  have Hrow := hide hrow
  clear hb hxy hrow
  have HF := hide (firstClash_any ps gb cap (w1.alloc (.cells #[.slice (some ⟨gb, 0, none⟩) ps.length cap] 60)) hlen (by simp; omega) (Hrow.out.alloc hgb _))
  go_wp2_with fail
  refine HF.out.mono ?_
  rintro e w2 ⟨rfl, hb2⟩
  have hsz2 : w1.heap.size + 1 ≤ w2.heap.size := by have := hb2.size; simpa using this
  have hc2 : w2.cell? ⟨w1.heap.size, 0, none⟩ = some (.slice (some ⟨gb, 0, none⟩) ps.length cap) := by
    rw [hb2.cell (p := ⟨w1.heap.size, 0, none⟩) (by simp)]; simp
  have hbW := below_next Hb.out (below_one hb2)
  have hc3 : w2.cell? ⟨w.heap.size, 0, none⟩ = some (.slice none 0 0) := by
    rw [hbW.cell (p := ⟨w.heap.size, 0, none⟩) (by simp)]; simp
  have hf3 : w2.frozen? ⟨w.heap.size, 0, none⟩ = false := by
    rw [hbW.frozen (p := ⟨w.heap.size, 0, none⟩) (by simp)]; simp
  clear hbW
  have Hb2 := hide hb2
  clear hb2 hc hf
  have Hall : Hid (Below w.heap.size w w2) := (below_one Hb.out).trans ((below_one Hb2.out).mono (by omega))
  have Hrow2 : Hid (RowC w2 gb ps) := (Hrow.out.below (below_one Hb2.out) hgb)
  generalize hF : firstI (clashRow ps) ps.length = F at *
  have HFe := hide hF
  clear hF
  by_cases hm : F = -1
  · have g3 : (F != -1) = false := by rw [hm]; decide
    have Hm := hide hm
    clear hm
    go_wp2_with fail
    refine bodyPost_ret (v := .tuple #[.agg #[.slice (some ⟨gb, 0, none⟩) ps.length cap], .int .i64 0, .int .i64 0]) (by simp [results, Try.results27, go_sem, hc3]) rfl ⟨ps, Hxy.out, Hall.out.setCell (Nat.le_refl _) _, ?_, ?_⟩
    · intro hn; rw [HFe.out] at hn; exact absurd Hm.out hn
    · intro _
      refine ⟨gb, cap, rfl, by simp [World.setCell]; omega, fun i hi => ?_⟩
      rw [World.cell?_of_block (w := w2) (a := ⟨gb, i, none⟩) (Below.heap_setCell w2 _ _ gb hne)]
      exact Hrow2.out i hi
  · have g3 : (F != -1) = true := by rw [bne_iff_ne]; exact hm
    have Hm := hide hm
    clear hm
    go_wp2_with fail
    refine bodyPost_ret (v := .tuple #[.agg #[.slice none 0 0], .int .i64 3, .int .i64 F]) (by simp [results, Try.results27, go_sem, hc3]) rfl ⟨ps, Hxy.out, Hall.out.setCell (Nat.le_refl _) _, ?_, ?_⟩
    · intro _; rw [HFe.out]
    · intro hn; rw [HFe.out] at hn; exact absurd hn Hm.out

set_option maxHeartbeats 1000000 in
theorem Check_long (s : ByteArray) (w : World) (hs : s.size ≤ maxLen) (h : 160 < s.size) :
    Calls Try.prog 10 #[.string s] w fun e w' => e = .returned (.tuple #[.int .i64 1, .int .i64 0]) ∧ Below w.heap.size w w' := by
  go_enter Try.func10, Try.ntmps10
  go_wp2_with fail
  refine (readPolygon_long s _ hs h).mono ?_
  rintro e w1 ⟨rfl, hb⟩
  have Hb := hide hb
  clear hb
  go_wp2_with fail
  go_ret2
  exact ⟨rfl, Hb.out.alloc Hb.out.size _⟩

set_option maxHeartbeats 1000000 in
theorem Check_text (s : ByteArray) (w : World) (hs : s.size ≤ 160) (p : Nat) (h : rdAll s 16 0 [] = .inl p) :
    Calls Try.prog 10 #[.string s] w fun e w' => e = .returned (.tuple #[.int .i64 2, .int .i64 p]) ∧ Below w.heap.size w w' := by
  have H := hide h
  clear h
  go_enter Try.func10, Try.ntmps10
  go_wp2_with fail
  refine (readPolygon_text s _ hs p H.out).mono ?_
  rintro e w1 ⟨rfl, hb⟩
  have Hb := hide hb
  clear hb
  go_wp2_with fail
  go_ret2
  exact ⟨rfl, Hb.out.alloc Hb.out.size _⟩

set_option maxHeartbeats 1000000 in
theorem Check_meet (s : ByteArray) (w : World) (hs : s.size ≤ 160) (l : List (Int × Int)) (h : rdAll s 16 0 [] = .inr l) :
    Calls Try.prog 10 #[.string s] w fun e w' => ∃ ps : List CP, xy ps = l ∧ Below w.heap.size w w' ∧
      (firstI (clashRow ps) ps.length ≠ -1 → e = .returned (.tuple #[.int .i64 3, .int .i64 (firstI (clashRow ps) ps.length)])) ∧
      (firstI (clashRow ps) ps.length = -1 → e = .returned (.tuple #[.int .i64 0, .int .i64 0])) := by
  have H := hide h
  clear h
  go_enter Try.func10, Try.ntmps10
  go_wp2_with fail
  refine (readPolygon_meet s _ hs l H.out).mono ?_
  rintro e w1 ⟨ps, hxy, hb, h1, h2⟩
  have Hb := hide hb
  have Hxy := hide hxy
  clear hb hxy
  generalize hF : firstI (clashRow ps) ps.length = F at *
  have HFe := hide hF
  clear hF
  by_cases hm : F = -1
  · obtain ⟨g, cap, rfl, hg, hrow⟩ := h2 hm
    have Hm := hide hm
    clear h1 h2 hm hrow
    go_wp2_with fail
    go_ret2
    exact ⟨ps, Hxy.out, Hb.out.alloc Hb.out.size _, fun hn => absurd (HFe.out.trans Hm.out) hn, fun _ => rfl⟩
  · obtain rfl := h1 hm
    have Hm := hide hm
    clear h1 h2 hm
    go_wp2_with fail
    go_ret2
    exact ⟨ps, Hxy.out, Hb.out.alloc Hb.out.size _, fun _ => by rw [HFe.out]; rfl, fun hn => absurd (HFe.out.symm.trans hn) Hm.out⟩

end Go.Proofs.Ytlicmfhgjonmnaa
