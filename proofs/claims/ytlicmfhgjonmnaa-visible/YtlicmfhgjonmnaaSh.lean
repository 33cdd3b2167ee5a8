/- The mesh of a polygon: its triangles in their order. Own work. (And what follows from it: Sg, Sh.) -/
import Derived.Test.YtlicmfhgjonmnaaSe
import Derived.Test.YtlicmfhgjonmnaaSf
namespace Go.Proofs.Ytlicmfhgjonmnaa

section
open Go.RowKit
set_option linter.unusedVariables false

def tAt (T : List (Nat × Nat × Nat)) (i : Nat) : Nat × Nat × Nat := T.getD i (0, 0, 0)

/-- The triangles' row, in block r. -/
def RowT (w : World) (r : Nat) (T : List (Nat × Nat × Nat)) : Prop := ∀ i, i < T.length →
  w.cell? ⟨r, i * 3, none⟩ = some (.int .i64 (tAt T i).1) ∧ w.cell? ⟨r, i * 3 + 1, none⟩ = some (.int .i64 (tAt T i).2.1) ∧ w.cell? ⟨r, i * 3 + 2, none⟩ = some (.int .i64 (tAt T i).2.2)

theorem RowT.below {w w' : World} {r : Nat} {T : List (Nat × Nat × Nat)} (h : RowT w r T) (hb : Below w.heap.size w w') (hlt : r < w.heap.size) : RowT w' r T := fun i hi => by
  obtain ⟨h1, h2, h3⟩ := h i hi
  exact ⟨by rw [hb.cell (p := ⟨r, i * 3, none⟩) hlt]; exact h1, by rw [hb.cell (p := ⟨r, i * 3 + 1, none⟩) hlt]; exact h2, by rw [hb.cell (p := ⟨r, i * 3 + 2, none⟩) hlt]; exact h3⟩

theorem flat3_get : ∀ (T : List (Nat × Nat × Nat)) (j : Nat), j < T.length * 3 → (flat3 T)[j]? = some ((encT (T.toArray[j / 3]!))[j % 3]!)
  | [], j, h => by simp at h
  | t :: T, 0, h => by simp [flat3, encT]
  | t :: T, 1, h => by simp [flat3, encT]
  | t :: T, 2, h => by simp [flat3, encT]
  | t :: T, j + 3, h => by
    have := flat3_get T j (by simp at h; omega)
    have e1 : (j + 3) / 3 = j / 3 + 1 := by omega
    have e2 : (j + 3) % 3 = j % 3 := by omega
    rw [e1, e2]
    simpa [flat3] using this

theorem holds_of_own {w : World} {base r c : Nat} {T : List (Nat × Nat × Nat)} {t : TypeId} (h : w.ownsRow base t 3 (.slice (some ⟨r, 0, none⟩) T.length c) T.length (flat3 T)) : Sort.HoldsK encT 3 w r 0 T.toArray := by
  intro j hj
  have hj' : j < T.length * 3 := by simpa using hj
  rw [Nat.zero_add]
  refine ⟨?_, h.frozenAt j⟩
  rw [h.cellAt j hj', flat3_get T j hj', Sort.get_flatK _ _ _ _ (by simpa using hj')]
  rfl

theorem row_of_holds {w : World} {r : Nat} {T : List (Nat × Nat × Nat)} (h : Sort.HoldsK encT 3 w r 0 T.toArray) : RowT w r T := by
  intro i hi
  have e : T.toArray[i]! = tAt T i := by
    unfold tAt
    rw [getElem!_pos T.toArray i (by simpa using hi)]
    simp [List.getD_eq_getElem?_getD, List.getElem?_eq_getElem hi]
  have h0 := (h.cell (i := i) (c := 0) (by simpa using hi) (by omega)).1
  have h1 := (h.cell (i := i) (c := 1) (by simpa using hi) (by omega)).1
  have h2 := (h.cell (i := i) (c := 2) (by simpa using hi) (by omega)).1
  rw [e, Nat.zero_add] at h0 h1 h2
  exact ⟨h0, h1, h2⟩

theorem sorted_below {w : World} {B r n : Nat} {D : Array (Nat × Nat × Nat)} {os : Array Obj} (hB : B ≤ r) (hs : B ≤ w.heap.size) : Below B w (sortWorldK encT 3 w r 0 n D os) := by
  refine ⟨rfl, rfl, rfl, ?_, fun k hk => ?_⟩
  · simp [sortWorldK, Sort.grow, Sort.putRowK, Sort.ahead]
  · have hsz : k < (Sort.putRowK encT 3 (Sort.ahead w n) r 0 D).heap.size := by simp [Sort.putRowK, Sort.ahead]; omega
    show ((Sort.putRowK encT 3 (Sort.ahead w n) r 0 D).heap ++ os)[k]? = w.heap[k]?
    rw [Array.getElem?_append_left hsz]
    unfold Sort.putRowK Sort.putRow Sort.mapBlock
    rw [Array.getElem?_modify]
    rw [if_neg (by omega)]
    rfl

/-- The triangles that are answered, in their order. -/
def cutT (l : List (Int × Int)) : List (Nat × Nat × Nat) := sortT (cutI l l.length 0 (l.length - 1))

theorem cutT_length {l : List (Int × Int)} (h : 3 ≤ l.length) : (cutT l).length = l.length - 2 := by
  unfold cutT
  rw [sortT_length, cut_len _ _ _ _ (by omega)]
  omega
end

section
open Go.RowKit
set_option linter.unusedVariables false

/-- The world in which the mesh is laid: the polygon's box, the answer's, the mesh's. -/
def meshW (w : World) (v : Value) : World := ((w.alloc (.cells #[v] 60)).alloc (.cells #[.slice none 0 0, .slice none 0 0] 74)).alloc (.cells #[v, .slice none 0 0] 74)

theorem mesh_start (ps : List CP) (b cap : Nat) (w : World) (hlt : b < w.heap.size) (hrow : RowC w b ps) :
    TriAt ps (w.heap.size + 2) b cap [] (.slice none 0 0) (meshW w (.slice (some ⟨b, 0, none⟩) ps.length cap)) ∧ Below w.heap.size w (meshW w (.slice (some ⟨b, 0, none⟩) ps.length cap)) ∧ (meshW w (.slice (some ⟨b, 0, none⟩) ps.length cap)).heap.size = w.heap.size + 3 := by
  have hb := below3 w (.cells #[.slice (some ⟨b, 0, none⟩) ps.length cap] 60) (.cells #[.slice none 0 0, .slice none 0 0] 74) (.cells #[.slice (some ⟨b, 0, none⟩) ps.length cap, .slice none 0 0] 74)
  have hs : (meshW w (.slice (some ⟨b, 0, none⟩) ps.length cap)).heap.size = w.heap.size + 3 := by simp [meshW]
  refine ⟨⟨⟨by omega, by omega, hrow.below hb hlt, ?_⟩, by omega, ?_, ?_, World.ownsRow_nil _ _ _ _⟩, hb, hs⟩
  · unfold meshW; rw [cell_last _ _ _ _ _ (by simp)]; rfl
  · unfold meshW; rw [cell_last _ _ _ _ _ (by simp)]; rfl
  · unfold meshW; rw [frozen_last _ _ _ _ _ (by simp)]

/-- What stands behind the sort. -/
structure MeshEnd (ps : List CP) (b cap : Nat) (w : World) (r c : Nat) (w' : World) : Prop where
  low : Below w.heap.size w w'
  size : w.heap.size + 3 ≤ w'.heap.size
  a0 : w'.cell? ⟨w.heap.size + 1, 0, none⟩ = some (.slice none 0 0)
  a1 : w'.cell? ⟨w.heap.size + 1, 1, none⟩ = some (.slice none 0 0)
  z0 : w'.frozen? ⟨w.heap.size + 1, 0, none⟩ = false
  z1 : w'.frozen? ⟨w.heap.size + 1, 1, none⟩ = false
  m0 : w'.cell? ⟨w.heap.size + 2, 0, none⟩ = some (.slice (some ⟨b, 0, none⟩) ps.length cap)
  m1 : w'.cell? ⟨w.heap.size + 2, 1, none⟩ = some (.slice (some ⟨r, 0, none⟩) (ps.length - 2) c)
  rlt : r < w'.heap.size
  rge : w.heap.size + 3 ≤ r
  row : RowT w' r (cutT (xy ps))

theorem mesh_end {ps : List CP} {b cap : Nat} {w w1 : World} {v : Value} (h3 : 3 ≤ ps.length) (hlt : b < w.heap.size) (hb1 : Below (w.heap.size + 2) (meshW w (.slice (some ⟨b, 0, none⟩) ps.length cap)) w1)
    (hA : TriAt ps (w.heap.size + 2) b cap ([] ++ cutI (xy ps) ps.length 0 (ps.length - 1)) v w1) :
    ∃ r c, v = .slice (some ⟨r, 0, none⟩) (ps.length - 2) c ∧ (ps.length - 2 = (cutI (xy ps) ps.length 0 (ps.length - 1)).length) ∧ Sort.HoldsK encT 3 w1 r 0 (cutI (xy ps) ps.length 0 (ps.length - 1)).toArray ∧ r < w1.heap.size ∧
      ∀ n os, MeshEnd ps b cap w r c (sortWorldK encT 3 w1 r 0 n (sortT (cutI (xy ps) ps.length 0 (ps.length - 1))).toArray os) := by
  rw [List.nil_append] at hA
  have hlen : (cutI (xy ps) ps.length 0 (ps.length - 1)).length = ps.length - 2 := by rw [cut_len _ _ _ _ (by omega)]; omega
  have hown := hA.own
  rcases hown.2 with ⟨_, h0⟩ | ⟨r, c, cur, hv, hr, hh, hcap⟩
  · omega
  · subst hv
    have hrl := lt_of_block hh
    have hH := holds_of_own hown
    refine ⟨r, c, by rw [hlen], hlen.symm, hH, hrl, fun n os => ?_⟩
    have hm1 : w.heap.size + 3 ≤ w1.heap.size := hA.mesh.lt
    have hS : Below (w.heap.size + 3) w1 (sortWorldK encT 3 w1 r 0 n (sortT (cutI (xy ps) ps.length 0 (ps.length - 1))).toArray os) := sorted_below (by omega) hm1
    have hW0 : Below w.heap.size w (meshW w (.slice (some ⟨b, 0, none⟩) ps.length cap)) := below3 w _ _ _
    have hall : Below (w.heap.size + 2) (meshW w (.slice (some ⟨b, 0, none⟩) ps.length cap)) (sortWorldK encT 3 w1 r 0 n (sortT (cutI (xy ps) ps.length 0 (ps.length - 1))).toArray os) := hb1.trans (hS.mono (by omega))
    refine ⟨hW0.trans (hall.mono (by omega)), Nat.le_trans hm1 hS.size, ?_, ?_, ?_, ?_, ?_, ?_, Nat.lt_of_lt_of_le hrl hS.size, hr, ?_⟩
    · rw [hall.cell (p := ⟨w.heap.size + 1, 0, none⟩) (by show w.heap.size + 1 < _; omega)]
      unfold meshW; rw [cell_under _ _ _ (by simp), cell_last _ _ _ _ _ (by simp)]; rfl
    · rw [hall.cell (p := ⟨w.heap.size + 1, 1, none⟩) (by show w.heap.size + 1 < _; omega)]
      unfold meshW; rw [cell_under _ _ _ (by simp), cell_last _ _ _ _ _ (by simp)]; rfl
    · rw [hall.frozen (p := ⟨w.heap.size + 1, 0, none⟩) (by show w.heap.size + 1 < _; omega)]
      unfold meshW; rw [frozen_under _ _ _ (by simp), frozen_last _ _ _ _ _ (by simp)]
    · rw [hall.frozen (p := ⟨w.heap.size + 1, 1, none⟩) (by show w.heap.size + 1 < _; omega)]
      unfold meshW; rw [frozen_under _ _ _ (by simp), frozen_last _ _ _ _ _ (by simp)]
    · rw [hS.cell (p := ⟨w.heap.size + 2, 0, none⟩) (by show w.heap.size + 2 < _; omega)]; exact hA.mesh.corners
    · rw [hS.cell (p := ⟨w.heap.size + 2, 1, none⟩) (by show w.heap.size + 2 < _; omega)]
      have := hA.tri
      rw [hlen] at this
      exact this
    · have e : cutT (xy ps) = sortT (cutI (xy ps) ps.length 0 (ps.length - 1)) := by unfold cutT; rw [xy_length]
      rw [e]
      refine row_of_holds ?_
      refine Sort.holdsK_grow encT 3 _ os r 0 _ (by simp [Sort.putRowK, Sort.ahead]; exact hrl) ?_
      exact Sort.holdsK_putRowK encT 3 _ r 0 (cutI (xy ps) ps.length 0 (ps.length - 1)).toArray _ (Sort.holdsK_ahead encT 3 w1 n r 0 _ hH) (by simp [sortT_length])

set_option maxRecDepth 100000 in
set_option maxHeartbeats 4000000 in
theorem meshOf_any (ps : List CP) (b cap : Nat) (w : World) (h3 : 3 ≤ ps.length) (hn : ps.length ≤ 16) (hlt : b < w.heap.size) (hrow : RowC w b ps) :
    Calls Try.prog 35 #[.agg #[.slice (some ⟨b, 0, none⟩) ps.length cap]] w fun e w' => Below w.heap.size w w' ∧ ∃ r c, e = .returned (.agg #[.slice (some ⟨b, 0, none⟩) ps.length cap, .slice (some ⟨r, 0, none⟩) (ps.length - 2) c]) ∧ r < w'.heap.size ∧ w.heap.size ≤ r ∧ RowT w' r (cutT (xy ps)) := by
  obtain ⟨hA0, hb0, hs0⟩ := mesh_start ps b cap w hlt hrow
  have HC := hide (cutBehind_any ps (w.heap.size + 2) b cap hn ps.length 0 (ps.length - 1) [] _ _ (by omega) (by omega) (by omega) (by simp; omega) hA0)
  have hl1 : ((ps.length - 1 : Nat) : Int) = (ps.length : Int) - 1 := by omega
  have hl2 : (0 : Int) ≤ (ps.length : Int) - 1 := by omega
  have hl3 : (ps.length : Int) - 1 < 16 := by omega
  rw [hl1] at HC
  have HA0 := hide hA0
  clear hA0
  unfold meshW at HC
  go_enter Try.func35, Try.ntmps35
  go_wp2_with fail
  refine HC.out.mono ?_
  rintro r w1 ⟨rfl, hb1, v, hA⟩
  obtain ⟨r, c, rfl, hlen, hH, hrl, hend⟩ := mesh_end h3 hlt hb1 hA
  have tri1 := hA.tri
  have HS := hide (sort_any (cutI (xy ps) ps.length 0 (ps.length - 1)) r c w1 hH hrl (by omega))
  rw [← hlen] at HS
  have HE := hide hend
  clear hA hb1 hH hend hlen HC
  go_wp2_with fail
  refine HS.out.mono ?_
  rintro e w2 ⟨rfl, n, os, rfl⟩
  have hE := HE.out n os
  generalize sortWorldK encT 3 w1 r 0 n (sortT (cutI (xy ps) ps.length 0 (ps.length - 1))).toArray os = w2 at *
  obtain ⟨low, hsz, a0, a1, z0, z1, m0, m1, rlt, rge, row⟩ := hE
  have Hlow := hide low
  have Hrow2 := hide row
  clear HS HE low row
  go_wp2_with fail
  refine bodyPost_ret (v := .agg #[.slice (some ⟨b, 0, none⟩) ps.length cap, .slice (some ⟨r, 0, none⟩) (ps.length - 2) c]) (by simp [results, Try.results35, go_sem, a0, a1]) rfl ?_
  refine ⟨(Hlow.out.setCell (by show w.heap.size ≤ w.heap.size + 1; omega) _).setCell (by show w.heap.size ≤ w.heap.size + 1; omega) _, r, c, rfl, by simpa using rlt, by omega, fun i hi => ?_⟩
  have hne : r ≠ w.heap.size + 1 := by omega
  obtain ⟨h1, h2, h3⟩ := Hrow2.out i hi
  refine ⟨?_, ?_, ?_⟩
  · rw [cell_set2 hne]; exact h1
  · rw [cell_set2 hne]; exact h2
  · rw [cell_set2 hne]; exact h3

/-- Every call begins so. -/
theorem len3 {s : ByteArray} {l : List (Int × Int)} (h : rdAll s 16 0 [] = .inr l) : 3 ≤ l.length ∧ l.length ≤ 16 := rdAll_len s 16 0 [] l h (by simp)

set_option maxHeartbeats 1000000 in
theorem Cut_long (s : ByteArray) (w : World) (hs : s.size ≤ maxLen) (h : 160 < s.size) :
    Calls Try.prog 17 #[.string s] w fun e w' => e = .returned (.tuple #[.slice none 0 0, .int .i64 1, .int .i64 0]) ∧ Below w.heap.size w w' := by
  go_enter Try.func17, Try.ntmps17
  go_wp2_with fail
  refine (readPolygon_long s _ hs h).mono ?_
  rintro e w1 ⟨rfl, hb⟩
  have Hb := hide hb
  clear hb
  go_wp2_with fail
  go_ret3
  exact ⟨rfl, Hb.out.alloc Hb.out.size _⟩

set_option maxHeartbeats 1000000 in
theorem Cut_text (s : ByteArray) (w : World) (hs : s.size ≤ 160) (p : Nat) (h : rdAll s 16 0 [] = .inl p) :
    Calls Try.prog 17 #[.string s] w fun e w' => e = .returned (.tuple #[.slice none 0 0, .int .i64 2, .int .i64 p]) ∧ Below w.heap.size w w' := by
  have H := hide h
  clear h
  go_enter Try.func17, Try.ntmps17
  go_wp2_with fail
  refine (readPolygon_text s _ hs p H.out).mono ?_
  rintro e w1 ⟨rfl, hb⟩
  have Hb := hide hb
  clear hb
  go_wp2_with fail
  go_ret3
  exact ⟨rfl, Hb.out.alloc Hb.out.size _⟩

set_option maxHeartbeats 2000000 in
theorem Cut_meet (s : ByteArray) (w : World) (hs : s.size ≤ 160) (l : List (Int × Int)) (h : rdAll s 16 0 [] = .inr l) :
    Calls Try.prog 17 #[.string s] w fun e w' => ∃ ps : List CP, xy ps = l ∧ Below w.heap.size w w' ∧
      (firstI (clashRow ps) ps.length ≠ -1 → e = .returned (.tuple #[.slice none 0 0, .int .i64 3, .int .i64 (firstI (clashRow ps) ps.length)])) ∧
      (firstI (clashRow ps) ps.length = -1 → ∃ r c, e = .returned (.tuple #[.slice (some ⟨r, 0, none⟩) (l.length - 2) c, .int .i64 0, .int .i64 0]) ∧ r < w'.heap.size ∧ RowT w' r (cutT l)) := by
  have hlen := len3 h
  have H := hide h
  clear h
  go_enter Try.func17, Try.ntmps17
  go_wp2_with fail
  refine (readPolygon_meet s _ hs l H.out).mono ?_
  rintro e w1 ⟨ps, hxy, hb, h1, h2⟩
  have hle : l.length = ps.length := by rw [← hxy, xy_length]
  have Hb := hide hb
  have Hxy := hide hxy
  clear hb hxy
  generalize hF : firstI (clashRow ps) ps.length = F at *
  have HFe := hide hF
  clear hF
  by_cases hm : F = -1
  · obtain ⟨g, cap, rfl, hg, hrow⟩ := h2 hm
    have Hm := hide hm
    have HM := hide (fun W (hb : Below w1.heap.size w1 W) => meshOf_any ps g cap W (by omega) (by omega) (Nat.lt_of_lt_of_le hg hb.size) (hrow.below hb hg))
    clear h1 h2 hm hrow
    go_wp2_with fail
    refine (HM.out _ (below_al _ _)).mono ?_
    rintro e w2 ⟨hb2, r, c, rfl, hr, hr0, hrow2⟩
    have Hall := hide (below_next Hb.out (below_one hb2))
    have Hrow2 := hide hrow2
    clear hb2 hrow2 HM
    go_wp2_with fail
    refine bodyPost_ret (v := .tuple #[.slice (some ⟨r, 0, none⟩) (ps.length - 2) c, .int .i64 0, .int .i64 0]) (by simp [results, Try.results17, go_sem]) rfl ?_
    refine ⟨ps, Hxy.out, Hall.out.alloc Hall.out.size _, fun hn => absurd (HFe.out.trans Hm.out) hn, fun _ => ⟨r, c, by rw [hle], by simp; omega, ?_⟩⟩
    have e : cutT l = cutT (xy ps) := by rw [Hxy.out]
    rw [e]
    exact Hrow2.out.below (below_al _ _) hr
  · obtain rfl := h1 hm
    have Hm := hide hm
    clear h1 h2 hm
    go_wp2_with fail
    refine bodyPost_ret (v := .tuple #[.slice none 0 0, .int .i64 3, .int .i64 F]) (by simp [results, Try.results17, go_sem]) rfl ?_
    exact ⟨ps, Hxy.out, Hb.out.alloc Hb.out.size _, fun _ => by rw [HFe.out], fun hn => absurd (HFe.out.symm.trans hn) Hm.out⟩
end

end Go.Proofs.Ytlicmfhgjonmnaa
