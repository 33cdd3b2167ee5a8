/- In which triangle a point lies: the look at one triangle, the first that holds it. Own work. (And what follows from it: Sj, Sk, Sl.) -/
import Derived.Test.YtlicmfhgjonmnaaSi
namespace Go.Proofs.Ytlicmfhgjonmnaa

section
open Go.RowKit
set_option linter.unusedVariables false

attribute [local go_sem ↓] Go.wp_at_zero Go.wp_at_succ

set_option maxRecDepth 100000 in
set_option maxHeartbeats 4000000 in
theorem hold1_any (ps : List CP) (p : CP) (m b cap pm pp i j k : Nat) (w : World) (hn : ps.length ≤ 16) (hi : i < ps.length) (hj : j < ps.length) (hk : k < ps.length) (hm : MeshAt w m b cap ps)
    (cm : w.cell? ⟨pm, 0, none⟩ = some (.pointer (some ⟨m, 0, none⟩))) (cp : w.cell? ⟨pp, 0, none⟩ = some (.complex .f64 p.re p.im)) :
    Calls Try.prog 58 #[.agg #[.int .i64 i, .int .i64 j, .int .i64 k], .pointer (some ⟨pm, 0, none⟩), .pointer (some ⟨pp, 0, none⟩)] w fun r w' =>
      r = .returned (.bool (holdB ps p (i, j, k))) ∧ Below w.heap.size w w' := by
  have HO := hide (fun W (hb : Below w.heap.size w W) => outlineOf_any ps m b cap i j k W hn hi hj hk (hm.below hb))
  have HP : Hid (∀ (q : Nat) (W : World), q < W.heap.size → RowC W q [ptAt ps i, ptAt ps j, ptAt ps k] → Calls Try.prog 32 #[.agg #[.slice (some ⟨q, 0, none⟩) 3 3], .complex .f64 p.re p.im] W fun r w' =>
      r = .returned (.agg #[.int .i64 (spotI [ptAt ps i, ptAt ps j, ptAt ps k] p).1, .int .i64 (spotI [ptAt ps i, ptAt ps j, ptAt ps k] p).2]) ∧ Below W.heap.size W w') :=
    fun q W hq hr => spotOf_any [ptAt ps i, ptAt ps j, ptAt ps k] p q 3 W (by simp) hq hr
  unfold holdB three
  simp only
  generalize (spotI [ptAt ps i, ptAt ps j, ptAt ps k] p).1 = S at *
  generalize (spotI [ptAt ps i, ptAt ps j, ptAt ps k] p).2 = S2 at *
  generalize [ptAt ps i, ptAt ps j, ptAt ps k] = L3 at *
  have hfd : ∀ w : World, (Instr.field 68 (.agg #[.int .i64 S, .int .i64 S2]) 0).run Try.prog w = .ok (.int .i64 S) w := fun _ => by kernel_rfl
  have hpm := World.block_lt_of_cell? w _ cm
  have hpp := World.block_lt_of_cell? w _ cp
  simp only at hpm hpp
  clear hm
  have hW : Below w.heap.size w (w.alloc (.cells #[.int .i64 (i : Int), .int .i64 (j : Int), .int .i64 (k : Int)] 48)) := below_al' _ _
  have t0 : ∀ x, (w.alloc (.cells #[.int .i64 (i : Int), .int .i64 (j : Int), .int .i64 (k : Int)] 48)).cell? ⟨w.heap.size, x, none⟩ = #[.int .i64 (i : Int), .int .i64 (j : Int), .int .i64 (k : Int)][x]? := fun x => cell_last _ _ _ _ _ rfl
  have hsz : (w.alloc (.cells #[.int .i64 (i : Int), .int .i64 (j : Int), .int .i64 (k : Int)] 48)).heap.size = w.heap.size + 1 := by simp
  go_enter Try.func58, Try.ntmps58
  go_wp2_with fail
  generalize w.alloc (.cells #[.int .i64 (i : Int), .int .i64 (j : Int), .int .i64 (k : Int)] 48) = W2 at *
  have t1 : W2.cell? ⟨w.heap.size, 0, none⟩ = some (.int .i64 (i : Int)) := t0 0
  have t2 : W2.cell? ⟨w.heap.size, 1, none⟩ = some (.int .i64 (j : Int)) := t0 1
  have t3 : W2.cell? ⟨w.heap.size, 2, none⟩ = some (.int .i64 (k : Int)) := t0 2
  have e0 : W2.cell? ⟨pm, 0, none⟩ = some (.pointer (some ⟨m, 0, none⟩)) := by rw [hW.cell (p := ⟨pm, 0, none⟩) hpm]; exact cm
  have e1 : W2.cell? ⟨pp, 0, none⟩ = some (.complex .f64 p.re p.im) := by rw [hW.cell (p := ⟨pp, 0, none⟩) hpp]; exact cp
  have HW := hide hW
  clear t0 hW cm cp
  go_region_held3 (fun w' => w'.cell? ⟨pm, 0, none⟩ = some (.pointer (some ⟨m, 0, none⟩)) ∧ w'.cell? ⟨w.heap.size, 0, none⟩ = some (.int .i64 (i : Int)) ∧ w'.cell? ⟨w.heap.size, 1, none⟩ = some (.int .i64 (j : Int)) ∧ w'.cell? ⟨w.heap.size, 2, none⟩ = some (.int .i64 (k : Int)) ∧ w'.cell? ⟨pp, 0, none⟩ = some (.complex .f64 p.re p.im))
    (first | go_keep | (exact ⟨f0, f1, f2, f3, f4⟩) | (exact ⟨h0, h1, h2, h3, h4⟩))
    (first
      | (go_at_call 59; refine (HO.out _ (by (repeat (first | exact HW.out | refine Below.drew ?_)))).mono ?_; rintro e w3 ⟨hb3, q, rfl, hq, hq0, hrow3⟩
         have hb3' : Below W2.heap.size W2 w3 := by first | exact hb3 | exact below_next (below_dr _) hb3
         have f0 : w3.cell? ⟨pm, 0, none⟩ = some (.pointer (some ⟨m, 0, none⟩)) := by rw [hb3'.cell (p := ⟨pm, 0, none⟩) (by show pm < _; omega)]; exact e0
         have f1 : w3.cell? ⟨w.heap.size, 0, none⟩ = some (.int .i64 (i : Int)) := by rw [hb3'.cell (p := ⟨w.heap.size, 0, none⟩) (by show w.heap.size < _; omega)]; exact t1
         have f2 : w3.cell? ⟨w.heap.size, 1, none⟩ = some (.int .i64 (j : Int)) := by rw [hb3'.cell (p := ⟨w.heap.size, 1, none⟩) (by show w.heap.size < _; omega)]; exact t2
         have f3 : w3.cell? ⟨w.heap.size, 2, none⟩ = some (.int .i64 (k : Int)) := by rw [hb3'.cell (p := ⟨w.heap.size, 2, none⟩) (by show w.heap.size < _; omega)]; exact t3
         have f4 : w3.cell? ⟨pp, 0, none⟩ = some (.complex .f64 p.re p.im) := by rw [hb3'.cell (p := ⟨pp, 0, none⟩) (by show pp < _; omega)]; exact e1
         have s3 : w.heap.size + 1 ≤ w3.heap.size := by have := hb3'.size; omega
         have H3 := hide (below_next HW.out hb3')
         have Hrow3 := hide hrow3
         clear hb3 hb3' hrow3)
      | (go_at_call 32; refine (HP.out q _ hq Hrow3.out).mono ?_; rintro e w4 ⟨rfl, hb4⟩
         have hb4' : Below w3.heap.size w3 w4 := by first | exact hb4 | exact below_next (below_dr _) hb4
         have h0 : w4.cell? ⟨pm, 0, none⟩ = some (.pointer (some ⟨m, 0, none⟩)) := by rw [hb4'.cell (p := ⟨pm, 0, none⟩) (by show pm < _; omega)]; exact f0
         have h1 : w4.cell? ⟨w.heap.size, 0, none⟩ = some (.int .i64 (i : Int)) := by rw [hb4'.cell (p := ⟨w.heap.size, 0, none⟩) (by show w.heap.size < _; omega)]; exact f1
         have h2 : w4.cell? ⟨w.heap.size, 1, none⟩ = some (.int .i64 (j : Int)) := by rw [hb4'.cell (p := ⟨w.heap.size, 1, none⟩) (by show w.heap.size < _; omega)]; exact f2
         have h3 : w4.cell? ⟨w.heap.size, 2, none⟩ = some (.int .i64 (k : Int)) := by rw [hb4'.cell (p := ⟨w.heap.size, 2, none⟩) (by show w.heap.size < _; omega)]; exact f3
         have h4 : w4.cell? ⟨pp, 0, none⟩ = some (.complex .f64 p.re p.im) := by rw [hb4'.cell (p := ⟨pp, 0, none⟩) (by show pp < _; omega)]; exact f4
         have H4 := hide (below_next H3.out hb4')
         clear hb4 hb4'))
  all_goals (
    go_wp2_with fail
    go_ret
    exact ⟨rfl, by (repeat (first | exact H4.out | refine Below.drew ?_))⟩)
end

section
open Go.RowKit
set_option linter.unusedVariables false

/-- Numbers of three corners. -/
abbrev TI (n : Nat) := { t : Nat × Nat × Nat // t.1 < n ∧ t.2.1 < n ∧ t.2.2 < n }

theorem idx_first {α : Type} [Inhabited α] (q : α → Bool) (zs : List α) (x : α) : Lib.idxBy (fun _ y => q y) zs x = firstI (fun i => q zs[i]!) zs.length := by
  have miss : ∀ (zs : List α) (i : Nat), (∀ j, j < zs.length → q zs[j]! = false) → Lib.idxByFrom (fun _ y => q y) x zs i = -1 := by
    intro zs
    induction zs with
    | nil => intro i _; rfl
    | cons z zs ih =>
      intro i h
      have h0 : q z = false := by simpa using h 0 (by simp)
      simp only [Lib.idxByFrom, h0, Bool.false_eq_true, if_false]
      exact ih (i + 1) fun j hj => by simpa using h (j + 1) (by simpa using hj)
  unfold Lib.idxBy
  rcases firstI_cases (fun i => q zs[i]!) zs.length with ⟨h1, h2⟩ | ⟨k, hk, h1, h2, h3⟩
  · rw [h1]; exact miss zs 0 h2
  · rw [h1, Lib.idxByFrom_hit (fun _ y => q y) x zs k 0 hk h2 h3]; simp

theorem attach_get {n : Nat} {T : List (Nat × Nat × Nat)} (hT : ∀ t ∈ T, t.1 < n ∧ t.2.1 < n ∧ t.2.2 < n) [Inhabited (TI n)] {j : Nat} (hj : j < T.length) : ((T.attachWith (fun t => t.1 < n ∧ t.2.1 < n ∧ t.2.2 < n) hT)[j]!).1 = tAt T j := by
  rw [getElem!_pos _ j (by simpa using hj)]
  unfold tAt
  simp [List.getD_eq_getElem?_getD, List.getElem?_eq_getElem hj]

theorem ent_hold (args : Array Value) (w : World) : (callFunc 58 args).run Try.prog w = .ok (.enter 58 args) w := enters_of Try.func58 (by kernel_rfl) rfl args w

theorem index_any (ps : List CP) (p : CP) (m b cap pm pp r c : Nat) (T : List (Nat × Nat × Nat)) (w : World) (hn : ps.length ≤ 16) (h1 : 0 < ps.length) (hT : ∀ t ∈ T, t.1 < ps.length ∧ t.2.1 < ps.length ∧ t.2.2 < ps.length) (hl : T.length ≤ 16)
    (hm : MeshAt w m b cap ps) (cm : w.cell? ⟨pm, 0, none⟩ = some (.pointer (some ⟨m, 0, none⟩))) (cp : w.cell? ⟨pp, 0, none⟩ = some (.complex .f64 p.re p.im)) (hr : r < w.heap.size) (row : RowT w r T) :
    Calls Try.prog 57 #[.slice (some ⟨r, 0, none⟩) T.length c, .func (.func 58) #[] #[.pointer (some ⟨pm, 0, none⟩), .pointer (some ⟨pp, 0, none⟩)]] w fun e w' =>
      e = .returned (.int .i64 (firstI (fun i => holdB ps p (tAt T i)) T.length)) ∧ Below w.heap.size w w' := by
  haveI inh : Inhabited (TI ps.length) := ⟨⟨(0, 0, 0), h1, h1, h1⟩⟩
  have hpm := World.block_lt_of_cell? w _ cm
  have hpp := World.block_lt_of_cell? w _ cp
  simp only at hpm hpp
  have hlen : (T.attachWith (fun t => t.1 < ps.length ∧ t.2.1 < ps.length ∧ t.2.2 < ps.length) hT).length = T.length := by simp
  have h := AnyQ.slices_IndexFunc idxTri 3 Try.isAgg48 Try.sizeOf48 (fun x : TI ps.length => encT x.1) (fun _ => rfl) (fun x => holdB ps p x.1) 58 #[.pointer (some ⟨pm, 0, none⟩), .pointer (some ⟨pp, 0, none⟩)] ent_hold r 0 T.length c (T.attachWith (fun t => t.1 < ps.length ∧ t.2.1 < ps.length ∧ t.2.2 < ps.length) hT) w
    (fun W x hb => (hold1_any ps p m b cap pm pp x.1.1 x.1.2.1 x.1.2.2 W hn x.2.1 x.2.2.1 x.2.2.2 (hm.below hb) (by rw [hb.cell (p := ⟨pm, 0, none⟩) hpm]; exact cm) (by rw [hb.cell (p := ⟨pp, 0, none⟩) hpp]; exact cp)).mono fun _ _ ⟨he, hb'⟩ => ⟨he, below_next hb hb'⟩)
    (by rw [hlen]; exact Nat.le_refl _) (by omega) hr
    (fun j hj i v hv => by
      rw [hlen] at hj
      rw [attach_get hT hj] at hv
      obtain ⟨r0, r1, r2⟩ := row j hj
      rw [Nat.zero_add]
      match i, hv with
      | 0, hv => simp [encT] at hv; rw [← hv]; exact r0
      | 1, hv => simp [encT] at hv; rw [← hv]; exact r1
      | 2, hv => simp [encT] at hv; rw [← hv]; exact r2
      | i + 3, hv => simp [encT] at hv)
  have e : Lib.idxBy (fun _ y => holdB ps p y.1) ((T.attachWith (fun t => t.1 < ps.length ∧ t.2.1 < ps.length ∧ t.2.2 < ps.length) hT).take T.length) default = firstI (fun i => holdB ps p (tAt T i)) T.length := by
    have e1 : (T.attachWith (fun t => t.1 < ps.length ∧ t.2.1 < ps.length ∧ t.2.2 < ps.length) hT).take T.length = T.attachWith (fun t => t.1 < ps.length ∧ t.2.1 < ps.length ∧ t.2.2 < ps.length) hT := by
      conv => lhs; rw [← hlen]
      exact List.take_length
    rw [e1, idx_first, hlen]
    exact firstI_congr fun i hi => by rw [attach_get hT hi]
  rw [e] at h
  exact h

set_option maxRecDepth 100000 in
set_option maxHeartbeats 2000000 in
theorem firstHolding_any (ps : List CP) (p : CP) (m b cap r c : Nat) (T : List (Nat × Nat × Nat)) (w : World) (hn : ps.length ≤ 16) (h1 : 0 < ps.length) (hT : ∀ t ∈ T, t.1 < ps.length ∧ t.2.1 < ps.length ∧ t.2.2 < ps.length) (hl : T.length ≤ 16)
    (hm : MeshAt w m b cap ps) (ct : w.cell? ⟨m, 1, none⟩ = some (.slice (some ⟨r, 0, none⟩) T.length c)) (hr : r < w.heap.size) (row : RowT w r T) :
    Calls Try.prog 41 #[.pointer (some ⟨m, 0, none⟩), .complex .f64 p.re p.im] w fun e w' =>
      e = .returned (.int .i64 (firstI (fun i => holdB ps p (tAt T i)) T.length)) ∧ Below w.heap.size w w' := by
  have hb : Below w.heap.size w ((w.alloc (.cells #[.pointer (some ⟨m, 0, none⟩)] 99)).alloc (.cells #[.complex .f64 p.re p.im] 70)) := ((Below.refl _ _).alloc (Nat.le_refl _) _).alloc (by simp) _
  have hlt := hm.lt
  have HI := hide (index_any ps p m b cap w.heap.size (w.heap.size + 1) r c T _ hn h1 hT hl (hm.below hb) (by rw [cell_under _ _ _ (by simp), cell_last _ _ _ _ _ rfl]; rfl) (by rw [cell_last _ _ _ _ _ (by simp)]; rfl) (Nat.lt_of_lt_of_le hr hb.size) (row.below hb hr))
  have ct2 : ((w.alloc (.cells #[.pointer (some ⟨m, 0, none⟩)] 99)).alloc (.cells #[.complex .f64 p.re p.im] 70)).cell? ⟨m, 1, none⟩ = some (.slice (some ⟨r, 0, none⟩) T.length c) := by rw [hb.cell (p := ⟨m, 1, none⟩) hlt]; exact ct
  have Hb := hide hb
  have n1 : m ≠ w.heap.size := by omega
  have n2 : m ≠ w.heap.size + 1 := by omega
  clear hm ct hr row hb
  generalize firstI (fun i => holdB ps p (tAt T i)) T.length = F at *
  go_enter Try.func41, Try.ntmps41
  go_wp2_with fail
  refine HI.out.mono ?_
  rintro e w2 ⟨rfl, hb2⟩
  have Hb2 := hide (below_next Hb.out hb2)
  clear hb2
  go_wp2_with fail
  go_ret
  exact ⟨rfl, Hb2.out⟩
end

section
open Go.RowKit
set_option linter.unusedVariables false

theorem cutT_range {l : List (Int × Int)} (h : 3 ≤ l.length) : ∀ t ∈ cutT l, t.1 < l.length ∧ t.2.1 < l.length ∧ t.2.2 < l.length := by
  intro t ht
  have := cut_in_range l l.length 0 (l.length - 1) t ((sortT_perm _).mem_iff.1 ht)
  unfold triIn at this
  omega

/-- The number of the first triangle in which the point lies. -/
def findF (ps : List CP) (p : CP) (T : List (Nat × Nat × Nat)) : Int := firstI (fun i => holdB ps p (tAt T i)) T.length

set_option maxHeartbeats 1000000 in
theorem Find_long (s : ByteArray) (x y : Int) (w : World) (hs : s.size ≤ maxLen) (h : 160 < s.size) :
    Calls Try.prog 24 #[.string s, .agg #[.int .i64 x, .int .i64 y]] w fun e w' => e = .returned (.tuple #[.int .i64 0, .int .i64 1, .int .i64 0]) ∧ Below w.heap.size w w' := by
  go_enter Try.func24, Try.ntmps24
  go_wp2_with fail
  refine (readForPoint_long s x y _ hs h).mono ?_
  rintro e w1 ⟨rfl, hb⟩
  have Hb := hide (below_one hb)
  clear hb
  go_wp2_with fail
  go_ret3
  exact ⟨rfl, Hb.out.alloc Hb.out.size _⟩

set_option maxHeartbeats 1000000 in
theorem Find_text (s : ByteArray) (x y : Int) (w : World) (hs : s.size ≤ 160) (p : Nat) (h : rdAll s 16 0 [] = .inl p) :
    Calls Try.prog 24 #[.string s, .agg #[.int .i64 x, .int .i64 y]] w fun e w' => e = .returned (.tuple #[.int .i64 0, .int .i64 2, .int .i64 p]) ∧ Below w.heap.size w w' := by
  have H := hide h
  clear h
  go_enter Try.func24, Try.ntmps24
  go_wp2_with fail
  refine (readForPoint_text s x y _ hs p H.out).mono ?_
  rintro e w1 ⟨rfl, hb⟩
  have Hb := hide (below_one hb)
  clear hb
  go_wp2_with fail
  go_ret3
  exact ⟨rfl, Hb.out.alloc Hb.out.size _⟩

set_option maxRecDepth 100000 in
set_option maxHeartbeats 4000000 in
theorem Find_meet (s : ByteArray) (x y : Int) (w : World) (hs : s.size ≤ 160) (l : List (Int × Int)) (h : rdAll s 16 0 [] = .inr l) :
    Calls Try.prog 24 #[.string s, .agg #[.int .i64 x, .int .i64 y]] w fun e w' => ∃ ps : List CP, xy ps = l ∧ Below w.heap.size w w' ∧
      (firstI (clashRow ps) ps.length ≠ -1 → e = .returned (.tuple #[.int .i64 0, .int .i64 3, .int .i64 (firstI (clashRow ps) ps.length)])) ∧
      (firstI (clashRow ps) ps.length = -1 → farB x y = true → e = .returned (.tuple #[.int .i64 0, .int .i64 4, .int .i64 0])) ∧
      (firstI (clashRow ps) ps.length = -1 → farB x y = false → ∃ p : CP, (p.x = x ∧ p.y = y) ∧ e = .returned (.tuple #[.int .i64 (findF ps p (cutT l)), .int .i64 0, .int .i64 0])) := by
  have hlen := len3 h
  have H := hide h
  clear h
  go_enter Try.func24, Try.ntmps24
  go_wp2_with fail
  refine (readForPoint_meet s x y _ hs l H.out).mono ?_
  rintro e w1 ⟨ps, hxy, hb, h1, h2, h3⟩
  have hle : l.length = ps.length := by rw [← hxy, xy_length]
  have hsz : w.heap.size + 1 ≤ w1.heap.size := by have := hb.size; simpa using this
  have hp0 : w1.cell? ⟨w.heap.size, 0, none⟩ = some (.int .i64 x) := by rw [hb.cell (p := ⟨w.heap.size, 0, none⟩) (by simp)]; simp
  have hp1 : w1.cell? ⟨w.heap.size, 1, none⟩ = some (.int .i64 y) := by rw [hb.cell (p := ⟨w.heap.size, 1, none⟩) (by simp)]; simp
  have Hb := hide (below_one hb)
  have Hxy := hide hxy
  clear hb hxy
  generalize hF : firstI (clashRow ps) ps.length = F at *
  have HFe := hide hF
  clear hF
  by_cases hm : F = -1
  · cases hfar : farB x y
    · obtain ⟨g, cap, rfl, hg, hrow⟩ := h3 hm hfar
      have hbd := farB_false hfar
      have Hm := hide hm
      have Hfar := hide hfar
      have HM := hide (fun W (hb : Below w1.heap.size w1 W) => meshOf_any ps g cap W (by omega) (by omega) (Nat.lt_of_lt_of_le hg hb.size) (hrow.below hb hg))
      have Hrow := hide hrow
      clear h1 h2 h3 hm hfar hrow
      go_wp2_with fail
      refine (HM.out _ (below_al _ _)).mono ?_
      rintro e w2 ⟨hb2, r, c, rfl, hr, hr0, hrow2⟩
      have hb12 : Below w1.heap.size w1 w2 := below_one hb2
      have hs2 : w1.heap.size + 1 ≤ w2.heap.size := by have := hb2.size; simpa using this
      have q0 := under_cell (W := w2) (b := w.heap.size) (i := 0) (by omega) ((hb12.cell (p := ⟨w.heap.size, 0, none⟩) (by show w.heap.size < _; omega)).trans hp0)
      have q1 := under_cell (W := w2) (b := w.heap.size) (i := 1) (by omega) ((hb12.cell (p := ⟨w.heap.size, 1, none⟩) (by show w.heap.size < _; omega)).trans hp1)
      have H12 := hide hb12
      have Hrow2 := hide hrow2
      clear hb2 hb12 hrow2 HM hp0 hp1
      have H3 : Hid (∀ W, Below (w2.heap.size + 1) (w2.alloc (.cells #[.slice (some ⟨g, 0, none⟩) ps.length cap, .slice (some ⟨r, 0, none⟩) (ps.length - 2) c] 74)) W → Calls Try.prog 41 #[.pointer (some ⟨w2.heap.size, 0, none⟩), .complex .f64 (floatOfInt .f64 x) (floatOfInt .f64 y)] W fun e w' =>
          e = .returned (.int .i64 (findF ps (mkCP x y hbd.1 hbd.2) (cutT (xy ps)))) ∧ Below W.heap.size W w') := fun W hW => by
        have hb2W : Below w2.heap.size w2 W := (below_al w2 _).trans (hW.mono (by omega))
        have hWs : w2.heap.size + 1 ≤ W.heap.size := by have := hW.size; simpa using this
        have hT := cutT_range (l := xy ps) (by rw [xy_length]; omega)
        rw [xy_length] at hT
        have hTl : (cutT (xy ps)).length = ps.length - 2 := by rw [cutT_length (by rw [xy_length]; omega), xy_length]
        have := firstHolding_any ps (mkCP x y hbd.1 hbd.2) w2.heap.size g cap r c (cutT (xy ps)) W (by omega) (by omega) hT (by omega)
          ⟨by omega, by omega, (Hrow.out.below H12.out hg).below hb2W (by omega), by rw [hW.cell (p := ⟨w2.heap.size, 0, none⟩) (by simp), cell_last _ _ _ _ _ rfl]; rfl⟩
          (by rw [hW.cell (p := ⟨w2.heap.size, 1, none⟩) (by simp), cell_last _ _ _ _ _ rfl, hTl]; rfl) (by omega) (Hrow2.out.below hb2W hr)
        exact this
      go_wp2_with fail
      refine (asComplex_any x y _).mono ?_
      rintro e w3 ⟨rfl, hb3⟩
      have Hb3 := hide hb3
      clear hb3
      go_wp2_with fail
      refine (H3.out w3 (by have := Hb3.out; simpa using this)).mono ?_
      rintro e w4 ⟨rfl, hb4⟩
      have Hall := hide (below_next Hb.out (below_next H12.out (below_next (below_one Hb3.out) hb4)))
      clear hb4 H3
      go_wp2_with fail
      refine bodyPost_ret (v := .tuple #[.int .i64 (findF ps (mkCP x y hbd.1 hbd.2) (cutT (xy ps))), .int .i64 0, .int .i64 0]) (by simp [results, Try.results24, go_sem]) rfl ?_
      refine ⟨ps, Hxy.out, Hall.out, fun hn => absurd (HFe.out.trans Hm.out) hn, fun _ hf => absurd (Hfar.out.symm.trans hf) (by decide), fun _ _ => ⟨mkCP x y hbd.1 hbd.2, ⟨rfl, rfl⟩, ?_⟩⟩
      rw [Hxy.out]
    · obtain rfl := h2 hm hfar
      have Hm := hide hm
      have Hfar := hide hfar
      clear h1 h2 h3 hm hfar
      go_wp2_with fail
      refine bodyPost_ret (v := .tuple #[.int .i64 0, .int .i64 4, .int .i64 0]) (by simp [results, Try.results24, go_sem]) rfl ?_
      exact ⟨ps, Hxy.out, Hb.out.alloc Hb.out.size _, fun hn => absurd (HFe.out.trans Hm.out) hn, fun _ _ => rfl, fun _ hf => absurd (Hfar.out.symm.trans hf) (by decide)⟩
  · obtain rfl := h1 hm
    have Hm := hide hm
    clear h1 h2 h3 hm
    go_wp2_with fail
    refine bodyPost_ret (v := .tuple #[.int .i64 0, .int .i64 3, .int .i64 F]) (by simp [results, Try.results24, go_sem]) rfl ?_
    exact ⟨ps, Hxy.out, Hb.out.alloc Hb.out.size _, fun _ => by rw [HFe.out], fun hn => absurd (HFe.out.symm.trans hn) Hm.out, fun hn => absurd (HFe.out.symm.trans hn) Hm.out⟩
end

end Go.Proofs.Ytlicmfhgjonmnaa
