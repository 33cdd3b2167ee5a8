/- Walks of the program's polygon: edges, closures that are handed on. Own work. -/
import Derived.Test.YtlicmfhgjonmnaaWc
import Derived.RegionTactic
import Derived.Deep.RegionWith
import Derived.Shelf.Abstract
namespace Go.Proofs.Ytlicmfhgjonmnaa
open Go.RowKit
set_option linter.unusedVariables false

def zeroCP : CP := ⟨0, 0, 0, 0, Rep.zero, Rep.zero, by decide, by decide⟩
def ptAt (ps : List CP) (i : Nat) : CP := ps.getD i zeroCP
def edgeOf (ps : List CP) (i : Nat) : CE := ⟨i, nextI ps.length i, ptAt ps i, ptAt ps (nextI ps.length i)⟩

/-- The row of the corners, in block b. -/
def RowC (w : World) (b : Nat) (ps : List CP) : Prop := ∀ i, i < ps.length → w.cell? ⟨b, i, none⟩ = some (.complex .f64 (ptAt ps i).re (ptAt ps i).im)

theorem RowC.below {w w' : World} {b : Nat} {ps : List CP} (h : RowC w b ps) (hb : Below w.heap.size w w') (hlt : b < w.heap.size) : RowC w' b ps :=
  fun i hi => by rw [hb.cell (p := ⟨b, i, none⟩) hlt]; exact h i hi

theorem RowC.alloc {w : World} {b : Nat} {ps : List CP} (h : RowC w b ps) (hlt : b < w.heap.size) (o : Obj) : RowC (w.alloc o) b ps :=
  h.below ((Below.refl _ _).alloc (Nat.le_refl _) _) hlt

set_option maxHeartbeats 1000000 in
theorem edge_any (ps : List CP) (b cap k : Nat) (w : World) (hn : ps.length ≤ 16) (hk : k < ps.length) (hlt : b < w.heap.size) (hrow : RowC w b ps) :
    Calls Try.prog 65 #[.agg #[.slice (some ⟨b, 0, none⟩) ps.length cap], .int .i64 k] w fun r w' =>
      r = .returned (.agg #[.int .i64 (edgeOf ps k).n, .int .i64 (edgeOf ps k).m, .complex .f64 (edgeOf ps k).a.re (edgeOf ps k).a.im, .complex .f64 (edgeOf ps k).b.re (edgeOf ps k).b.im]) ∧ Below w.heap.size w w' := by
  simp only [edgeOf]
  have hj : nextI ps.length k < ps.length := Nat.mod_lt _ (by omega)
  have e1 : ((k : Int) + 1) % (ps.length : Int) = (nextI ps.length k : Int) := by simp [nextI]
  have e2 : ((k : Int) + 1).tmod (ps.length : Int) = (nextI ps.length k : Int) := by rw [Int.tmod_eq_emod_of_nonneg (by omega)]; exact e1
  have c1 := hrow k hk
  have c2 := hrow _ hj
  generalize nextI ps.length k = j at *
  generalize ptAt ps k = A at *
  generalize ptAt ps j = B at *
  generalize ps.length = n at *
  have hne : b ≠ w.heap.size := by omega
  have hne1 : b ≠ w.heap.size + 1 := by omega
  have hz : ((n : Int) == 0) = false := by simp; omega
  have i1 : (k : Int) < n := by omega
  have i2 : (j : Int) < n := by omega
  have hst : ∀ (ad : Addr) (x y : Nat) (m : Mode) (w : World), (store ad (.complex .f64 x y) m).run Try.prog w = stored Try.prog w ad (.complex .f64 x y) m := fun ad x y m w => run_store Try.prog w ad _ m rfl
  clear hrow
  go_enter Try.func65, Try.ntmps65
  go_wp2
  go_region
  all_goals go_wp2
  all_goals (
    refine bodyPost_ret (v := .agg #[.int .i64 k, .int .i64 j, .complex .f64 A.re A.im, .complex .f64 B.re B.im]) (by simp [results, Try.results65, go_sem]) rfl ⟨rfl, ?_⟩
    exact (((Below.refl _ _).alloc (Nat.le_refl _) _).alloc (by simp) _).drew)

def clashB (e o : CE) : Bool :=
  if o.n = e.n then false else if e.m = o.n then foldsB e o else if o.m = e.n then foldsB o e else meetB e o

set_option maxHeartbeats 1000000 in
theorem clash_any (e o : CE) (b : Nat) (w : World) (hlt : b < w.heap.size)
    (c0 : w.cell? ⟨b, 0, none⟩ = some (.int .i64 e.n)) (c1 : w.cell? ⟨b, 1, none⟩ = some (.int .i64 e.m))
    (c2 : w.cell? ⟨b, 2, none⟩ = some (.complex .f64 e.a.re e.a.im)) (c3 : w.cell? ⟨b, 3, none⟩ = some (.complex .f64 e.b.re e.b.im)) :
    Calls Try.prog 78 #[.agg #[.int .i64 o.n, .int .i64 o.m, .complex .f64 o.a.re o.a.im, .complex .f64 o.b.re o.b.im], .pointer (some ⟨b, 0, none⟩)] w fun r w' =>
      r = .returned (.bool (clashB e o)) ∧ Below w.heap.size w w' := by
  have hne : b ≠ w.heap.size := by omega
  by_cases h1 : o.n = e.n
  · rw [show clashB e o = false by simp [clashB, h1]]
    have g1 : (o.n == e.n) = true := by simpa using h1
    clear h1
    go_enter Try.func78, Try.ntmps78
    go_wp2_with fail
    go_ret
    exact ⟨rfl, (Below.refl _ _).alloc (Nat.le_refl _) _⟩
  · have g1 : (o.n == e.n) = false := by simpa using h1
    by_cases h2 : e.m = o.n
    · rw [show clashB e o = foldsB e o by simp [clashB, h1, h2]]
      have g2 : (e.m == o.n) = true := by simpa using h2
      clear h1 h2
      go_enter Try.func78, Try.ntmps78
      go_wp2_with fail
      refine (folds_any e o _).mono ?_; rintro r w1 ⟨rfl, hb1⟩
      go_wp2_with fail
      go_ret
      exact ⟨rfl, below_one hb1⟩
    · have g2 : (e.m == o.n) = false := by simpa using h2
      by_cases h3 : o.m = e.n
      · rw [show clashB e o = foldsB o e by simp [clashB, h1, h2, h3]]
        have g3 : (o.m == e.n) = true := by simpa using h3
        clear h1 h2 h3
        go_enter Try.func78, Try.ntmps78
        go_wp2_with fail
        refine (folds_any o e _).mono ?_; rintro r w1 ⟨rfl, hb1⟩
        go_wp2_with fail
        go_ret
        exact ⟨rfl, below_one hb1⟩
      · rw [show clashB e o = meetB e o by simp [clashB, h1, h2, h3]]
        have g3 : (o.m == e.n) = false := by simpa using h3
        clear h1 h2 h3
        go_enter Try.func78, Try.ntmps78
        go_wp2_with fail
        refine (meet_any e o _).mono ?_; rintro r w1 ⟨rfl, hb1⟩
        go_wp2_with fail
        go_ret
        exact ⟨rfl, below_one hb1⟩

def firstI (B : Nat → Bool) (n : Nat) : Int := match (List.range n).find? B with | some k => k | none => -1

theorem firstI_none {B : Nat → Bool} {n : Nat} (h : ∀ j, j < n → B j = false) : firstI B n = -1 := by
  have : (List.range n).find? B = none := by
    rw [List.find?_eq_none]; intro j hj; rw [h j (List.mem_range.1 hj)]; decide
  simp [firstI, this]

theorem firstI_some {B : Nat → Bool} {n k : Nat} (hk : k < n) (hB : B k = true) (h : ∀ j, j < k → B j = false) : firstI B n = k := by
  have : (List.range n).find? B = some k := by
    rw [List.find?_range_eq_some]
    exact ⟨hB, by simpa using hk, fun j hj => by simp [h j hj]⟩
  simp [firstI, this]

set_option maxHeartbeats 1000000 in
theorem firstEdge_any (f : Nat) (cv : Value) (B : Nat → Bool) (ps : List CP) (b cap : Nat) (w : World) (hn : ps.length ≤ 16) (hlt : b < w.heap.size) (hrow : RowC w b ps)
    (hent : ∀ args w, (callFunc f args).run Try.prog w = .ok (.enter f args) w)
    (hcl : ∀ i, i < ps.length → ∀ w1 : World, Below w.heap.size w w1 → Calls Try.prog f #[.agg #[.int .i64 (edgeOf ps i).n, .int .i64 (edgeOf ps i).m, .complex .f64 (edgeOf ps i).a.re (edgeOf ps i).a.im, .complex .f64 (edgeOf ps i).b.re (edgeOf ps i).b.im], cv] w1 fun r w2 => r = .returned (.bool (B i)) ∧ Below w1.heap.size w1 w2) :
    Calls Try.prog 62 #[.agg #[.slice (some ⟨b, 0, none⟩) ps.length cap], .func (.func f) #[] #[cv]] w fun r w' =>
      r = .returned (.int .i64 (firstI B ps.length)) ∧ Below w.heap.size w w' := by
  have Hcl := hide hcl
  clear hcl
  have Hrow := hide hrow
  clear hrow
  go_enter Try.func62, Try.ntmps62
  go_wp2_with fail
  go_loopw [9] (fun i wr => ∃ k : Nat, k ≤ ps.length ∧ i = .int .i64 k ∧ (∀ j, j < k → B j = false) ∧ Below (w.heap.size + 1) (w.alloc (.cells #[.slice (some ⟨b, 0, none⟩) ps.length cap] 60)) wr) (fun i _ => ps.length - (intOf i).toNat)
  case atStart => exact ⟨0, Nat.zero_le _, rfl, fun j h => absurd h (Nat.not_lt_zero _), Below.refl _ _⟩
  case round =>
    obtain ⟨k, hk, rfl, hB, hbel⟩ := hrel
    have hw : Below w.heap.size w wr := ((Below.refl _ _).alloc (Nat.le_refl _) _).trans (hbel.mono (by omega))
    have hsz : w.heap.size < wr.heap.size := by have := hbel.size; simp at this; omega
    have hc0 : wr.cell? ⟨w.heap.size, 0, none⟩ = some (.slice (some ⟨b, 0, none⟩) ps.length cap) := by
      rw [hbel.cell (p := ⟨w.heap.size, 0, none⟩) (by simp)]; simp
    have Hw := hide hw
    have Hbel := hide hbel
    clear hw hbel
    by_cases hlt2 : k < ps.length
    · have hi : (k : Int) < (ps.length : Int) := by omega
      cases hBk : B k
      · go_wp2_with fail
        refine (edge_any ps b cap k _ hn hlt2 (by omega) (Hrow.out.below Hw.out hlt)).mono ?_
        rintro r w1 ⟨rfl, hb1⟩
        have Hb1 := hide hb1
        clear hb1
        go_wp2_with fail
        refine (Hcl.out k hlt2 _ (below_next Hw.out Hb1.out)).mono ?_
        rintro r w2 ⟨rfl, hb2⟩
        rw [hBk]
        have Hb2 := hide hb2
        clear hb2
        go_wp2_with fail
        go_roundw
        case rel =>
          refine ⟨k + 1, by omega, by go_num, fun j hj => ?_, Hbel.out.trans ((below_next Hb1.out Hb2.out).mono hsz)⟩
          by_cases hjk : j = k
          · subst hjk; exact hBk
          · exact hB j (by omega)
        case measure => simp [intOf]; omega
      · go_wp2_with fail
        refine (edge_any ps b cap k _ hn hlt2 (by omega) (Hrow.out.below Hw.out hlt)).mono ?_
        rintro r w1 ⟨rfl, hb1⟩
        have Hb1 := hide hb1
        clear hb1
        go_wp2_with fail
        refine (Hcl.out k hlt2 _ (below_next Hw.out Hb1.out)).mono ?_
        rintro r w2 ⟨rfl, hb2⟩
        rw [hBk]
        have Hb2 := hide hb2
        clear hb2
        go_wp2_with fail
        go_ret
        exact ⟨ret_int (firstI_some hlt2 hBk hB).symm, below_next Hw.out (below_next Hb1.out Hb2.out)⟩
    · have hi : ¬ (k : Int) < (ps.length : Int) := by omega
      go_wp2_with fail
      go_ret
      exact ⟨ret_int (firstI_none (fun j hj => hB j (by omega))).symm, Hw.out⟩

set_option maxHeartbeats 1000000 in
theorem clashesWith_any (e : CE) (w : World) :
    Calls Try.prog 64 #[.agg #[.int .i64 e.n, .int .i64 e.m, .complex .f64 e.a.re e.a.im, .complex .f64 e.b.re e.b.im]] w fun r w' =>
      r = .returned (.func (.func 78) #[] #[.pointer (some ⟨w.heap.size, 0, none⟩)]) ∧ w' = w.alloc (.cells #[.int .i64 e.n, .int .i64 e.m, .complex .f64 e.a.re e.a.im, .complex .f64 e.b.re e.b.im] 86) := by
  go_enter Try.func64, Try.ntmps64
  go_wp2
  go_ret
  exact ⟨rfl, rfl⟩

theorem ent_clash (args : Array Value) (w : World) : (callFunc 78 args).run Try.prog w = .ok (.enter 78 args) w := enters_of Try.func78 (by kernel_rfl) rfl args w
theorem ent_row (args : Array Value) (w : World) : (callFunc 63 args).run Try.prog w = .ok (.enter 63 args) w := enters_of Try.func63 (by kernel_rfl) rfl args w

theorem firstEdge_clash (E : CE) (ps : List CP) (b cap g : Nat) (w : World) (hn : ps.length ≤ 16) (hlt : b < w.heap.size) (hrow : RowC w b ps) (hg : g < w.heap.size)
    (c0 : w.cell? ⟨g, 0, none⟩ = some (.int .i64 E.n)) (c1 : w.cell? ⟨g, 1, none⟩ = some (.int .i64 E.m))
    (c2 : w.cell? ⟨g, 2, none⟩ = some (.complex .f64 E.a.re E.a.im)) (c3 : w.cell? ⟨g, 3, none⟩ = some (.complex .f64 E.b.re E.b.im)) :
    Calls Try.prog 62 #[.agg #[.slice (some ⟨b, 0, none⟩) ps.length cap], .func (.func 78) #[] #[.pointer (some ⟨g, 0, none⟩)]] w fun r w' =>
      r = .returned (.int .i64 (firstI (fun j => clashB E (edgeOf ps j)) ps.length)) ∧ Below w.heap.size w w' :=
  firstEdge_any _ _ (fun j => clashB E (edgeOf ps j)) ps b cap w hn hlt hrow ent_clash fun i hi w1 hb =>
    clash_any E (edgeOf ps i) g w1 (Nat.lt_of_lt_of_le hg hb.size)
      (by rw [hb.cell (p := ⟨g, 0, none⟩) hg]; exact c0) (by rw [hb.cell (p := ⟨g, 1, none⟩) hg]; exact c1)
      (by rw [hb.cell (p := ⟨g, 2, none⟩) hg]; exact c2) (by rw [hb.cell (p := ⟨g, 3, none⟩) hg]; exact c3)

def clashRow (ps : List CP) (i : Nat) : Bool := firstI (fun j => clashB (edgeOf ps i) (edgeOf ps j)) ps.length != -1

set_option maxHeartbeats 1000000 in
theorem firstClash1_any (ps : List CP) (i b cap g : Nat) (w : World) (hn : ps.length ≤ 16) (hlt : b < w.heap.size) (hrow : RowC w b ps)
    (hg : g < w.heap.size) (hc : w.cell? ⟨g, 0, none⟩ = some (.slice (some ⟨b, 0, none⟩) ps.length cap)) :
    Calls Try.prog 63 #[.agg #[.int .i64 (edgeOf ps i).n, .int .i64 (edgeOf ps i).m, .complex .f64 (edgeOf ps i).a.re (edgeOf ps i).a.im, .complex .f64 (edgeOf ps i).b.re (edgeOf ps i).b.im], .pointer (some ⟨g, 0, none⟩)] w fun r w' =>
      r = .returned (.bool (clashRow ps i)) ∧ Below w.heap.size w w' := by
  have hne : g ≠ w.heap.size := by omega
  have Hrow := hide hrow
  clear hrow
  generalize he : edgeOf ps i = E at *
  have hcr : clashRow ps i = (firstI (fun j => clashB E (edgeOf ps j)) ps.length != -1) := by unfold clashRow; rw [he]
  rw [hcr]
  clear he hcr
  have H27 := hide (firstEdge_clash E ps b cap (w.heap.size + 1) (((w.alloc (.cells #[.int .i64 E.n, .int .i64 E.m, .complex .f64 E.a.re E.a.im, .complex .f64 E.b.re E.b.im] 86)).alloc (.cells #[.int .i64 E.n, .int .i64 E.m, .complex .f64 E.a.re E.a.im, .complex .f64 E.b.re E.b.im] 86)).drew) hn
    (by simp; omega) (Hrow.out.below (((Below.refl _ _).alloc (Nat.le_refl _) _).alloc (by simp) _).drew hlt) (by simp) (by simp) (by simp) (by simp) (by simp))
  go_enter Try.func63, Try.ntmps63
  go_wp2
  go_region_with (first
    | (go_at_call 64; refine (clashesWith_any _ _).mono ?_; rintro r w' ⟨rfl, rfl⟩)
    | (go_at_call 62; refine H27.out.mono ?_; rintro r w1 ⟨rfl, hb1⟩; have Hb1 := hide hb1; clear hb1))
  all_goals go_wp2
  all_goals go_ret
  all_goals (
    refine ⟨rfl, ?_⟩
    exact (((Below.refl _ _).alloc (Nat.le_refl _) _).alloc (by simp) _).drew.trans (Hb1.out.mono (by simp; omega)))

set_option maxHeartbeats 1000000 in
theorem firstClash_any (ps : List CP) (b cap : Nat) (w : World) (hn : ps.length ≤ 16) (hlt : b < w.heap.size) (hrow : RowC w b ps) :
    Calls Try.prog 43 #[.agg #[.slice (some ⟨b, 0, none⟩) ps.length cap]] w fun r w' =>
      r = .returned (.int .i64 (firstI (clashRow ps) ps.length)) ∧ Below w.heap.size w w' := by
  have Hrow := hide hrow
  clear hrow
  have hb0 : Below w.heap.size w (w.alloc (.cells #[.slice (some ⟨b, 0, none⟩) ps.length cap] 60)) := (Below.refl _ _).alloc (Nat.le_refl _) _
  have Hb0 := hide hb0
  clear hb0
  go_enter Try.func43, Try.ntmps43
  go_wp2_with fail
  refine (firstEdge_any _ _ (clashRow ps) ps b cap _ hn (by simp; omega) (Hrow.out.below Hb0.out hlt) ent_row (fun i hi w1 hb => firstClash1_any ps i b cap w.heap.size w1 hn ?_ ?_ ?_ ?_)).mono ?_
  · have := hb.size; simp at this; omega
  · exact (Hrow.out.below Hb0.out hlt).below hb (by simp; omega)
  · have := hb.size; simp at this; omega
  · rw [hb.cell (p := ⟨w.heap.size, 0, none⟩) (by simp)]; simp
  · rintro r w1 ⟨rfl, hb1⟩
    have Hb1 := hide hb1
    clear hb1
    go_wp2_with fail
    go_ret
    exact ⟨rfl, below_one Hb1.out⟩


end Go.Proofs.Ytlicmfhgjonmnaa
