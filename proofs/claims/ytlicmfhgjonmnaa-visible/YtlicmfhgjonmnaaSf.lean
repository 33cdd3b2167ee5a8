/- How triangles are compared. Own work. -/
import Derived.Test.YtlicmfhgjonmnaaSx
import Derived.Test.YtlicmfhgjonmnaaPz
import Derived.Deep.RegionHeld3
import Derived.Deep.DrawnRows
namespace Go.Proofs.Ytlicmfhgjonmnaa
open Go.RowKit
set_option linter.unusedVariables false

def or3 (a b c : Int) : Int := if a = 0 then (if b = 0 then c else b) else a

set_option maxHeartbeats 1000000 in
theorem or_any (a0 a1 a2 : Int) (b : Nat) (w : World) (c0 : w.cell? ⟨b, 0, none⟩ = some (.int .i64 a0)) (c1 : w.cell? ⟨b, 1, none⟩ = some (.int .i64 a1)) (c2 : w.cell? ⟨b, 2, none⟩ = some (.int .i64 a2)) :
    Calls Try.prog 76 #[.slice (some ⟨b, 0, none⟩) 3 3] w fun e w' => e = .returned (.int .i64 (or3 a0 a1 a2)) ∧ w' = w := by
  go_enter Try.func76, Try.ntmps76
  go_wp2_with fail
  go_loopw [8] (fun i wr => ∃ k : Nat, k ≤ 3 ∧ i = .int .i64 k ∧ (0 < k → a0 = 0) ∧ (1 < k → a1 = 0) ∧ (2 < k → a2 = 0) ∧ wr = w) (fun i _ => 3 - (intOf i).toNat)
  case atStart => exact ⟨0, Nat.zero_le _, rfl, fun h => absurd h (by omega), fun h => absurd h (by omega), fun h => absurd h (by omega), rfl⟩
  case round =>
    obtain ⟨k, hk, rfl, hA, hB, hC, rfl⟩ := hrel
    have HA := hide hA
    have HB := hide hB
    have HC := hide hC
    clear hA hB hC
    obtain rfl | rfl | rfl | rfl : k = 0 ∨ k = 1 ∨ k = 2 ∨ k = 3 := by omega
    · by_cases h : a0 = 0
      · have g : (a0 != 0) = false := by rw [h]; rfl
        have H := hide h
        clear h
        go_wp2_with fail
        go_roundw
        case rel => exact ⟨1, by omega, by go_num, fun _ => H.out, fun h => absurd h (by omega), fun h => absurd h (by omega), trivial⟩
        case measure => simp [intOf]
      · have g : (a0 != 0) = true := by rw [bne_iff_ne]; exact h
        have H := hide h
        clear h
        go_wp2_with fail
        go_ret
        exact ⟨ret_int (by unfold or3; rw [if_neg H.out]), rfl⟩
    · by_cases h : a1 = 0
      · have g : (a1 != 0) = false := by rw [h]; rfl
        have H := hide h
        clear h
        go_wp2_with fail
        go_roundw
        case rel => exact ⟨2, by omega, by go_num, fun _ => HA.out (by omega), fun _ => H.out, fun h => absurd h (by omega), trivial⟩
        case measure => simp [intOf]
      · have g : (a1 != 0) = true := by rw [bne_iff_ne]; exact h
        have H := hide h
        clear h
        go_wp2_with fail
        go_ret
        exact ⟨ret_int (by unfold or3; rw [if_pos (HA.out (by omega)), if_neg H.out]), rfl⟩
    · by_cases h : a2 = 0
      · have g : (a2 != 0) = false := by rw [h]; rfl
        have H := hide h
        clear h
        go_wp2_with fail
        go_roundw
        case rel => exact ⟨3, by omega, by go_num, fun _ => HA.out (by omega), fun _ => HB.out (by omega), fun _ => H.out, trivial⟩
        case measure => simp [intOf]
      · have g : (a2 != 0) = true := by rw [bne_iff_ne]; exact h
        have H := hide h
        clear h
        go_wp2_with fail
        go_ret
        exact ⟨ret_int (by unfold or3; rw [if_pos (HA.out (by omega)), if_pos (HB.out (by omega))]), rfl⟩
    · go_wp2_with fail
      go_ret
      exact ⟨ret_int (by unfold or3; rw [if_pos (HA.out (by omega)), if_pos (HB.out (by omega)), HC.out (by omega)]), rfl⟩

/-- How two triangles stand to each other. -/
def cfT (x y : Nat × Nat × Nat) : Int := or3 (Lib.compareInt x.1 y.1) (Lib.compareInt x.2.1 y.2.1) (Lib.compareInt x.2.2 y.2.2)

def encT (t : Nat × Nat × Nat) : List Value := [.int .i64 t.1, .int .i64 t.2.1, .int .i64 t.2.2]

attribute [local go_sem ↓] Go.wp_at_zero Go.wp_at_succ

set_option maxRecDepth 100000 in
set_option maxHeartbeats 4000000 in
theorem compare_int (X0 X1 X2 Y0 Y1 Y2 : Int) (W : World) :
    Calls Try.prog 53 #[.agg #[.int .i64 X0, .int .i64 X1, .int .i64 X2], .agg #[.int .i64 Y0, .int .i64 Y1, .int .i64 Y2]] W fun e w' => e = .returned (.int .i64 (or3 (Lib.compareInt X0 Y0) (Lib.compareInt X1 Y1) (Lib.compareInt X2 Y2))) ∧ ∃ q os', w' = Sort.grow (W.drewN q) os' := by
  have e1 : ∀ (a b : Int) (W' : World), Calls Try.prog 77 #[.int .i64 a, .int .i64 b] W' fun e w' => e = .returned (.int .i64 (Lib.compareInt a b)) ∧ w' = W' := fun a b W' => AnyG.cmp_Compare_int cmpInt a b W'
  have E1 := hide e1
  clear e1
  have c0 : ∀ i, ((W.alloc (.cells #[.int .i64 X0, .int .i64 X1, .int .i64 X2] 48)).alloc (.cells #[.int .i64 Y0, .int .i64 Y1, .int .i64 Y2] 48)).cell? ⟨W.heap.size, i, none⟩ = #[.int .i64 X0, .int .i64 X1, .int .i64 X2][i]? := fun i => by
    rw [cell_under _ _ _ (by simp), cell_last _ _ _ _ _ rfl]
  have c1 : ∀ i, ((W.alloc (.cells #[.int .i64 X0, .int .i64 X1, .int .i64 X2] 48)).alloc (.cells #[.int .i64 Y0, .int .i64 Y1, .int .i64 Y2] 48)).cell? ⟨W.heap.size + 1, i, none⟩ = #[.int .i64 Y0, .int .i64 Y1, .int .i64 Y2][i]? := fun i => by
    rw [cell_last _ _ _ _ _ (by simp)]
  have hG : ∃ os, (W.alloc (.cells #[.int .i64 X0, .int .i64 X1, .int .i64 X2] 48)).alloc (.cells #[.int .i64 Y0, .int .i64 Y1, .int .i64 Y2] 48) = Sort.grow W os := ⟨_, by rw [Sort.alloc_eq_grow, Sort.alloc_eq_grow, Sort.grow_grow]⟩
  have hsz : W.heap.size + 2 = ((W.alloc (.cells #[.int .i64 X0, .int .i64 X1, .int .i64 X2] 48)).alloc (.cells #[.int .i64 Y0, .int .i64 Y1, .int .i64 Y2] 48)).heap.size := by simp
  go_enter Try.func53, Try.ntmps53
  go_wp2_with fail
  generalize (W.alloc (.cells #[.int .i64 X0, .int .i64 X1, .int .i64 X2] 48)).alloc (.cells #[.int .i64 Y0, .int .i64 Y1, .int .i64 Y2] 48) = W2 at *
  have k0 : W2.cell? ⟨W.heap.size, 0, none⟩ = some (.int .i64 X0) := c0 0
  have k1 : W2.cell? ⟨W.heap.size, 1, none⟩ = some (.int .i64 X1) := c0 1
  have k2 : W2.cell? ⟨W.heap.size, 2, none⟩ = some (.int .i64 X2) := c0 2
  have k3 : W2.cell? ⟨W.heap.size + 1, 0, none⟩ = some (.int .i64 Y0) := c1 0
  have k4 : W2.cell? ⟨W.heap.size + 1, 1, none⟩ = some (.int .i64 Y1) := c1 1
  have k5 : W2.cell? ⟨W.heap.size + 1, 2, none⟩ = some (.int .i64 Y2) := c1 2
  have HG := hide hG
  clear c0 c1 hG
  generalize hB1 : W.heap.size + 1 = B1 at *
  generalize hB0 : W.heap.size = B0 at *
  have n0 := World.new_ne W2 _ k0
  have n3 := World.new_ne W2 _ k3
  clear hsz
  go_region_held3 (fun w' => w'.cell? ⟨B0, 0, none⟩ = some (.int .i64 X0) ∧ w'.cell? ⟨B0, 1, none⟩ = some (.int .i64 X1) ∧ w'.cell? ⟨B0, 2, none⟩ = some (.int .i64 X2) ∧ w'.cell? ⟨B1, 0, none⟩ = some (.int .i64 Y0) ∧ w'.cell? ⟨B1, 1, none⟩ = some (.int .i64 Y1) ∧ w'.cell? ⟨B1, 2, none⟩ = some (.int .i64 Y2))
    (go_keep)
    (first
      | (go_at_call 77; refine (E1.out _ _ _).mono ?_; rintro e w' ⟨rfl, rfl⟩)
      | (go_at_call 76; refine (or_any (Lib.compareInt X0 Y0) (Lib.compareInt X1 Y1) (Lib.compareInt X2 Y2) _ _ (by simp) (by simp) (by simp)).mono ?_; rintro e w' ⟨rfl, rfl⟩))
  go_wp2_with fail
  go_ret
  obtain ⟨os, hos⟩ := HG.out
  exact ⟨rfl, 1, _, by rw [hos, Sort.alloc_eq_grow, Sort.grow_grow]; rfl⟩

theorem compare_any (x y : Nat × Nat × Nat) (W : World) :
    Calls Try.prog 53 #[.agg (encT x).toArray, .agg (encT y).toArray] W fun e w' => e = .returned (.int .i64 (cfT x y)) ∧ ∃ q os', w' = Sort.grow (W.drewN q) os' :=
  compare_int x.1 x.2.1 x.2.2 y.1 y.2.1 y.2.2 W

theorem cf_lt (x y : Nat × Nat × Nat) : ltOf cfT x y = decide (x.1 < y.1 ∨ (x.1 = y.1 ∧ (x.2.1 < y.2.1 ∨ (x.2.1 = y.2.1 ∧ x.2.2 < y.2.2)))) := by
  have key : ∀ a b : Nat, (Lib.compareInt a b < 0 ↔ a < b) ∧ (Lib.compareInt a b = 0 ↔ a = b) := by
    intro a b
    unfold Lib.compareInt
    rcases Nat.lt_trichotomy a b with h | h | h
    · rw [if_pos (by omega)]; omega
    · rw [if_neg (by omega), if_neg (by omega)]; omega
    · rw [if_neg (by omega), if_pos (by omega)]; omega
  obtain ⟨a1, a2⟩ := key x.1 y.1
  obtain ⟨b1, b2⟩ := key x.2.1 y.2.1
  obtain ⟨c1, c2⟩ := key x.2.2 y.2.2
  unfold ltOf
  rw [decide_eq_decide]
  unfold cfT or3
  by_cases h1 : Lib.compareInt x.1 y.1 = 0
  · rw [if_pos h1]
    have e1 := a2.1 h1
    by_cases h2 : Lib.compareInt x.2.1 y.2.1 = 0
    · rw [if_pos h2]
      have e2 := b2.1 h2
      rw [c1]; omega
    · rw [if_neg h2, b1]
      have e2 : x.2.1 ≠ y.2.1 := fun q => h2 (b2.2 q)
      omega
  · rw [if_neg h1, a1]
    have e1 : x.1 ≠ y.1 := fun q => h1 (a2.2 q)
    omega

/-- The order in which triangles rise. -/
theorem swoT : Sort.SWO (ltOf cfT) where
  irrefl x := by rw [cf_lt, decide_eq_false_iff_not]; omega
  trans x y z h1 h2 := by rw [cf_lt, decide_eq_true_eq] at *; omega
  ntrans x y z h1 h2 := by rw [cf_lt, decide_eq_false_iff_not] at *; omega

/-- The triangles in their order. -/
def sortT (C : List (Nat × Nat × Nat)) : List (Nat × Nat × Nat) := (Sort.pdq (ltOf cfT) C.toArray 0 C.length (Lib.bitLen C.length) true true).toList

theorem sortT_perm (C : List (Nat × Nat × Nat)) : (sortT C).Perm C := by
  have h := (Sort.pdq_sorts (ltOf cfT) swoT C.toArray 0 C.toArray.size (Lib.bitLen C.length) true true (Nat.zero_le _) (Nat.le_refl _) (Or.inl rfl)).1
  obtain ⟨h1, _, h3⟩ := h
  unfold sortT
  have e : C.toArray.size = C.length := by simp
  rw [e] at h1 h3
  generalize Sort.pdq (ltOf cfT) C.toArray 0 C.length (Lib.bitLen C.length) true true = D at *
  have s1 : D.extract 0 C.length = D := by
    rw [← h1]; exact Array.extract_size
  have s2 : C.toArray.extract 0 C.length = C.toArray := by
    have := Array.extract_size (xs := C.toArray)
    rw [e] at this; exact this
  rw [s1, s2] at h3
  exact h3

theorem sortT_length (C : List (Nat × Nat × Nat)) : (sortT C).length = C.length := (sortT_perm C).length_eq

theorem cmpLaysT (blk off size : Nat) (w : World) : CmpLays Try.prog 53 #[] encT 3 cfT blk off size w := fun _ _ _ _ x y => compare_any x y _

/-- THE SORT OF THE TRIANGLES. -/
theorem sort_any (C : List (Nat × Nat × Nat)) (blk cap : Nat) (w : World) (hH : Sort.HoldsK encT 3 w blk 0 C.toArray) (hblk : blk < w.heap.size) (hsz : C.length ≤ 16) :
    Calls Try.prog 52 #[.slice (some ⟨blk, 0, none⟩) C.length cap, .func (.func 53) #[] #[]] w fun e w' =>
      e = .returned (.tuple #[]) ∧ ∃ n os, w' = sortWorldK encT 3 w blk 0 n (sortT C).toArray os := by
  have eg : ∀ args w, (callFunc 53 args).run Try.prog w = .ok (.enter 53 args) w := enters_of Try.func53 (by kernel_rfl) rfl
  have h := AnyQ.slices_SortFunc_eq sortTri 3 Try.isAgg48 Try.sizeOf48 encT (fun _ => rfl) (fun x v hv => by simp [encT] at hv; rcases hv with rfl | rfl | rfl <;> rfl) cfT swoT 53 #[] blk 0 cap C.toArray w eg (cmpLaysT blk 0 C.toArray.size w) hH hblk (by simp; omega)
  have e : C.toArray.size = C.length := by simp
  rw [e] at h
  exact h

end Go.Proofs.Ytlicmfhgjonmnaa
