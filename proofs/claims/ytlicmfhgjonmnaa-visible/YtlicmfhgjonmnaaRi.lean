/- The document's Check. Own work. -/
import Derived.Test.YtlicmfhgjonmnaaRh
namespace Go.Proofs.Ytlicmfhgjonmnaa
open Go.RowKit
set_option linter.unusedVariables false

def apL (l : List (Int × Int)) (i k : Nat) : Bool := apartI l.length i k (pAt l i) (pAt l (nextI l.length i)) (pAt l k) (pAt l (nextI l.length k))
/-- Edge i meets a later one. -/
def badRow (l : List (Int × Int)) (i : Nat) : Bool := (List.range l.length).any fun k => decide (i < k) && !apL l i k

theorem badRow_true {l : List (Int × Int)} {i k : Nat} (h1 : i < k) (h2 : k < l.length) (h : apL l i k = false) : badRow l i = true := by
  rw [badRow, List.any_eq_true]
  exact ⟨k, List.mem_range.2 h2, by simp [h1, h]⟩

theorem badRow_false {l : List (Int × Int)} {i : Nat} (h : ∀ k, i < k → k < l.length → apL l i k = true) : badRow l i = false := by
  rw [badRow, List.any_eq_false]
  intro k hk
  by_cases hik : i < k
  · simp [h k hik (List.mem_range.1 hk)]
  · simp [hik]

set_option maxHeartbeats 1000000 in
theorem rCheck_long (s : ByteArray) (w : World) (hs : s.size ≤ maxLen) (h : 160 < s.size) :
    Calls Try.prog 11 #[.string s] w fun e w' => e = .returned (.tuple #[.int .i64 1, .int .i64 0]) ∧ Below w.heap.size w w' := by
  unfold maxLen at hs
  have g : (160 : Int) < (s.size : Int) := by omega
  go_enter Try.func11, Try.ntmps11
  go_wp2_with fail
  go_ret2
  exact ⟨rfl, Below.refl _ _⟩

set_option maxHeartbeats 1000000 in
theorem rCheck_text (s : ByteArray) (w : World) (hs : s.size ≤ 160) (p : Nat) (h : rdAll s 16 0 [] = .inl p) :
    Calls Try.prog 11 #[.string s] w fun e w' => e = .returned (.tuple #[.int .i64 2, .int .i64 p]) ∧ Below w.heap.size w w' := by
  have g : ¬ (160 : Int) < (s.size : Int) := by omega
  have H := hide h
  clear h
  go_enter Try.func11, Try.ntmps11
  go_wp2_with fail
  refine (Read_any s _ hs).mono ?_
  rintro e w1 ⟨v2, v3, rfl, hb, hr⟩
  rw [H.out] at hr
  obtain ⟨rfl, rfl⟩ := hr
  have g2 : (0 : Int) ≤ (p : Int) := by omega
  have Hb := hide hb
  clear hb
  go_wp2_with fail
  go_ret2
  exact ⟨rfl, Hb.out⟩

set_option maxRecDepth 100000 in
set_option maxHeartbeats 4000000 in
theorem rCheck_meet (s : ByteArray) (w : World) (hs : s.size ≤ 160) (l : List (Int × Int)) (h : rdAll s 16 0 [] = .inr l) (hB : ∀ i, Bd (pAt l i)) :
    Calls Try.prog 11 #[.string s] w fun e w' => Below w.heap.size w w' ∧
      (firstI (badRow l) l.length ≠ -1 → e = .returned (.tuple #[.int .i64 3, .int .i64 (firstI (badRow l) l.length)])) ∧
      (firstI (badRow l) l.length = -1 → e = .returned (.tuple #[.int .i64 0, .int .i64 0])) := by
  have g : ¬ (160 : Int) < (s.size : Int) := by omega
  have hlen := rdAll_len s 16 0 [] l h (by simp)
  have hl1 := hlen.1
  have hl2 := hlen.2
  clear hlen
  have H := hide h
  have HB := hide hB
  clear h hB
  go_enter Try.func11, Try.ntmps11
  go_wp2_with fail
  refine (Read_any s _ hs).mono ?_
  rintro e w1 ⟨v2, v3, rfl, hb, hr⟩
  rw [H.out] at hr
  obtain ⟨gb, cap, rfl, rfl, hgb, hrow⟩ := hr
  have g2 : ¬ (0 : Int) ≤ (-1 : Int) := by omega
  have Hb := hide hb
  have Hrow := hide hrow
  clear hb hrow
  go_wp2_with fail
  go_loopw [6] (fun iv wr => ∃ i : Nat, i ≤ l.length ∧ iv = .int .i64 i ∧ (∀ j, j < i → badRow l j = false) ∧ Below w1.heap.size w1 wr) (fun iv _ => l.length - (intOf iv).toNat)
  case atStart => exact ⟨0, Nat.zero_le _, rfl, fun j h => absurd h (Nat.not_lt_zero _), Below.refl _ _⟩
  case round =>
    obtain ⟨i, hi, rfl, hrows, hbw⟩ := hrel
    have Hrows := hide hrows
    have Hbw := hide hbw
    clear hrows hbw
    by_cases hlt : i < l.length
    · have hlt' : (i : Int) < (l.length : Int) := by omega
      go_wp2_with fail
      go_loopw [7] (fun kv wr2 => ∃ k : Nat, i < k ∧ k ≤ l.length ∧ kv = .int .i64 k ∧ (∀ j, i < j → j < k → apL l i j = true) ∧ Below w1.heap.size w1 wr2) (fun kv _ => l.length - (intOf kv).toNat)
      case atStart => exact ⟨i + 1, by omega, by omega, by go_num, fun j h1 h2 => by omega, Hbw.out⟩
      case round =>
        obtain ⟨k, hik, hk, rfl, hap, hbw2⟩ := hrel
        have Hap := hide hap
        have Hbw2 := hide hbw2
        clear hap hbw2
        by_cases hlk : k < l.length
        · have hlk' : (k : Int) < (l.length : Int) := by omega
          cases ha : apL l i k
          · have Ha := hide ha
            clear ha
            go_wp2_with fail
            refine (apart_any l hl2 HB.out gb cap i k hik hlk _ (Nat.lt_of_lt_of_le hgb Hbw2.out.size) (Hrow.out.below Hbw2.out hgb)).mono ?_
            rintro e w3 ⟨rfl, hb3⟩
            have hv : apartI l.length i k (pAt l i) (pAt l (nextI l.length i)) (pAt l k) (pAt l (nextI l.length k)) = false := Ha.out
            rw [hv]
            have Hb3 := hide hb3
            clear hb3 hv
            go_wp2_with fail
            go_ret2
            have hF : firstI (badRow l) l.length = i := firstI_some hlt (badRow_true hik hlk Ha.out) Hrows.out
            refine ⟨below_next Hb.out (below_next Hbw2.out Hb3.out), fun _ => by rw [hF]; rfl, fun hn => ?_⟩
            rw [hF] at hn
            omega
          · have Ha := hide ha
            clear ha
            go_wp2_with fail
            refine (apart_any l hl2 HB.out gb cap i k hik hlk _ (Nat.lt_of_lt_of_le hgb Hbw2.out.size) (Hrow.out.below Hbw2.out hgb)).mono ?_
            rintro e w3 ⟨rfl, hb3⟩
            have hv : apartI l.length i k (pAt l i) (pAt l (nextI l.length i)) (pAt l k) (pAt l (nextI l.length k)) = true := Ha.out
            rw [hv]
            have Hb3 := hide hb3
            clear hb3 hv
            go_wp2_with fail
            go_roundw
            case rel =>
              refine ⟨k + 1, by omega, by omega, by go_num, fun j h1 h2 => ?_, below_next Hbw2.out Hb3.out⟩
              by_cases hjk : j = k
              · subst hjk; exact Ha.out
              · exact Hap.out j h1 (by omega)
            case measure => simp [intOf]; omega
        · have hlk' : ¬ (k : Int) < (l.length : Int) := by omega
          go_wp2_with fail
          go_roundw
          case rel =>
            refine ⟨i + 1, by omega, by go_num, fun j hj => ?_, Hbw2.out⟩
            by_cases hji : j = i
            · subst hji; exact badRow_false (fun k' h1 h2 => Hap.out k' h1 (by omega))
            · exact Hrows.out j (by omega)
          case measure => simp [intOf]; omega
    · have hlt' : ¬ (i : Int) < (l.length : Int) := by omega
      go_wp2_with fail
      go_ret2
      have hF : firstI (badRow l) l.length = -1 := firstI_none (fun j hj => Hrows.out j (by omega))
      exact ⟨below_next Hb.out Hbw.out, fun hn => absurd hF hn, fun _ => rfl⟩

end Go.Proofs.Ytlicmfhgjonmnaa
