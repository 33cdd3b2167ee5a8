/- What a text of corners is, as a plain function: the byte at a place, a number, a point, all points. Own work. -/
import Derived.Laws.ComplexArith
namespace Go.Proofs.Ytlicmfhgjonmnaa

def bAt (s : ByteArray) (k : Nat) : Nat := if h : k < s.size then s[k].toNat else 0

def isDig (n : Nat) : Bool := decide (48 ≤ n) && decide (n ≤ 57)

/-- From a digit on: at most f digits more; a number that begins with 0 is 0. '.inl p': wrong at p; '.inr (n, j)': the number, and where it ends. -/
def rdD (s : ByteArray) (sg : Int) : Nat → Nat → Nat → Nat ⊕ (Int × Nat)
  | 0, _, i => .inl i
  | f + 1, n, i =>
    if isDig (bAt s i) = true then
      if 10 * n + (bAt s i - 48) ≠ 0 ∧ f ≠ 0 ∧ isDig (bAt s (i + 1)) = true then rdD s sg f (10 * n + (bAt s i - 48)) (i + 1)
      else .inr (sg * (10 * n + (bAt s i - 48) : Nat), i + 1)
    else .inl i

def rdNum (s : ByteArray) (i : Nat) : Nat ⊕ (Int × Nat) :=
  if bAt s i = 45 then (if bAt s (i + 1) = 48 then .inl (i + 1) else rdD s (-1) 3 0 (i + 1)) else rdD s 1 3 0 i

/-- Behind a point that ends at k: m points more may follow. -/
def kp (s : ByteArray) (next : Nat → List (Int × Int) → Nat ⊕ List (Int × Int)) (m : Nat) (acc : List (Int × Int)) (p : Int × Int) (k : Nat) : Nat ⊕ List (Int × Int) :=
  if k = s.size ∧ 3 ≤ acc.length + 1 then .inr (acc ++ [p]) else if bAt s k = 32 ∧ m ≠ 0 then next (k + 1) (acc ++ [p]) else .inl k

def ky (s : ByteArray) (next : Nat → List (Int × Int) → Nat ⊕ List (Int × Int)) (m : Nat) (acc : List (Int × Int)) (x : Int) : Nat ⊕ (Int × Nat) → Nat ⊕ List (Int × Int)
  | .inl p => .inl p
  | .inr (y, k) => kp s next m acc (x, y) k

def kx (s : ByteArray) (next : Nat → List (Int × Int) → Nat ⊕ List (Int × Int)) (m : Nat) (acc : List (Int × Int)) : Nat ⊕ (Int × Nat) → Nat ⊕ List (Int × Int)
  | .inl p => .inl p
  | .inr (x, j) => if bAt s j = 44 then ky s next m acc x (rdNum s (j + 1)) else .inl j

def rdAll (s : ByteArray) : Nat → Nat → List (Int × Int) → Nat ⊕ List (Int × Int)
  | 0, i, _ => .inl i
  | m + 1, i, acc => kx s (rdAll s m) m acc (rdNum s i)

theorem bAt_lt {s : ByteArray} {k : Nat} (h : bAt s k ≠ 0) : k < s.size := by
  unfold bAt at h
  split at h
  · assumption
  · exact absurd rfl h

theorem bAt_256 (s : ByteArray) (k : Nat) : bAt s k < 256 := by
  unfold bAt
  split
  · exact UInt8.toNat_lt _
  · omega

theorem isDig_iff {n : Nat} : isDig n = true ↔ 48 ≤ n ∧ n ≤ 57 := by simp [isDig]

/-- At most k digits from i on. -/
def lp (s : ByteArray) : Nat → Nat → Nat → Nat × Nat
  | 0, n, i => (n, i)
  | k + 1, n, i => if isDig (bAt s i) = true then lp s k (10 * n + (bAt s i - 48)) (i + 1) else lp s k n i

theorem lp_stop {s : ByteArray} {i : Nat} (h : isDig (bAt s i) = false) : ∀ k n, lp s k n i = (n, i)
  | 0, n => rfl
  | k + 1, n => by rw [lp, h]; simp [lp_stop h k n]

theorem rdD_lp {s : ByteArray} {sg : Int} : ∀ (f n i : Nat), isDig (bAt s i) = true → 10 * n + (bAt s i - 48) ≠ 0 →
    rdD s sg (f + 1) n i = .inr (sg * ((lp s (f + 1) n i).1 : Nat), (lp s (f + 1) n i).2)
  | 0, n, i, h, h0 => by
    rw [rdD, if_pos h, if_neg (by simp), lp, if_pos h, lp]
  | f + 1, n, i, h, h0 => by
    rw [rdD, if_pos h]
    by_cases h2 : isDig (bAt s (i + 1)) = true
    · rw [if_pos ⟨h0, by simp, h2⟩, rdD_lp f _ _ h2 (by omega)]
      rw [show lp s (f + 1 + 1) n i = lp s (f + 1) (10 * n + (bAt s i - 48)) (i + 1) by rw [lp, if_pos h]]
    · rw [if_neg (fun a => h2 a.2.2), lp, if_pos h, lp_stop (by simpa using h2)]

theorem lp_bd {s : ByteArray} : ∀ (k n i : Nat), i ≤ s.size → i ≤ (lp s k n i).2 ∧ (lp s k n i).2 ≤ s.size
  | 0, n, i, h => by simp [lp]; omega
  | k + 1, n, i, h => by
    rw [lp]
    split
    · rename_i hd
      have hlt : i < s.size := bAt_lt (by have := isDig_iff.1 hd; omega)
      have := lp_bd (s := s) k (10 * n + (bAt s i - 48)) (i + 1) (by omega)
      omega
    · exact lp_bd k n i h

theorem rdAll_len (s : ByteArray) : ∀ (m i : Nat) (acc l : List (Int × Int)), rdAll s m i acc = .inr l → acc.length + m ≤ 16 → 3 ≤ l.length ∧ l.length ≤ 16
  | 0, i, acc, l, h, _ => by simp [rdAll] at h
  | m + 1, i, acc, l, h, hm => by
    rw [rdAll] at h
    cases h1 : rdNum s i with
    | inl p => rw [h1] at h; simp [kx] at h
    | inr xj =>
      obtain ⟨x, j⟩ := xj
      rw [h1] at h
      simp only [kx] at h
      split at h
      · cases h2 : rdNum s (j + 1) with
        | inl p => rw [h2] at h; simp [ky] at h
        | inr yk =>
          obtain ⟨y, k⟩ := yk
          rw [h2] at h
          simp only [ky, kp] at h
          split at h
          · rename_i hc
            injection h with h
            subst h
            simp; omega
          · split at h
            · exact rdAll_len s m _ _ l h (by simp; omega)
            · cases h
      · cases h

end Go.Proofs.Ytlicmfhgjonmnaa
