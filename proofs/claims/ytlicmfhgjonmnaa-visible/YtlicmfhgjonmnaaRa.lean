/- Walks of the document's reader. Own work. -/
import Derived.Test.YtlicmfhgjonmnaaWi
namespace Go.Proofs.Ytlicmfhgjonmnaa
open Go.RowKit
set_option linter.unusedVariables false

/-- The reader, in block q. -/
def RS (w : World) (q : Nat) (s : ByteArray) (I Bad : Int) : Prop := w.heap[q]? = some (.cells #[.string s, .int .i64 I, .int .i64 Bad] 78 (0, 0))

/-- But for block q the two worlds are one (and but for draws). -/
structure Ex (q : Nat) (w w' : World) : Prop where
  os : w'.os = w.os
  tape : w'.tape = w.tape
  output : w'.output = w.output
  size : w'.heap.size = w.heap.size
  block : ∀ k, k ≠ q → w'.heap[k]? = w.heap[k]?

theorem Ex.refl (q : Nat) (w : World) : Ex q w w := ⟨rfl, rfl, rfl, rfl, fun _ _ => rfl⟩
theorem Ex.trans {q : Nat} {a b c : World} (h : Ex q a b) (k : Ex q b c) : Ex q a c :=
  ⟨k.os.trans h.os, k.tape.trans h.tape, k.output.trans h.output, k.size.trans h.size, fun i hi => (k.block i hi).trans (h.block i hi)⟩
theorem Ex.drewN {q : Nat} {a b : World} (h : Ex q a b) (n : Nat) : Ex q a (b.drewN n) := h.trans ⟨rfl, rfl, rfl, rfl, fun _ _ => rfl⟩
theorem Ex.drew {q : Nat} {a b : World} (h : Ex q a b) : Ex q a b.drew := h.trans ⟨rfl, rfl, rfl, rfl, fun _ _ => rfl⟩
theorem Ex.set {q : Nat} {a b : World} (h : Ex q a b) (o : Nat) (v : Value) : Ex q a (b.setCell ⟨q, o, none⟩ v) :=
  h.trans ⟨rfl, rfl, rfl, by simp [World.setCell], fun k hk => Below.heap_setCell _ _ _ _ hk⟩
theorem Ex.below {q B : Nat} {a b w0 : World} (h : Ex q a b) (hb : Below B w0 a) (hq : B ≤ q) : Below B w0 b :=
  hb.trans ⟨h.os, h.tape, h.output, Nat.le_of_eq h.size.symm, fun k hk => h.block k (by omega)⟩
theorem Ex.owns {q base : Nat} {a b : World} (h : Ex q a b) {e : TypeId} {size n : Nat} {v : Value} {xs : List Value} (ho : a.ownsRow base e size v n xs) (hq : q < base) : b.ownsRow base e size v n xs := by
  obtain ⟨h1, h2⟩ := ho
  refine ⟨h1, ?_⟩
  rcases h2 with h2 | ⟨g, cap, cur, hv, hg, hh, r⟩
  · exact .inl h2
  · exact .inr ⟨g, cap, cur, hv, hg, by rw [h.block g (by omega)]; exact hh, r⟩

theorem RS.cells {w : World} {q : Nat} {s : ByteArray} {I Bad : Int} (h : RS w q s I Bad) :
    w.cell? ⟨q, 0, none⟩ = some (.string s) ∧ w.cell? ⟨q, 1, none⟩ = some (.int .i64 I) ∧ w.cell? ⟨q, 2, none⟩ = some (.int .i64 Bad) ∧ w.frozen? ⟨q, 1, none⟩ = false ∧ w.frozen? ⟨q, 2, none⟩ = false := by
  unfold RS at h
  refine ⟨?_, ?_, ?_, ?_, ?_⟩ <;> simp [World.cell?, World.frozen?, h]

theorem RS.drewN {w : World} {q : Nat} {s : ByteArray} {I Bad : Int} (h : RS w q s I Bad) (n : Nat) : RS (w.drewN n) q s I Bad := h
theorem RS.drew {w : World} {q : Nat} {s : ByteArray} {I Bad : Int} (h : RS w q s I Bad) : RS w.drew q s I Bad := h

theorem RS.setI {w : World} {q : Nat} {s : ByteArray} {I Bad : Int} (h : RS w q s I Bad) (J : Int) : RS (w.setCell ⟨q, 1, none⟩ (.int .i64 J)) q s J Bad := by
  unfold RS at *
  have hlt := lt_of_block h
  have h' : w.heap[q] = .cells #[.string s, .int .i64 I, .int .i64 Bad] 78 (0, 0) := by simpa [Array.getElem?_eq_getElem hlt] using h
  show (w.heap.modify q _)[q]? = _
  rw [Array.getElem?_eq_getElem (by simpa using hlt), Array.getElem_modify_self, h']
  rfl

theorem RS.setB {w : World} {q : Nat} {s : ByteArray} {I Bad : Int} (h : RS w q s I Bad) (J : Int) : RS (w.setCell ⟨q, 2, none⟩ (.int .i64 J)) q s I J := by
  unfold RS at *
  have hlt := lt_of_block h
  have h' : w.heap[q] = .cells #[.string s, .int .i64 I, .int .i64 Bad] 78 (0, 0) := by simpa [Array.getElem?_eq_getElem hlt] using h
  show (w.heap.modify q _)[q]? = _
  rw [Array.getElem?_eq_getElem (by simpa using hlt), Array.getElem_modify_self, h']
  rfl

def hereB (s : ByteArray) (I : Nat) (Bad : Int) (lo hi : Nat) : Bool := decide (Bad < 0) && (decide (I < s.size) && (decide (lo ≤ bAt s I) && decide (bAt s I ≤ hi)))

set_option maxHeartbeats 2000000 in
theorem here_any (q : Nat) (s : ByteArray) (I : Nat) (Bad : Int) (lo hi : Nat) (w : World) (hs : s.size ≤ 160) (h : RS w q s I Bad) :
    Calls Try.prog 54 #[.pointer (some ⟨q, 0, none⟩), .int .u8 lo, .int .u8 hi] w fun e w' => e = .returned (.bool (hereB s I Bad lo hi)) ∧ ∃ n, w' = w.drewN n := by
  obtain ⟨c0, c1, c2, f1, f2⟩ := h.cells
  clear h
  by_cases h1 : Bad < 0
  · have d1 : decide (Bad < 0) = true := by simpa using h1
    by_cases h2 : I < s.size
    · have d2 : (I : Int) < (s.size : Int) := by omega
      have d2' : decide ((I : Int) < (s.size : Int)) = true := by simpa using d2
      have hb : bAt s I = s[I].toNat := by simp [bAt, h2]
      by_cases h3 : lo ≤ bAt s I
      · have d3 : decide (lo ≤ s[I].toNat) = true := by rw [hb] at h3; simpa using h3
        rw [show hereB s I Bad lo hi = decide (s[I].toNat ≤ hi) by rw [hb] at h3; simp only [hereB, h1, h2, hb, h3]; simp]
        clear hb h3
        go_enter Try.func54, Try.ntmps54
        go_wp2
        go_quiet (fail)
        go_wp2
        go_ret
        exact ⟨rfl, _, rfl⟩
      · have d3 : decide (lo ≤ s[I].toNat) = false := by rw [hb] at h3; simpa using h3
        rw [show hereB s I Bad lo hi = false by simp [hereB, h3]]
        clear hb h3
        go_enter Try.func54, Try.ntmps54
        go_wp2
        go_quiet (fail)
        go_wp2
        go_ret
        exact ⟨rfl, _, rfl⟩
    · have d2 : decide ((I : Int) < (s.size : Int)) = false := by simp; omega
      rw [show hereB s I Bad lo hi = false by simp [hereB, h2]]
      go_enter Try.func54, Try.ntmps54
      go_wp2
      go_quiet (fail)
      go_wp2
      go_ret
      exact ⟨rfl, _, rfl⟩
  · have d1 : decide (Bad < 0) = false := by simpa using h1
    rw [show hereB s I Bad lo hi = false by simp [hereB, h1]]
    go_enter Try.func54, Try.ntmps54
    go_wp2
    go_quiet (fail)
    go_wp2
    go_ret
    exact ⟨rfl, _, rfl⟩

set_option maxHeartbeats 1000000 in
theorem fail_yes (q : Nat) (s : ByteArray) (I : Nat) (w : World) (h : RS w q s I (-1)) :
    Calls Try.prog 38 #[.pointer (some ⟨q, 0, none⟩)] w fun e w' => e = .returned (.tuple #[]) ∧ RS w' q s I I ∧ Ex q w w' := by
  obtain ⟨c0, c1, c2, f1, f2⟩ := h.cells
  have H := hide h
  clear h
  go_enter Try.func38, Try.ntmps38
  go_wp2
  go_end0
  exact ⟨rfl, H.out.setB _, (Ex.refl _ _).set _ _⟩

set_option maxHeartbeats 1000000 in
theorem fail_no (q : Nat) (s : ByteArray) (I : Nat) (Bad : Int) (hB : 0 ≤ Bad) (w : World) (h : RS w q s I Bad) :
    Calls Try.prog 38 #[.pointer (some ⟨q, 0, none⟩)] w fun e w' => e = .returned (.tuple #[]) ∧ RS w' q s I Bad ∧ Ex q w w' := by
  obtain ⟨c0, c1, c2, f1, f2⟩ := h.cells
  have H := hide h
  clear h
  have hB' : ¬ Bad < 0 := by omega
  go_enter Try.func38, Try.ntmps38
  go_wp2
  go_end0
  exact ⟨rfl, H.out, Ex.refl _ _⟩

end Go.Proofs.Ytlicmfhgjonmnaa
