/- The scanner: a scope with four labels. Own work. -/
import Derived.Test.YtlicmfhgjonmnaaWd
import Derived.WalkMore
import Derived.ScopeJumps
namespace Go.Proofs.Ytlicmfhgjonmnaa
open Go.RowKit
set_option linter.unusedVariables false

/-- What holds by a jump to a label; any other way out: as Q. -/
def jumps (J : Nat → Act → World → Prop) (Q : Exit → Act → World → Prop) : Exit → Act → World → Prop
  | .goto l, a, w => J l a w
  | e, a, w => Q e a w

/-- Out of a scope: a jump goes on at its label, every other way out leaves it. -/
theorem scope_out {P : Program} {Q : Exit → Act → World → Prop} {c : Code} {J : Nat → Act → World → Prop} {b : Frame} {k : List Item} {cs : List Frame} {m : Machine}
    (hjump : ∀ l a w, J l a w → ∃ rest, findLabel c l = some rest ∧ ∃ e a' w', Q e a' w' ∧ Arrives P (lone (b.at a (.code rest :: .inScope c :: k)) cs w) b k cs e a' w')
    {e : Exit} {a : Act} {w : World} (hq : jumps J Q e a w) (harr : Arrives P m b (.inScope c :: k) cs e a w) : ∃ e a' w', Q e a' w' ∧ Arrives P m b k cs e a' w' := by
  match e, hq, harr with
  | .goto l, hq, harr =>
    obtain ⟨rest, hf, e', a', w', hq', ha'⟩ := hjump l a w hq
    exact ⟨e', a', w', hq', .of_steps (harr _ (by simp only [gotoIn, hf])) ha'⟩
  | .normal, hq, harr => exact ⟨.normal, a, w, hq, Steps.trans harr (.one step_inScope)⟩
  | .exit id, hq, harr => exact ⟨.exit id, a, w, hq, fun k' h => harr k' (by simpa only [exitTo] using h)⟩
  | .ret, hq, harr => exact ⟨.ret, a, w, hq, harr⟩
  | .panic ch, hq, harr => exact ⟨.panic ch, a, w, hq, harr⟩
  | .outgrown, hq, harr => exact ⟨.outgrown, a, w, hq, harr⟩

/-- A scope in which the run jumps to several labels: at each label a claim with a number, which every pass lowers. -/
theorem wp_scope_many {P : Program} {a : Act} {w : World} {Q : Exit → Act → World → Prop} {c : Code} (J : Nat → Nat → Act → World → Prop)
    (first : c.wp P (jumps (fun l a w => ∃ n, J l n a w) Q) a w)
    (pass : ∀ n l a w, J l n a w → ∃ rest, findLabel c l = some rest ∧ rest.wp P (jumps (fun l' a' w' => ∃ n', n' < n ∧ J l' n' a' w') Q) a w) : (Code.scope c).wp P Q a w := by
  intro b k cs
  have key : ∀ n l a w, J l n a w → ∃ rest, findLabel c l = some rest ∧ ∃ e a' w', Q e a' w' ∧ Arrives P (lone (b.at a (.code rest :: .inScope c :: k)) cs w) b k cs e a' w' := by
    intro n
    induction n using Nat.strongRecOn with
    | _ n ih =>
      intro l a w hJ
      obtain ⟨rest, hf, hp⟩ := pass n l a w hJ
      obtain ⟨e, a₁, w₁, hq, harr⟩ := hp b (.inScope c :: k) cs
      exact ⟨rest, hf, scope_out (fun l' a' w' h => ih _ h.choose_spec.1 l' a' w' h.choose_spec.2) hq harr⟩
  obtain ⟨e, a₁, w₁, hq, harr⟩ := first b (.inScope c :: k) cs
  obtain ⟨e', a', w', hq', ha'⟩ := scope_out (fun l' a' w' h => key _ l' a' w' h.choose_spec) hq harr
  exact ⟨e', a', w', hq', .of_steps (.one step_scope) ha'⟩

section
variable {J : Nat → Act → World → Prop} {Q : Exit → Act → World → Prop} {a : Act} {w : World}
theorem jumps_goto (l : Nat) : jumps J Q (.goto l) a w = J l a w := rfl
theorem jumps_ret : jumps J Q .ret a w = Q .ret a w := rfl
theorem jumps_normal : jumps J Q .normal a w = Q .normal a w := rfl
end

/-- The scanner's frame. -/
def Fr (s : ByteArray) (v : Value) (at_ sg sz dg rt : Int) (sc : Bool) (a : Act) : Prop :=
  ∃ u : Nat → Value, a = { tmps := #[.string s, u 1, u 2, u 3, v, .int .i64 at_, .int .i64 sg, .int .i64 sz, .int .i64 dg, .int .i64 rt, .bool sc, u 11, u 12, u 13, u 14, u 15, u 16, u 17, u 18, u 19, u 20, u 21, u 22, u 23, u 24, u 25, u 26, u 27, u 28, u 29, u 30, u 31, u 32, u 33, u 34, u 35, u 36, u 37, u 38, u 39, u 40, u 41, u 42, u 43, u 44, u 45, u 46, u 47, u 48, u 49, u 50, u 51, u 52, u 53, u 54, u 55, u 56, u 57, u 58, u 59, u 60, u 61, u 62, u 63, u 64, u 65, u 66, u 67, u 68, u 69, u 70, u 71, u 72, u 73, u 74, u 75, u 76, u 77, u 78, u 79, u 80, u 81, u 82, u 83, u 84, u 85, u 86, u 87, u 88, u 89, u 90, u 91], defers := [] }

theorem Fr.mk {s : ByteArray} {v : Value} {at_ sg sz dg rt : Int} {sc : Bool} {u1 u2 u3 u11 u12 u13 u14 u15 u16 u17 u18 u19 u20 u21 u22 u23 u24 u25 u26 u27 u28 u29 u30 u31 u32 u33 u34 u35 u36 u37 u38 u39 u40 u41 u42 u43 u44 u45 u46 u47 u48 u49 u50 u51 u52 u53 u54 u55 u56 u57 u58 u59 u60 u61 u62 u63 u64 u65 u66 u67 u68 u69 u70 u71 u72 u73 u74 u75 u76 u77 u78 u79 u80 u81 u82 u83 u84 u85 u86 u87 u88 u89 u90 u91 : Value} : Fr s v at_ sg sz dg rt sc { tmps := #[.string s, u1, u2, u3, v, .int .i64 at_, .int .i64 sg, .int .i64 sz, .int .i64 dg, .int .i64 rt, .bool sc, u11, u12, u13, u14, u15, u16, u17, u18, u19, u20, u21, u22, u23, u24, u25, u26, u27, u28, u29, u30, u31, u32, u33, u34, u35, u36, u37, u38, u39, u40, u41, u42, u43, u44, u45, u46, u47, u48, u49, u50, u51, u52, u53, u54, u55, u56, u57, u58, u59, u60, u61, u62, u63, u64, u65, u66, u67, u68, u69, u70, u71, u72, u73, u74, u75, u76, u77, u78, u79, u80, u81, u82, u83, u84, u85, u86, u87, u88, u89, u90, u91], defers := [] } :=
  ⟨fun k => (#[undef, u1, u2, u3, undef, undef, undef, undef, undef, undef, undef, u11, u12, u13, u14, u15, u16, u17, u18, u19, u20, u21, u22, u23, u24, u25, u26, u27, u28, u29, u30, u31, u32, u33, u34, u35, u36, u37, u38, u39, u40, u41, u42, u43, u44, u45, u46, u47, u48, u49, u50, u51, u52, u53, u54, u55, u56, u57, u58, u59, u60, u61, u62, u63, u64, u65, u66, u67, u68, u69, u70, u71, u72, u73, u74, u75, u76, u77, u78, u79, u80, u81, u82, u83, u84, u85, u86, u87, u88, u89, u90, u91] : Array Value).getD k undef, rfl⟩

/-- What stands within a body's scope (the scanner's). -/
def scopeIn : Option Code → Code
  | some (.seq _ (.scope c)) => c
  | _ => .skip

def xy (acc : List CP) : List (Int × Int) := acc.map fun p => (p.x, p.y)

def cval (p : CP) : Value := .complex .f64 p.re p.im

/-- The corners so far. -/
def Cr (w0 w : World) (v : Value) (acc : List CP) : Prop := w.ownsRow w0.heap.size 70 1 v acc.length (acc.map cval) ∧ Below w0.heap.size w0 w

def KK (s : ByteArray) (m : Nat) (acc : List CP) (rt : Int) (sc : Bool) (r : Nat ⊕ (Int × Nat)) : Nat ⊕ List (Int × Int) :=
  if sc = true then ky s (rdAll s m) m (xy acc) rt r else kx s (rdAll s m) m (xy acc) r

/-- What holds at the labels: 0 a number begins, 1 a digit is wanted, 3 a point is read, 2 wrong. -/
def JJ (s : ByteArray) (w0 : World) (R : Nat ⊕ List (Int × Int)) (l n : Nat) (a : Act) (w : World) : Prop :=
  ∃ (v : Value) (i : Nat) (sg : Int) (z : Nat) (dg rt : Int) (sc : Bool) (acc : List CP) (m : Nat),
    Fr s v i sg z dg rt sc a ∧ Cr w0 w v acc ∧ (l ≠ 2 → m + acc.length + 1 = 16) ∧ i ≤ s.size ∧ -999 ≤ rt ∧ rt ≤ 999 ∧ z ≤ 999 ∧
    ((l = 0 ∧ n = 4 * (s.size + 1 - i) + 3 ∧ KK s m acc rt sc (rdNum s i) = R) ∨
     (l = 1 ∧ n = 4 * (s.size + 1 - i) + 2 ∧ (sg = 1 ∨ sg = -1) ∧ ∃ f : Nat, f ≤ 2 ∧ dg = 2 - (f : Int) ∧ z ≤ 99 ∧ (1 ≤ f → z ≤ 9) ∧ (f = 2 → z = 0) ∧ KK s m acc rt sc (rdD s sg (f + 1) z i) = R) ∨
     (l = 3 ∧ n = 4 * (s.size + 1 - i) + 1 ∧ (sg = 1 ∨ sg = -1) ∧ kp s (rdAll s m) m (xy acc) (rt, sg * z) i = R) ∨
     (l = 2 ∧ n = 4 * (s.size + 1 - i) ∧ R = .inl i))

section
variable {s : ByteArray} {w0 w : World} {R : Nat ⊕ List (Int × Int)} {n : Nat} {v : Value} {i : Nat} {at_ sg sz : Int} {z : Nat} {dg rt : Int} {sc : Bool} {acc : List CP} {m : Nat} {a : Act}

theorem jj0 (hF : Fr s v at_ sg sz dg rt sc a) (ha : at_ = i) (hz : sz = z) (hC : Cr w0 w v acc) (hm : m + acc.length + 1 = 16) (hi : i ≤ s.size) (hr1 : -999 ≤ rt) (hr2 : rt ≤ 999) (hz9 : z ≤ 999)
    (hn : 4 * (s.size + 1 - i) + 3 < n) (hK : KK s m acc rt sc (rdNum s i) = R) : ∃ n', n' < n ∧ JJ s w0 R 0 n' a w := by
  subst ha hz
  exact ⟨_, hn, v, i, sg, z, dg, rt, sc, acc, m, hF, hC, fun _ => hm, hi, hr1, hr2, hz9, .inl ⟨rfl, rfl, hK⟩⟩

theorem jj1 (hF : Fr s v at_ sg sz dg rt sc a) (ha : at_ = i) (hz : sz = z) (hC : Cr w0 w v acc) (hm : m + acc.length + 1 = 16) (hi : i ≤ s.size) (hr1 : -999 ≤ rt) (hr2 : rt ≤ 999)
    (hn : 4 * (s.size + 1 - i) + 2 < n) (hsg : sg = 1 ∨ sg = -1) (f : Nat) (hf : f ≤ 2) (hdg : dg = 2 - (f : Int)) (hz1 : z ≤ 99) (hz2 : 1 ≤ f → z ≤ 9) (hz3 : f = 2 → z = 0) (hK : KK s m acc rt sc (rdD s sg (f + 1) z i) = R) : ∃ n', n' < n ∧ JJ s w0 R 1 n' a w := by
  subst ha hz
  exact ⟨_, hn, v, i, sg, z, dg, rt, sc, acc, m, hF, hC, fun _ => hm, hi, hr1, hr2, by omega, .inr (.inl ⟨rfl, rfl, hsg, f, hf, hdg, hz1, hz2, hz3, hK⟩)⟩

theorem jj3 (hF : Fr s v at_ sg sz dg rt sc a) (ha : at_ = i) (hz : sz = z) (hC : Cr w0 w v acc) (hm : m + acc.length + 1 = 16) (hi : i ≤ s.size) (hr1 : -999 ≤ rt) (hr2 : rt ≤ 999) (hz9 : z ≤ 999)
    (hn : 4 * (s.size + 1 - i) + 1 < n) (hsg : sg = 1 ∨ sg = -1) (hK : kp s (rdAll s m) m (xy acc) (rt, sg * z) i = R) : ∃ n', n' < n ∧ JJ s w0 R 3 n' a w := by
  subst ha hz
  exact ⟨_, hn, v, i, sg, z, dg, rt, sc, acc, m, hF, hC, fun _ => hm, hi, hr1, hr2, hz9, .inr (.inr (.inl ⟨rfl, rfl, hsg, hK⟩))⟩

theorem jj2 (hF : Fr s v at_ sg sz dg rt sc a) (ha : at_ = i) (hz : sz = z) (hC : Cr w0 w v acc) (hi : i ≤ s.size) (hr1 : -999 ≤ rt) (hr2 : rt ≤ 999) (hz9 : z ≤ 999)
    (hn : 4 * (s.size + 1 - i) < n) (hK : R = .inl i) : ∃ n', n' < n ∧ JJ s w0 R 2 n' a w := by
  subst ha hz
  exact ⟨_, hn, v, i, sg, z, dg, rt, sc, acc, 0, hF, hC, fun h => absurd rfl h, hi, hr1, hr2, hz9, .inr (.inr (.inr ⟨rfl, rfl, hK⟩))⟩

theorem jj_open0 (h : JJ s w0 R 0 n a w) : ∃ (v : Value) (i : Nat) (sg : Int) (z : Nat) (dg rt : Int) (sc : Bool) (acc : List CP) (m : Nat),
    Fr s v i sg z dg rt sc a ∧ Cr w0 w v acc ∧ m + acc.length + 1 = 16 ∧ i ≤ s.size ∧ -999 ≤ rt ∧ rt ≤ 999 ∧ n = 4 * (s.size + 1 - i) + 3 ∧ KK s m acc rt sc (rdNum s i) = R := by
  obtain ⟨v, i, sg, z, dg, rt, sc, acc, m, hF, hC, hm, hi, hr1, hr2, hz, h⟩ := h
  refine ⟨v, i, sg, z, dg, rt, sc, acc, m, hF, hC, hm (by decide), hi, hr1, hr2, ?_⟩
  rcases h with h | h | h | h
  · exact h.2
  all_goals exact absurd h.1 (by decide)

theorem jj_open1 (h : JJ s w0 R 1 n a w) : ∃ (v : Value) (i : Nat) (sg : Int) (z : Nat) (dg rt : Int) (sc : Bool) (acc : List CP) (m : Nat),
    Fr s v i sg z dg rt sc a ∧ Cr w0 w v acc ∧ m + acc.length + 1 = 16 ∧ i ≤ s.size ∧ -999 ≤ rt ∧ rt ≤ 999 ∧ n = 4 * (s.size + 1 - i) + 2 ∧ (sg = 1 ∨ sg = -1) ∧ ∃ f : Nat, f ≤ 2 ∧ dg = 2 - (f : Int) ∧ z ≤ 99 ∧ (1 ≤ f → z ≤ 9) ∧ (f = 2 → z = 0) ∧ KK s m acc rt sc (rdD s sg (f + 1) z i) = R := by
  obtain ⟨v, i, sg, z, dg, rt, sc, acc, m, hF, hC, hm, hi, hr1, hr2, hz, h⟩ := h
  refine ⟨v, i, sg, z, dg, rt, sc, acc, m, hF, hC, hm (by decide), hi, hr1, hr2, ?_⟩
  rcases h with h | h | h | h
  · exact absurd h.1 (by decide)
  · exact h.2
  all_goals exact absurd h.1 (by decide)

theorem jj_open3 (h : JJ s w0 R 3 n a w) : ∃ (v : Value) (i : Nat) (sg : Int) (z : Nat) (dg rt : Int) (sc : Bool) (acc : List CP) (m : Nat),
    Fr s v i sg z dg rt sc a ∧ Cr w0 w v acc ∧ m + acc.length + 1 = 16 ∧ i ≤ s.size ∧ -999 ≤ rt ∧ rt ≤ 999 ∧ z ≤ 999 ∧ n = 4 * (s.size + 1 - i) + 1 ∧ (sg = 1 ∨ sg = -1) ∧ kp s (rdAll s m) m (xy acc) (rt, sg * z) i = R := by
  obtain ⟨v, i, sg, z, dg, rt, sc, acc, m, hF, hC, hm, hi, hr1, hr2, hz, h⟩ := h
  refine ⟨v, i, sg, z, dg, rt, sc, acc, m, hF, hC, hm (by decide), hi, hr1, hr2, hz, ?_⟩
  rcases h with h | h | h | h
  · exact absurd h.1 (by decide)
  · exact absurd h.1 (by decide)
  · exact h.2
  · exact absurd h.1 (by decide)

theorem jj_open2 (h : JJ s w0 R 2 n a w) : ∃ (v : Value) (i : Nat) (sg : Int) (z : Nat) (dg rt : Int) (sc : Bool) (acc : List CP),
    Fr s v i sg z dg rt sc a ∧ Cr w0 w v acc ∧ R = .inl i ∧ i ≤ s.size := by
  obtain ⟨v, i, sg, z, dg, rt, sc, acc, m, hF, hC, hm, hi, hr1, hr2, hz, h⟩ := h
  refine ⟨v, i, sg, z, dg, rt, sc, acc, hF, hC, ?_, hi⟩
  rcases h with h | h | h | h
  · exact absurd h.1 (by decide)
  · exact absurd h.1 (by decide)
  · exact absurd h.1 (by decide)
  · exact h.2.2
end

end Go.Proofs.Ytlicmfhgjonmnaa
