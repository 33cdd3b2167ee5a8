/- The scanner, label by label. Own work. -/
import Derived.Test.YtlicmfhgjonmnaaWf
namespace Go.Proofs.Ytlicmfhgjonmnaa
open Go.RowKit
set_option linter.unusedVariables false

section
variable {s : ByteArray} {m : Nat} {acc : List CP} {rt : Int}
theorem KK_bad {sc : Bool} {p : Nat} : KK s m acc rt sc (.inl p) = .inl p := by cases sc <;> simp [KK, kx, ky]
theorem KK_point {y : Int} {k : Nat} : KK s m acc rt true (.inr (y, k)) = kp s (rdAll s m) m (xy acc) (rt, y) k := by simp [KK, ky]
theorem KK_comma {x : Int} {j : Nat} (h : bAt s j = 44) : KK s m acc rt false (.inr (x, j)) = KK s m acc x true (rdNum s (j + 1)) := by simp [KK, kx, h]
theorem KK_nocomma {x : Int} {j : Nat} (h : bAt s j ≠ 44) : KK s m acc rt false (.inr (x, j)) = .inl j := by simp [KK, kx, h]
theorem rdD_bad {sg : Int} {f z i : Nat} (h : isDig (bAt s i) = false) : rdD s sg (f + 1) z i = .inl i := by simp [rdD, h]
theorem rdD_more {sg : Int} {f z i : Nat} (h : isDig (bAt s i) = true) (h1 : 10 * z + (bAt s i - 48) ≠ 0) (h2 : f ≠ 0) (h3 : isDig (bAt s (i + 1)) = true) :
    rdD s sg (f + 1) z i = rdD s sg f (10 * z + (bAt s i - 48)) (i + 1) := by
  rw [rdD, if_pos h, if_pos ⟨h1, h2, h3⟩]
theorem rdD_end {sg : Int} {f z i : Nat} (h : isDig (bAt s i) = true) (h1 : 10 * z + (bAt s i - 48) = 0 ∨ f = 0 ∨ isDig (bAt s (i + 1)) = false) :
    rdD s sg (f + 1) z i = .inr (sg * (10 * z + (bAt s i - 48) : Nat), i + 1) := by
  rw [rdD, if_pos h, if_neg]
  rintro ⟨a, b, c⟩
  rcases h1 with h | h | h
  · exact a h
  · exact b h
  · rw [h] at c; cases c
end

set_option maxRecDepth 100000 in
set_option maxHeartbeats 4000000 in
theorem pass1 (s : ByteArray) (w0 : World) (R : Nat ⊕ List (Int × Int)) (hs : s.size ≤ 160) (Q : Exit → Act → World → Prop) (n : Nat) (a : Act) (w : World) (h : JJ s w0 R 1 n a w) :
    ∃ x, findLabel (scopeIn Try.f42.body) 1 = some (.seq .skip x) ∧ x.wp Try.prog (jumps (fun l' a' w' => ∃ n', n' < n ∧ JJ s w0 R l' n' a' w') Q) a w := by
  obtain ⟨v, i, sg, z, dg, rt, sc, acc, m, hF, hC, hm, hi, hr1, hr2, hn, hsg, f, hf, hdg, hz1, hz2, hz3, hK⟩ := jj_open1 h
  clear h
  refine ⟨_, rfl, ?_⟩
  obtain ⟨u, rfl⟩ := hF
  have HK := hide hK
  have HC := hide hC
  have Hn := hide hn
  have Hsg := hide hsg
  have Hdg := hide hdg
  have hdg1 : 0 ≤ dg := by omega
  have hdg2 : dg ≤ 2 := by omega
  clear hK hC hn hsg hdg
  cases hd : isDig (bAt s i)
  · have Hd := hide hd
    clear hd
    go_wp2_with fail
    refine (byteAt_any s ((i : Int)) _ (by unfold maxLen; omega) (by omega)).mono ?_
    rintro e w' ⟨rfl, rfl⟩
    rw [Int.toNat_natCast]
    go_wp2_with fail
    refine (isDigit_any _ _).mono ?_
    rintro e w' ⟨rfl, rfl⟩
    rw [Hd.out]
    go_wp2_with fail
    go_step3
    refine jj2 (acc := acc) Fr.mk rfl rfl HC.out hi hr1 hr2 (by omega) (by rw [Hn.out]; omega) ?_
    rw [← HK.out, rdD_bad Hd.out, KK_bad]
  · have hd2 := isDig_iff.1 hd
    have Hd := hide hd
    have hlt : i < s.size := bAt_lt (by omega)
    have e1 : ((i : Int) + 1) = ((i + 1 : Nat) : Int) := by omega
    have E1 := hide e1
    clear hd e1
    by_cases hZ : 10 * z + (bAt s i - 48) = 0
    · have hZb : ((10 * (z : Int) + ((bAt s i : Int) - 48)) != 0) = false := by simp; omega
      have HE := hide (rdD_end (sg := sg) (f := f) Hd.out (.inl hZ))
      have HZ := hide hZ
      clear hZ
      cases hsc : sc
      · subst hsc
        by_cases h44 : bAt s (i + 1) = 44
        · have h44b : ((bAt s (i + 1) : Int) != 44) = false := by simp; omega
          have H44 := hide h44
          have hlt2 : i + 1 < s.size := bAt_lt (by omega)
          clear h44
          rcases Hsg.out with rfl | rfl
          · go_wp2_with fail
            refine (byteAt_any s ((i : Int)) _ (by unfold maxLen; omega) (by omega)).mono ?_
            rintro e w' ⟨rfl, rfl⟩
            rw [Int.toNat_natCast]
            go_wp2_with fail
            refine (isDigit_any _ _).mono ?_
            rintro e w' ⟨rfl, rfl⟩
            rw [Hd.out]
            go_wp2_with fail
            refine (byteAt_any s ((i : Int)) _ (by unfold maxLen; omega) (by omega)).mono ?_
            rintro e w' ⟨rfl, rfl⟩
            rw [Int.toNat_natCast]
            go_wp2_with fail
            refine (byteAt_any s ((i : Int) + 1) _ (by unfold maxLen; omega) (by omega)).mono ?_
            rintro e w' ⟨rfl, rfl⟩
            rw [show ((i : Int) + 1).toNat = i + 1 by omega]
            go_wp2_with fail
            go_step3
            refine jj0 (acc := acc) (m := m) (i := i + 1 + 1) (z := 10 * z + (bAt s i - 48)) Fr.mk (by omega) (by have := HZ.out; omega) HC.out hm (by omega) (by have := HZ.out; omega) (by have := HZ.out; omega) (by omega) (by rw [Hn.out]; omega) ?_
            rw [← HK.out, HE.out, KK_comma H44.out]
            congr 1
            have := HZ.out; omega
          · go_wp2_with fail
            refine (byteAt_any s ((i : Int)) _ (by unfold maxLen; omega) (by omega)).mono ?_
            rintro e w' ⟨rfl, rfl⟩
            rw [Int.toNat_natCast]
            go_wp2_with fail
            refine (isDigit_any _ _).mono ?_
            rintro e w' ⟨rfl, rfl⟩
            rw [Hd.out]
            go_wp2_with fail
            refine (byteAt_any s ((i : Int)) _ (by unfold maxLen; omega) (by omega)).mono ?_
            rintro e w' ⟨rfl, rfl⟩
            rw [Int.toNat_natCast]
            go_wp2_with fail
            refine (byteAt_any s ((i : Int) + 1) _ (by unfold maxLen; omega) (by omega)).mono ?_
            rintro e w' ⟨rfl, rfl⟩
            rw [show ((i : Int) + 1).toNat = i + 1 by omega]
            go_wp2_with fail
            go_step3
            refine jj0 (acc := acc) (m := m) (i := i + 1 + 1) (z := 10 * z + (bAt s i - 48)) Fr.mk (by omega) (by have := HZ.out; omega) HC.out hm (by omega) (by have := HZ.out; omega) (by have := HZ.out; omega) (by omega) (by rw [Hn.out]; omega) ?_
            rw [← HK.out, HE.out, KK_comma H44.out]
            congr 1
            have := HZ.out; omega
        · have h44b : ((bAt s (i + 1) : Int) != 44) = true := by simp; omega
          have H44 := hide h44
          clear h44
          go_wp2_with fail
          refine (byteAt_any s ((i : Int)) _ (by unfold maxLen; omega) (by omega)).mono ?_
          rintro e w' ⟨rfl, rfl⟩
          rw [Int.toNat_natCast]
          go_wp2_with fail
          refine (isDigit_any _ _).mono ?_
          rintro e w' ⟨rfl, rfl⟩
          rw [Hd.out]
          go_wp2_with fail
          refine (byteAt_any s ((i : Int)) _ (by unfold maxLen; omega) (by omega)).mono ?_
          rintro e w' ⟨rfl, rfl⟩
          rw [Int.toNat_natCast]
          go_wp2_with fail
          refine (byteAt_any s ((i : Int) + 1) _ (by unfold maxLen; omega) (by omega)).mono ?_
          rintro e w' ⟨rfl, rfl⟩
          rw [show ((i : Int) + 1).toNat = i + 1 by omega]
          go_wp2_with fail
          go_step3
          refine jj2 (acc := acc) (i := i + 1) (z := 10 * z + (bAt s i - 48)) Fr.mk (by omega) (by have := HZ.out; omega) HC.out (by omega) hr1 hr2 (by omega) (by rw [Hn.out]; omega) ?_
          rw [← HK.out, HE.out, KK_nocomma H44.out]
      · subst hsc
        go_wp2_with fail
        refine (byteAt_any s ((i : Int)) _ (by unfold maxLen; omega) (by omega)).mono ?_
        rintro e w' ⟨rfl, rfl⟩
        rw [Int.toNat_natCast]
        go_wp2_with fail
        refine (isDigit_any _ _).mono ?_
        rintro e w' ⟨rfl, rfl⟩
        rw [Hd.out]
        go_wp2_with fail
        refine (byteAt_any s ((i : Int)) _ (by unfold maxLen; omega) (by omega)).mono ?_
        rintro e w' ⟨rfl, rfl⟩
        rw [Int.toNat_natCast]
        go_wp2_with fail
        go_step3
        refine jj3 (acc := acc) (m := m) (i := i + 1) (z := 10 * z + (bAt s i - 48)) Fr.mk (by omega) (by have := HZ.out; omega) HC.out hm (by omega) hr1 hr2 (by omega) (by rw [Hn.out]; omega) Hsg.out ?_
        rw [← HK.out, HE.out, KK_point]
    · have hZb : ((10 * (z : Int) + ((bAt s i : Int) - 48)) != 0) = true := by simp; omega
      have HZ := hide hZ
      clear hZ
      by_cases hf0 : f = 0
      · have hd3 : ¬ dg + 1 < 3 := by have := Hdg.out; omega
        have HE := hide (rdD_end (sg := sg) (f := f) (z := z) Hd.out (.inr (.inl hf0)))
        cases hsc : sc
        · subst hsc
          by_cases h44 : bAt s (i + 1) = 44
          · have h44b : ((bAt s (i + 1) : Int) != 44) = false := by simp; omega
            have H44 := hide h44
            have hlt2 : i + 1 < s.size := bAt_lt (by omega)
            clear h44
            rcases Hsg.out with rfl | rfl
            · go_wp2_with fail
              refine (byteAt_any s ((i : Int)) _ (by unfold maxLen; omega) (by omega)).mono ?_
              rintro e w' ⟨rfl, rfl⟩
              rw [Int.toNat_natCast]
              go_wp2_with fail
              refine (isDigit_any _ _).mono ?_
              rintro e w' ⟨rfl, rfl⟩
              rw [Hd.out]
              go_wp2_with fail
              refine (byteAt_any s ((i : Int)) _ (by unfold maxLen; omega) (by omega)).mono ?_
              rintro e w' ⟨rfl, rfl⟩
              rw [Int.toNat_natCast]
              go_wp2_with fail
              refine (byteAt_any s ((i : Int) + 1) _ (by unfold maxLen; omega) (by omega)).mono ?_
              rintro e w' ⟨rfl, rfl⟩
              rw [show ((i : Int) + 1).toNat = i + 1 by omega]
              go_wp2_with fail
              go_step3
              refine jj0 (acc := acc) (m := m) (i := i + 1 + 1) (z := 10 * z + (bAt s i - 48)) Fr.mk (by omega) (by have := HZ.out; omega) HC.out hm (by omega) (by have := HZ.out; omega) (by have := HZ.out; omega) (by omega) (by rw [Hn.out]; omega) ?_
              rw [← HK.out, HE.out, KK_comma H44.out]
              congr 1
              have := HZ.out; omega
            · go_wp2_with fail
              refine (byteAt_any s ((i : Int)) _ (by unfold maxLen; omega) (by omega)).mono ?_
              rintro e w' ⟨rfl, rfl⟩
              rw [Int.toNat_natCast]
              go_wp2_with fail
              refine (isDigit_any _ _).mono ?_
              rintro e w' ⟨rfl, rfl⟩
              rw [Hd.out]
              go_wp2_with fail
              refine (byteAt_any s ((i : Int)) _ (by unfold maxLen; omega) (by omega)).mono ?_
              rintro e w' ⟨rfl, rfl⟩
              rw [Int.toNat_natCast]
              go_wp2_with fail
              refine (byteAt_any s ((i : Int) + 1) _ (by unfold maxLen; omega) (by omega)).mono ?_
              rintro e w' ⟨rfl, rfl⟩
              rw [show ((i : Int) + 1).toNat = i + 1 by omega]
              go_wp2_with fail
              go_step3
              refine jj0 (acc := acc) (m := m) (i := i + 1 + 1) (z := 10 * z + (bAt s i - 48)) Fr.mk (by omega) (by have := HZ.out; omega) HC.out hm (by omega) (by have := HZ.out; omega) (by have := HZ.out; omega) (by omega) (by rw [Hn.out]; omega) ?_
              rw [← HK.out, HE.out, KK_comma H44.out]
              congr 1
              have := HZ.out; omega
          · have h44b : ((bAt s (i + 1) : Int) != 44) = true := by simp; omega
            have H44 := hide h44
            clear h44
            go_wp2_with fail
            refine (byteAt_any s ((i : Int)) _ (by unfold maxLen; omega) (by omega)).mono ?_
            rintro e w' ⟨rfl, rfl⟩
            rw [Int.toNat_natCast]
            go_wp2_with fail
            refine (isDigit_any _ _).mono ?_
            rintro e w' ⟨rfl, rfl⟩
            rw [Hd.out]
            go_wp2_with fail
            refine (byteAt_any s ((i : Int)) _ (by unfold maxLen; omega) (by omega)).mono ?_
            rintro e w' ⟨rfl, rfl⟩
            rw [Int.toNat_natCast]
            go_wp2_with fail
            refine (byteAt_any s ((i : Int) + 1) _ (by unfold maxLen; omega) (by omega)).mono ?_
            rintro e w' ⟨rfl, rfl⟩
            rw [show ((i : Int) + 1).toNat = i + 1 by omega]
            go_wp2_with fail
            go_step3
            refine jj2 (acc := acc) (i := i + 1) (z := 10 * z + (bAt s i - 48)) Fr.mk (by omega) (by have := HZ.out; omega) HC.out (by omega) hr1 hr2 (by omega) (by rw [Hn.out]; omega) ?_
            rw [← HK.out, HE.out, KK_nocomma H44.out]
        · subst hsc
          go_wp2_with fail
          refine (byteAt_any s ((i : Int)) _ (by unfold maxLen; omega) (by omega)).mono ?_
          rintro e w' ⟨rfl, rfl⟩
          rw [Int.toNat_natCast]
          go_wp2_with fail
          refine (isDigit_any _ _).mono ?_
          rintro e w' ⟨rfl, rfl⟩
          rw [Hd.out]
          go_wp2_with fail
          refine (byteAt_any s ((i : Int)) _ (by unfold maxLen; omega) (by omega)).mono ?_
          rintro e w' ⟨rfl, rfl⟩
          rw [Int.toNat_natCast]
          go_wp2_with fail
          go_step3
          refine jj3 (acc := acc) (m := m) (i := i + 1) (z := 10 * z + (bAt s i - 48)) Fr.mk (by omega) (by have := HZ.out; omega) HC.out hm (by omega) hr1 hr2 (by omega) (by rw [Hn.out]; omega) Hsg.out ?_
          rw [← HK.out, HE.out, KK_point]
      · have hd3 : dg + 1 < 3 := by have := Hdg.out; omega
        cases hn1 : isDig (bAt s (i + 1))
        · have HE := hide (rdD_end (sg := sg) (f := f) (z := z) Hd.out (.inr (.inr hn1)))
          have Hn1 := hide hn1
          clear hn1
          cases hsc : sc
          · subst hsc
            by_cases h44 : bAt s (i + 1) = 44
            · have h44b : ((bAt s (i + 1) : Int) != 44) = false := by simp; omega
              have H44 := hide h44
              have hlt2 : i + 1 < s.size := bAt_lt (by omega)
              clear h44
              rcases Hsg.out with rfl | rfl
              · go_wp2_with fail
                refine (byteAt_any s ((i : Int)) _ (by unfold maxLen; omega) (by omega)).mono ?_
                rintro e w' ⟨rfl, rfl⟩
                rw [Int.toNat_natCast]
                go_wp2_with fail
                refine (isDigit_any _ _).mono ?_
                rintro e w' ⟨rfl, rfl⟩
                rw [Hd.out]
                go_wp2_with fail
                refine (byteAt_any s ((i : Int)) _ (by unfold maxLen; omega) (by omega)).mono ?_
                rintro e w' ⟨rfl, rfl⟩
                rw [Int.toNat_natCast]
                go_wp2_with fail
                refine (byteAt_any s ((i : Int) + 1) _ (by unfold maxLen; omega) (by omega)).mono ?_
                rintro e w' ⟨rfl, rfl⟩
                rw [show ((i : Int) + 1).toNat = i + 1 by omega]
                go_wp2_with fail
                refine (isDigit_any _ _).mono ?_
                rintro e w' ⟨rfl, rfl⟩
                rw [Hn1.out]
                go_wp2_with fail
                refine (byteAt_any s ((i : Int) + 1) _ (by unfold maxLen; omega) (by omega)).mono ?_
                rintro e w' ⟨rfl, rfl⟩
                rw [show ((i : Int) + 1).toNat = i + 1 by omega]
                go_wp2_with fail
                go_step3
                refine jj0 (acc := acc) (m := m) (i := i + 1 + 1) (z := 10 * z + (bAt s i - 48)) Fr.mk (by omega) (by have := HZ.out; omega) HC.out hm (by omega) (by have := HZ.out; omega) (by have := HZ.out; omega) (by omega) (by rw [Hn.out]; omega) ?_
                rw [← HK.out, HE.out, KK_comma H44.out]
                congr 1
                have := HZ.out; omega
              · go_wp2_with fail
                refine (byteAt_any s ((i : Int)) _ (by unfold maxLen; omega) (by omega)).mono ?_
                rintro e w' ⟨rfl, rfl⟩
                rw [Int.toNat_natCast]
                go_wp2_with fail
                refine (isDigit_any _ _).mono ?_
                rintro e w' ⟨rfl, rfl⟩
                rw [Hd.out]
                go_wp2_with fail
                refine (byteAt_any s ((i : Int)) _ (by unfold maxLen; omega) (by omega)).mono ?_
                rintro e w' ⟨rfl, rfl⟩
                rw [Int.toNat_natCast]
                go_wp2_with fail
                refine (byteAt_any s ((i : Int) + 1) _ (by unfold maxLen; omega) (by omega)).mono ?_
                rintro e w' ⟨rfl, rfl⟩
                rw [show ((i : Int) + 1).toNat = i + 1 by omega]
                go_wp2_with fail
                refine (isDigit_any _ _).mono ?_
                rintro e w' ⟨rfl, rfl⟩
                rw [Hn1.out]
                go_wp2_with fail
                refine (byteAt_any s ((i : Int) + 1) _ (by unfold maxLen; omega) (by omega)).mono ?_
                rintro e w' ⟨rfl, rfl⟩
                rw [show ((i : Int) + 1).toNat = i + 1 by omega]
                go_wp2_with fail
                go_step3
                refine jj0 (acc := acc) (m := m) (i := i + 1 + 1) (z := 10 * z + (bAt s i - 48)) Fr.mk (by omega) (by have := HZ.out; omega) HC.out hm (by omega) (by have := HZ.out; omega) (by have := HZ.out; omega) (by omega) (by rw [Hn.out]; omega) ?_
                rw [← HK.out, HE.out, KK_comma H44.out]
                congr 1
                have := HZ.out; omega
            · have h44b : ((bAt s (i + 1) : Int) != 44) = true := by simp; omega
              have H44 := hide h44
              clear h44
              go_wp2_with fail
              refine (byteAt_any s ((i : Int)) _ (by unfold maxLen; omega) (by omega)).mono ?_
              rintro e w' ⟨rfl, rfl⟩
              rw [Int.toNat_natCast]
              go_wp2_with fail
              refine (isDigit_any _ _).mono ?_
              rintro e w' ⟨rfl, rfl⟩
              rw [Hd.out]
              go_wp2_with fail
              refine (byteAt_any s ((i : Int)) _ (by unfold maxLen; omega) (by omega)).mono ?_
              rintro e w' ⟨rfl, rfl⟩
              rw [Int.toNat_natCast]
              go_wp2_with fail
              refine (byteAt_any s ((i : Int) + 1) _ (by unfold maxLen; omega) (by omega)).mono ?_
              rintro e w' ⟨rfl, rfl⟩
              rw [show ((i : Int) + 1).toNat = i + 1 by omega]
              go_wp2_with fail
              refine (isDigit_any _ _).mono ?_
              rintro e w' ⟨rfl, rfl⟩
              rw [Hn1.out]
              go_wp2_with fail
              refine (byteAt_any s ((i : Int) + 1) _ (by unfold maxLen; omega) (by omega)).mono ?_
              rintro e w' ⟨rfl, rfl⟩
              rw [show ((i : Int) + 1).toNat = i + 1 by omega]
              go_wp2_with fail
              go_step3
              refine jj2 (acc := acc) (i := i + 1) (z := 10 * z + (bAt s i - 48)) Fr.mk (by omega) (by have := HZ.out; omega) HC.out (by omega) hr1 hr2 (by omega) (by rw [Hn.out]; omega) ?_
              rw [← HK.out, HE.out, KK_nocomma H44.out]
          · subst hsc
            go_wp2_with fail
            refine (byteAt_any s ((i : Int)) _ (by unfold maxLen; omega) (by omega)).mono ?_
            rintro e w' ⟨rfl, rfl⟩
            rw [Int.toNat_natCast]
            go_wp2_with fail
            refine (isDigit_any _ _).mono ?_
            rintro e w' ⟨rfl, rfl⟩
            rw [Hd.out]
            go_wp2_with fail
            refine (byteAt_any s ((i : Int)) _ (by unfold maxLen; omega) (by omega)).mono ?_
            rintro e w' ⟨rfl, rfl⟩
            rw [Int.toNat_natCast]
            go_wp2_with fail
            refine (byteAt_any s ((i : Int) + 1) _ (by unfold maxLen; omega) (by omega)).mono ?_
            rintro e w' ⟨rfl, rfl⟩
            rw [show ((i : Int) + 1).toNat = i + 1 by omega]
            go_wp2_with fail
            refine (isDigit_any _ _).mono ?_
            rintro e w' ⟨rfl, rfl⟩
            rw [Hn1.out]
            go_wp2_with fail
            go_step3
            refine jj3 (acc := acc) (m := m) (i := i + 1) (z := 10 * z + (bAt s i - 48)) Fr.mk (by omega) (by have := HZ.out; omega) HC.out hm (by omega) hr1 hr2 (by omega) (by rw [Hn.out]; omega) Hsg.out ?_
            rw [← HK.out, HE.out, KK_point]
        · have HE := hide (rdD_more (sg := sg) (f := f) (z := z) Hd.out HZ.out hf0 hn1)
          have Hn1 := hide hn1
          clear hn1
          go_wp2_with fail
          refine (byteAt_any s ((i : Int)) _ (by unfold maxLen; omega) (by omega)).mono ?_
          rintro e w' ⟨rfl, rfl⟩
          rw [Int.toNat_natCast]
          go_wp2_with fail
          refine (isDigit_any _ _).mono ?_
          rintro e w' ⟨rfl, rfl⟩
          rw [Hd.out]
          go_wp2_with fail
          refine (byteAt_any s ((i : Int)) _ (by unfold maxLen; omega) (by omega)).mono ?_
          rintro e w' ⟨rfl, rfl⟩
          rw [Int.toNat_natCast]
          go_wp2_with fail
          refine (byteAt_any s ((i : Int) + 1) _ (by unfold maxLen; omega) (by omega)).mono ?_
          rintro e w' ⟨rfl, rfl⟩
          rw [show ((i : Int) + 1).toNat = i + 1 by omega]
          go_wp2_with fail
          refine (isDigit_any _ _).mono ?_
          rintro e w' ⟨rfl, rfl⟩
          rw [Hn1.out]
          go_wp2_with fail
          go_step3
          obtain ⟨f, rfl⟩ : ∃ g, f = g + 1 := ⟨f - 1, by omega⟩
          refine jj1 (acc := acc) (m := m) (i := i + 1) (z := 10 * z + (bAt s i - 48)) Fr.mk (by omega) (by omega) HC.out hm (by omega) hr1 hr2 (by rw [Hn.out]; omega) Hsg.out f (by omega) (by rw [Hdg.out]; omega) (by omega) (by omega) (by omega) ?_
          rw [← HK.out, HE.out]

end Go.Proofs.Ytlicmfhgjonmnaa
