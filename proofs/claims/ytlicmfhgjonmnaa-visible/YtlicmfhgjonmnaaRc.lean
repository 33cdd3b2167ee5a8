/- Walks of the document's numbers, the other ways; what must come. Own work. -/
import Derived.Test.YtlicmfhgjonmnaaRb
namespace Go.Proofs.Ytlicmfhgjonmnaa
open Go.RowKit
set_option linter.unusedVariables false

set_option maxHeartbeats 4000000 in
theorem number_minus (q : Nat) (s : ByteArray) (I : Nat) (w : World) (hs : s.size ≤ 160) (hI : I + 1 ≤ s.size) (h : RS w q s I (-1)) (h0 : bAt s I = 45) (h1 : 49 ≤ bAt s (I + 1) ∧ bAt s (I + 1) ≤ 57) :
    Calls Try.prog 36 #[.pointer (some ⟨q, 0, none⟩)] w fun e w' => ∃ n i, lp s 3 0 (I + 1) = (n, i) ∧ e = .returned (.int .i64 (-(n : Int))) ∧ RS w' q s i (-1) ∧ Ex q w w' := by
  obtain ⟨c0, c1, c2, f1, f2⟩ := h.cells
  have b1 : hereB s I (-1) 45 45 = true := by simp [hereB]; omega
  have b2 : hereB s (I + 1) (-1) 48 48 = false := by simp [hereB]; omega
  have b3 : hereB s (I + 1) (-1) 49 57 = true := by have := bAt_lt (s := s) (k := I + 1) (by omega); simp [hereB]; omega
  have H := hide h
  have B1 := hide b1
  have B2 := hide b2
  have B3 := hide b3
  have h2 : ∀ k, RS ((w.drewN k).setCell ⟨q, 1, none⟩ (.int .i64 ((I : Int) + 1))) q s ((I + 1 : Nat) : Int) (-1) := fun k => by
    have := (H.out.drewN k).setI ((I : Int) + 1); simpa using this
  have H2' := hide h2
  clear h b1 b2 b3 h0 h1 h2
  go_enter Try.func36, Try.ntmps36
  go_wp2_with fail
  refine (here_any q s I (-1) 45 45 _ hs H.out).mono ?_
  rintro e w1 ⟨rfl, n1, rfl⟩
  rw [B1.out]
  have H2 := hide (H2'.out n1)
  go_wp2_with fail
  refine (here_any q s (I + 1) (-1) 48 48 _ hs (by exact H2.out)).mono ?_
  rintro e w1 ⟨rfl, n2, rfl⟩
  rw [B2.out]
  go_wp2_with fail
  refine (here_any q s (I + 1) (-1) 49 57 _ hs (by exact H2.out.drewN _)).mono ?_
  rintro e w1 ⟨rfl, n3, rfl⟩
  rw [B3.out]
  go_wp2_with fail
  go_loopw [7, 8] (fun nv kv wr => ∃ n k i : Nat, nv = .int .i64 n ∧ kv = .int .i64 k ∧ k ≤ 3 ∧ lp s (3 - k) n i = lp s 3 0 (I + 1) ∧ (n + 1 ≤ 10 ^ k) ∧ RS wr q s i (-1) ∧ Ex q w wr ∧ i ≤ s.size) (fun _ kv _ => 3 - (intOf kv).toNat)
  case atStart => exact ⟨0, 0, I + 1, rfl, rfl, by omega, rfl, by decide, by exact H2.out.drewN _, by exact (((Ex.refl _ _).drewN _).set _ _).drewN _, hI⟩
  case round =>
    obtain ⟨n, k, i, rfl, rfl, hk, hlp, hn, hrs, hex, hi⟩ := hrel
    have hn9 : n ≤ 999 := by
      have : 10 ^ k ≤ 10 ^ 3 := Nat.pow_le_pow_right (by decide) hk
      have h3 : (10 : Nat) ^ 3 = 1000 := by decide
      omega
    obtain ⟨c0, c1, c2, f1, f2⟩ := hrs.cells
    have Hrs := hide hrs
    have Hex := hide hex
    have Hlp := hide hlp
    have Hn := hide hn
    clear hrs hex hlp hn
    by_cases hk3 : k < 3
    · have hk3' : (k : Int) < 3 := by omega
      have hb2 : n ≤ 99 := by
        have h := Hn.out
        have : 10 ^ k ≤ 10 ^ 2 := Nat.pow_le_pow_right (by decide) (by omega)
        have h3 : (10 : Nat) ^ 2 = 100 := by decide
        omega
      cases hd : isDig (bAt s i)
      · have hB : hereB s i (-1) 48 57 = false := by
          simp only [isDig] at hd; simp only [hereB, hd]; simp
        have Hd := hide hd
        have HB := hide hB
        clear hd hB
        go_wp2_with fail
        refine (here_any q s i (-1) 48 57 _ hs Hrs.out).mono ?_
        rintro e w2 ⟨rfl, nd, rfl⟩
        rw [HB.out]
        go_wp2_with fail
        go_roundw
        case rel =>
          refine ⟨n, k + 1, i, rfl, by go_num, by omega, ?_, ?_, Hrs.out.drewN _, Hex.out.drewN _, hi⟩
          · rw [← Hlp.out, lp_stop Hd.out, lp_stop Hd.out]
          · have := Hn.out; rw [Nat.pow_succ]; omega
        case measure => simp [intOf]; omega
      · have hd2 := isDig_iff.1 hd
        have hlt : i < s.size := bAt_lt (by omega)
        have hB : hereB s i (-1) 48 57 = true := by
          simp only [isDig] at hd; simp only [hereB, hd, hlt]; simp
        have hbb : bAt s i = s[i].toNat := by simp [bAt, hlt]
        have hb1 : 48 ≤ s[i].toNat := by omega
        have hb3 : s[i].toNat ≤ 57 := by omega
        have hlti : (i : Int) < (s.size : Int) := by omega
        have Hd := hide hd
        have HB := hide hB
        have Hbb := hide hbb
        clear hd hB hbb hd2
        go_wp2_with fail
        refine (here_any q s i (-1) 48 57 _ hs Hrs.out).mono ?_
        rintro e w2 ⟨rfl, nd, rfl⟩
        rw [HB.out]
        go_wp2_with fail
        go_quiet (fail)
        go_wp2_with fail
        go_roundw
        case rel =>
          refine ⟨10 * n + (bAt s i - 48), k + 1, i + 1, by rw [Hbb.out]; go_num, by go_num, by omega, ?_, ?_, ?_, ?_, by omega⟩
          · rw [← Hlp.out]
            rw [show 3 - k = (3 - (k + 1)) + 1 by omega, lp, if_pos Hd.out]
          · have := Hn.out; have := Hbb.out; rw [Nat.pow_succ]; omega
          · exact (Hrs.out.drewN _).setI _
          · exact (Hex.out.drewN _).set _ _
        case measure => simp [intOf]; omega
    · have hk3' : ¬ (k : Int) < 3 := by omega
      have hke : k = 3 := by omega
      go_wp2_with fail
      go_ret
      have he := Hlp.out
      rw [hke] at he
      refine ⟨n, i, he.symm, by simp, Hrs.out, Hex.out⟩

set_option maxHeartbeats 4000000 in
theorem number_minus_bad (q : Nat) (s : ByteArray) (I : Nat) (w : World) (hs : s.size ≤ 160) (hI : I + 1 ≤ s.size) (h : RS w q s I (-1)) (h0 : bAt s I = 45) (h1 : ¬ (49 ≤ bAt s (I + 1) ∧ bAt s (I + 1) ≤ 57)) :
    Calls Try.prog 36 #[.pointer (some ⟨q, 0, none⟩)] w fun e w' => e = .returned (.int .i64 0) ∧ RS w' q s ((I + 1 : Nat) : Int) ((I + 1 : Nat) : Int) ∧ Ex q w w' := by
  obtain ⟨c0, c1, c2, f1, f2⟩ := h.cells
  have b1 : hereB s I (-1) 45 45 = true := by simp [hereB]; omega
  have b3 : hereB s (I + 1) (-1) 49 57 = false := by simp only [hereB]; by_cases ha : 49 ≤ bAt s (I + 1) <;> simp [ha]; omega
  have H := hide h
  have B1 := hide b1
  have B3 := hide b3
  have h2 : ∀ k, RS ((w.drewN k).setCell ⟨q, 1, none⟩ (.int .i64 ((I : Int) + 1))) q s ((I + 1 : Nat) : Int) (-1) := fun k => by
    have := (H.out.drewN k).setI ((I : Int) + 1); simpa using this
  have H2' := hide h2
  clear h b1 b3 h0 h1 h2
  cases hz : hereB s (I + 1) (-1) 48 48
  all_goals
    have B2 := hide hz
    clear hz
    go_enter Try.func36, Try.ntmps36
    go_wp2_with fail
    refine (here_any q s I (-1) 45 45 _ hs H.out).mono ?_
    rintro e w1 ⟨rfl, n1, rfl⟩
    rw [B1.out]
    have H2 := hide (H2'.out n1)
    go_wp2_with fail
    refine (here_any q s (I + 1) (-1) 48 48 _ hs (by exact H2.out)).mono ?_
    rintro e w1 ⟨rfl, n2, rfl⟩
    rw [B2.out]
    go_wp2_with fail
    refine (here_any q s (I + 1) (-1) 49 57 _ hs (by exact H2.out.drewN _)).mono ?_
    rintro e w1 ⟨rfl, n3, rfl⟩
    rw [B3.out]
    go_wp2_with fail
    refine (fail_yes q s (I + 1) _ (by exact H2.out.drewN _)).mono ?_
    rintro e w2 ⟨rfl, hr, hx⟩
    have HR := hide hr
    have HX := hide hx
    clear hr hx
    go_wp2_with fail
    go_ret
    exact ⟨rfl, HR.out, ((((Ex.refl _ _).drewN _).set _ _).drewN _).trans HX.out⟩

set_option maxHeartbeats 4000000 in
theorem number_zero (q : Nat) (s : ByteArray) (I : Nat) (w : World) (hs : s.size ≤ 160) (hI : I ≤ s.size) (h : RS w q s I (-1)) (h0 : bAt s I = 48) :
    Calls Try.prog 36 #[.pointer (some ⟨q, 0, none⟩)] w fun e w' => e = .returned (.int .i64 0) ∧ RS w' q s ((I + 1 : Nat) : Int) (-1) ∧ Ex q w w' := by
  obtain ⟨c0, c1, c2, f1, f2⟩ := h.cells
  have hlt := bAt_lt (s := s) (k := I) (by omega)
  have b1 : hereB s I (-1) 45 45 = false := by simp [hereB]; omega
  have b2 : hereB s I (-1) 48 48 = true := by simp [hereB]; omega
  have H := hide h
  have B1 := hide b1
  have B2 := hide b2
  clear h b1 b2 h0
  go_enter Try.func36, Try.ntmps36
  go_wp2_with fail
  refine (here_any q s I (-1) 45 45 _ hs H.out).mono ?_
  rintro e w1 ⟨rfl, n1, rfl⟩
  rw [B1.out]
  go_wp2_with fail
  refine (here_any q s I (-1) 48 48 _ hs (by exact H.out.drewN _)).mono ?_
  rintro e w1 ⟨rfl, n2, rfl⟩
  rw [B2.out]
  go_wp2_with fail
  go_ret
  refine ⟨rfl, ?_, ((Ex.refl _ _).drewN _).set _ _⟩
  have := (H.out.drewN (n1 + n2)).setI ((I : Int) + 1)
  simpa using this

set_option maxHeartbeats 4000000 in
theorem number_bad (q : Nat) (s : ByteArray) (I : Nat) (w : World) (hs : s.size ≤ 160) (hI : I ≤ s.size) (h : RS w q s I (-1)) (h0 : bAt s I ≠ 45) (h1 : ¬ (48 ≤ bAt s I ∧ bAt s I ≤ 57)) :
    Calls Try.prog 36 #[.pointer (some ⟨q, 0, none⟩)] w fun e w' => e = .returned (.int .i64 0) ∧ RS w' q s I I ∧ Ex q w w' := by
  obtain ⟨c0, c1, c2, f1, f2⟩ := h.cells
  have b1 : hereB s I (-1) 45 45 = false := by simp [hereB]; omega
  have b2 : hereB s I (-1) 48 48 = false := by simp [hereB]; omega
  have b3 : hereB s I (-1) 49 57 = false := by simp [hereB]; omega
  have H := hide h
  have B1 := hide b1
  have B2 := hide b2
  have B3 := hide b3
  clear h b1 b2 b3 h0 h1
  go_enter Try.func36, Try.ntmps36
  go_wp2_with fail
  refine (here_any q s I (-1) 45 45 _ hs H.out).mono ?_
  rintro e w1 ⟨rfl, n1, rfl⟩
  rw [B1.out]
  go_wp2_with fail
  refine (here_any q s I (-1) 48 48 _ hs (by exact H.out.drewN _)).mono ?_
  rintro e w1 ⟨rfl, n2, rfl⟩
  rw [B2.out]
  go_wp2_with fail
  refine (here_any q s I (-1) 49 57 _ hs (by exact H.out.drewN _)).mono ?_
  rintro e w1 ⟨rfl, n3, rfl⟩
  rw [B3.out]
  go_wp2_with fail
  refine (fail_yes q s I _ (by exact H.out.drewN _)).mono ?_
  rintro e w2 ⟨rfl, hr, hx⟩
  have HR := hide hr
  have HX := hide hx
  clear hr hx
  go_wp2_with fail
  go_ret
  exact ⟨rfl, HR.out, ((Ex.refl _ _).drewN _).trans HX.out⟩

theorem hereB_no {s : ByteArray} {I : Nat} {Bad : Int} (h : 0 ≤ Bad) (lo hi : Nat) : hereB s I Bad lo hi = false := by
  have : ¬ Bad < 0 := by omega
  simp [hereB, this]

set_option maxHeartbeats 4000000 in
theorem number_no (q : Nat) (s : ByteArray) (I : Nat) (Bad : Int) (hB : 0 ≤ Bad) (w : World) (hs : s.size ≤ 160) (h : RS w q s I Bad) :
    Calls Try.prog 36 #[.pointer (some ⟨q, 0, none⟩)] w fun e w' => e = .returned (.int .i64 0) ∧ RS w' q s I Bad ∧ Ex q w w' := by
  obtain ⟨c0, c1, c2, f1, f2⟩ := h.cells
  have H := hide h
  clear h
  go_enter Try.func36, Try.ntmps36
  go_wp2_with fail
  refine (here_any q s I Bad 45 45 _ hs H.out).mono ?_
  rintro e w1 ⟨rfl, n1, rfl⟩
  rw [hereB_no hB]
  go_wp2_with fail
  refine (here_any q s I Bad 48 48 _ hs (by exact H.out.drewN _)).mono ?_
  rintro e w1 ⟨rfl, n2, rfl⟩
  rw [hereB_no hB]
  go_wp2_with fail
  refine (here_any q s I Bad 49 57 _ hs (by exact H.out.drewN _)).mono ?_
  rintro e w1 ⟨rfl, n3, rfl⟩
  rw [hereB_no hB]
  go_wp2_with fail
  refine (fail_no q s I Bad hB _ (by exact H.out.drewN _)).mono ?_
  rintro e w2 ⟨rfl, hr, hx⟩
  have HR := hide hr
  have HX := hide hx
  clear hr hx
  go_wp2_with fail
  go_ret
  exact ⟨rfl, HR.out, ((Ex.refl _ _).drewN _).trans HX.out⟩

set_option maxHeartbeats 4000000 in
theorem must_yes (q : Nat) (s : ByteArray) (I c : Nat) (w : World) (hs : s.size ≤ 160) (hI : I ≤ s.size) (h : RS w q s I (-1)) (hc : c ≠ 0) (h0 : bAt s I = c) :
    Calls Try.prog 37 #[.pointer (some ⟨q, 0, none⟩), .int .u8 c] w fun e w' => e = .returned (.tuple #[]) ∧ RS w' q s ((I + 1 : Nat) : Int) (-1) ∧ Ex q w w' := by
  obtain ⟨c0, c1, c2, f1, f2⟩ := h.cells
  have hlt := bAt_lt (s := s) (k := I) (by omega)
  have b1 : hereB s I (-1) c c = true := by simp [hereB]; omega
  have H := hide h
  have B1 := hide b1
  clear h b1 h0
  go_enter Try.func37, Try.ntmps37
  go_wp2_with fail
  refine (here_any q s I (-1) c c _ hs H.out).mono ?_
  rintro e w1 ⟨rfl, n1, rfl⟩
  rw [B1.out]
  go_wp2_with fail
  go_end0
  refine ⟨rfl, ?_, ((Ex.refl _ _).drewN _).set _ _⟩
  have := (H.out.drewN n1).setI ((I : Int) + 1)
  simpa using this

set_option maxHeartbeats 4000000 in
theorem must_bad (q : Nat) (s : ByteArray) (I c : Nat) (w : World) (hs : s.size ≤ 160) (h : RS w q s I (-1)) (h0 : bAt s I ≠ c) :
    Calls Try.prog 37 #[.pointer (some ⟨q, 0, none⟩), .int .u8 c] w fun e w' => e = .returned (.tuple #[]) ∧ RS w' q s I I ∧ Ex q w w' := by
  obtain ⟨c0, c1, c2, f1, f2⟩ := h.cells
  have b1 : hereB s I (-1) c c = false := by simp [hereB]; omega
  have H := hide h
  have B1 := hide b1
  clear h b1 h0
  go_enter Try.func37, Try.ntmps37
  go_wp2_with fail
  refine (here_any q s I (-1) c c _ hs H.out).mono ?_
  rintro e w1 ⟨rfl, n1, rfl⟩
  rw [B1.out]
  go_wp2_with fail
  refine (fail_yes q s I _ (by exact H.out.drewN _)).mono ?_
  rintro e w2 ⟨rfl, hr, hx⟩
  have HR := hide hr
  have HX := hide hx
  clear hr hx
  go_wp2_with fail
  refine bodyPost_ret (v := .tuple #[]) (by simp [results, Try.results37, go_sem]) rfl ⟨rfl, HR.out, ((Ex.refl _ _).drewN _).trans HX.out⟩

set_option maxHeartbeats 4000000 in
theorem must_no (q : Nat) (s : ByteArray) (I c : Nat) (Bad : Int) (hB : 0 ≤ Bad) (w : World) (hs : s.size ≤ 160) (h : RS w q s I Bad) :
    Calls Try.prog 37 #[.pointer (some ⟨q, 0, none⟩), .int .u8 c] w fun e w' => e = .returned (.tuple #[]) ∧ RS w' q s I Bad ∧ Ex q w w' := by
  obtain ⟨c0, c1, c2, f1, f2⟩ := h.cells
  have H := hide h
  clear h
  go_enter Try.func37, Try.ntmps37
  go_wp2_with fail
  refine (here_any q s I Bad c c _ hs H.out).mono ?_
  rintro e w1 ⟨rfl, n1, rfl⟩
  rw [hereB_no hB]
  go_wp2_with fail
  refine (fail_no q s I Bad hB _ (by exact H.out.drewN _)).mono ?_
  rintro e w2 ⟨rfl, hr, hx⟩
  have HR := hide hr
  have HX := hide hx
  clear hr hx
  go_wp2_with fail
  refine bodyPost_ret (v := .tuple #[]) (by simp [results, Try.results37, go_sem]) rfl ⟨rfl, HR.out, ((Ex.refl _ _).drewN _).trans HX.out⟩

/-- What a number leaves. -/
def NumPost (s : ByteArray) (q : Nat) (w : World) (r : Nat ⊕ (Int × Nat)) (v : Value) (w' : World) : Prop :=
  Ex q w w' ∧ match r with
  | .inl p => v = .int .i64 0 ∧ RS w' q s p p ∧ p ≤ s.size
  | .inr (n, j) => v = .int .i64 n ∧ RS w' q s j (-1) ∧ j ≤ s.size

theorem number_any (q : Nat) (s : ByteArray) (I : Nat) (w : World) (hs : s.size ≤ 160) (hI : I ≤ s.size) (h : RS w q s I (-1)) :
    Calls Try.prog 36 #[.pointer (some ⟨q, 0, none⟩)] w fun e w' => ∃ v, e = .returned v ∧ NumPost s q w (rdNum s I) v w' := by
  by_cases h45 : bAt s I = 45
  · have hlt : I < s.size := bAt_lt (by omega)
    by_cases h1 : 49 ≤ bAt s (I + 1) ∧ bAt s (I + 1) ≤ 57
    · refine (number_minus q s I w hs (by omega) h h45 h1).mono ?_
      rintro e w' ⟨n, i, hl, rfl, hr, hx⟩
      refine ⟨_, rfl, hx, ?_⟩
      have hd : isDig (bAt s (I + 1)) = true := isDig_iff.2 ⟨by omega, by omega⟩
      have hb := lp_bd (s := s) 3 0 (I + 1) (by omega)
      rw [hl] at hb
      rw [rdNum, if_pos h45, if_neg (by omega), rdD_lp 2 0 (I + 1) hd (by omega), hl]
      exact ⟨by simp, hr, hb.2⟩
    · refine (number_minus_bad q s I w hs (by omega) h h45 h1).mono ?_
      rintro e w' ⟨rfl, hr, hx⟩
      refine ⟨_, rfl, hx, ?_⟩
      have e : rdNum s I = .inl (I + 1) := by
        rw [rdNum, if_pos h45]
        by_cases h48 : bAt s (I + 1) = 48
        · rw [if_pos h48]
        · rw [if_neg h48, rdD, if_neg]
          rw [isDig_iff]; omega
      rw [e]
      exact ⟨rfl, hr, by omega⟩
  · by_cases h48 : bAt s I = 48
    · have hlt : I < s.size := bAt_lt (by omega)
      refine (number_zero q s I w hs hI h h48).mono ?_
      rintro e w' ⟨rfl, hr, hx⟩
      refine ⟨_, rfl, hx, ?_⟩
      have e : rdNum s I = .inr (0, I + 1) := by
        rw [rdNum, if_neg h45, rdD, if_pos (isDig_iff.2 ⟨by omega, by omega⟩), if_neg (by rw [h48]; simp), h48]; simp
      rw [e]
      exact ⟨rfl, hr, by omega⟩
    · by_cases h1 : 49 ≤ bAt s I ∧ bAt s I ≤ 57
      · refine (number_digits q s I w hs hI h h1).mono ?_
        rintro e w' ⟨n, i, hl, rfl, hr, hx⟩
        refine ⟨_, rfl, hx, ?_⟩
        have hd : isDig (bAt s I) = true := isDig_iff.2 ⟨by omega, by omega⟩
        have hb := lp_bd (s := s) 3 0 I hI
        rw [hl] at hb
        rw [rdNum, if_neg h45, rdD_lp 2 0 I hd (by omega), hl]
        exact ⟨by simp, hr, hb.2⟩
      · refine (number_bad q s I w hs hI h h45 (by omega)).mono ?_
        rintro e w' ⟨rfl, hr, hx⟩
        refine ⟨_, rfl, hx, ?_⟩
        have e : rdNum s I = .inl I := by
          rw [rdNum, if_neg h45, rdD, if_neg]
          rw [isDig_iff]; omega
        rw [e]
        exact ⟨rfl, hr, hI⟩

end Go.Proofs.Ytlicmfhgjonmnaa
