/- Walks of the document's numbers. Own work. -/
import Derived.Test.YtlicmfhgjonmnaaRa
namespace Go.Proofs.Ytlicmfhgjonmnaa
open Go.RowKit
set_option linter.unusedVariables false

set_option maxHeartbeats 4000000 in
theorem number_digits (q : Nat) (s : ByteArray) (I : Nat) (w : World) (hs : s.size ≤ 160) (hI : I ≤ s.size) (h : RS w q s I (-1)) (h1 : 49 ≤ bAt s I ∧ bAt s I ≤ 57) :
    Calls Try.prog 36 #[.pointer (some ⟨q, 0, none⟩)] w fun e w' => ∃ n i, lp s 3 0 I = (n, i) ∧ e = .returned (.int .i64 n) ∧ RS w' q s i (-1) ∧ Ex q w w' := by
  obtain ⟨c0, c1, c2, f1, f2⟩ := h.cells
  have b1 : hereB s I (-1) 45 45 = false := by simp [hereB]; omega
  have b2 : hereB s I (-1) 48 48 = false := by simp [hereB]; omega
  have b3 : hereB s I (-1) 49 57 = true := by have := bAt_lt (s := s) (k := I) (by omega); simp [hereB]; omega
  have H := hide h
  have B1 := hide b1
  have B2 := hide b2
  have B3 := hide b3
  clear h b1 b2 b3
  go_enter Try.func36, Try.ntmps36
  go_wp2_with fail
  refine (here_any q s I (-1) 45 45 _ hs H.out).mono ?_
  rintro e w1 ⟨rfl, n1, rfl⟩
  rw [B1.out]
  go_wp2_with fail
  refine (here_any q s I (-1) 48 48 _ hs (by exact H.out.drewN _)).mono ?_
  rintro e w1 ⟨rfl, n2, rfl⟩
  rw [B2.out]
  go_wp2_with fail
  refine (here_any q s I (-1) 49 57 _ hs (by exact H.out.drewN _)).mono ?_
  rintro e w1 ⟨rfl, n3, rfl⟩
  rw [B3.out]
  go_wp2_with fail
  go_loopw [7, 8] (fun nv kv wr => ∃ n k i : Nat, nv = .int .i64 n ∧ kv = .int .i64 k ∧ k ≤ 3 ∧ lp s (3 - k) n i = lp s 3 0 I ∧ (n + 1 ≤ 10 ^ k) ∧ RS wr q s i (-1) ∧ Ex q w wr ∧ i ≤ s.size) (fun _ kv _ => 3 - (intOf kv).toNat)
  case atStart => exact ⟨0, 0, I, rfl, rfl, by omega, rfl, by decide, by exact H.out.drewN _, by exact (Ex.refl _ _).drewN _, hI⟩
  case round =>
    obtain ⟨n, k, i, rfl, rfl, hk, hlp, hn, hrs, hex, hi⟩ := hrel
    have hn9 : n ≤ 999 := by
      have : 10 ^ k ≤ 10 ^ 3 := Nat.pow_le_pow_right (by decide) hk
      have h3 : (10 : Nat) ^ 3 = 1000 := by decide
      omega
    obtain ⟨c0, c1, c2, f1, f2⟩ := hrs.cells
    have Hrs := hide hrs
    have Hex := hide hex
    have Hlp := hide hlp
    have Hn := hide hn
    clear hrs hex hlp hn
    by_cases hk3 : k < 3
    · have hk3' : (k : Int) < 3 := by omega
      have hb2 : n ≤ 99 := by
        have h := Hn.out
        have : 10 ^ k ≤ 10 ^ 2 := Nat.pow_le_pow_right (by decide) (by omega)
        have h3 : (10 : Nat) ^ 2 = 100 := by decide
        omega
      cases hd : isDig (bAt s i)
      · have hB : hereB s i (-1) 48 57 = false := by
          simp only [isDig] at hd; simp only [hereB, hd]; simp
        have Hd := hide hd
        have HB := hide hB
        clear hd hB
        go_wp2_with fail
        refine (here_any q s i (-1) 48 57 _ hs Hrs.out).mono ?_
        rintro e w2 ⟨rfl, nd, rfl⟩
        rw [HB.out]
        go_wp2_with fail
        go_roundw
        case rel =>
          refine ⟨n, k + 1, i, rfl, by go_num, by omega, ?_, ?_, Hrs.out.drewN _, Hex.out.drewN _, hi⟩
          · rw [← Hlp.out, lp_stop Hd.out, lp_stop Hd.out]
          · have := Hn.out; rw [Nat.pow_succ]; omega
        case measure => simp [intOf]; omega
      · have hd2 := isDig_iff.1 hd
        have hlt : i < s.size := bAt_lt (by omega)
        have hB : hereB s i (-1) 48 57 = true := by
          simp only [isDig] at hd; simp only [hereB, hd, hlt]; simp
        have hbb : bAt s i = s[i].toNat := by simp [bAt, hlt]
        have hb1 : 48 ≤ s[i].toNat := by omega
        have hb3 : s[i].toNat ≤ 57 := by omega
        have hlti : (i : Int) < (s.size : Int) := by omega
        have Hd := hide hd
        have HB := hide hB
        have Hbb := hide hbb
        clear hd hB hbb hd2
        go_wp2_with fail
        refine (here_any q s i (-1) 48 57 _ hs Hrs.out).mono ?_
        rintro e w2 ⟨rfl, nd, rfl⟩
        rw [HB.out]
        go_wp2_with fail
        go_quiet (fail)
        go_wp2_with fail
        go_roundw
        case rel =>
          refine ⟨10 * n + (bAt s i - 48), k + 1, i + 1, by rw [Hbb.out]; go_num, by go_num, by omega, ?_, ?_, ?_, ?_, by omega⟩
          · rw [← Hlp.out]
            rw [show 3 - k = (3 - (k + 1)) + 1 by omega, lp, if_pos Hd.out]
          · have := Hn.out; have := Hbb.out; rw [Nat.pow_succ]; omega
          · exact (Hrs.out.drewN _).setI _
          · exact (Hex.out.drewN _).set _ _
        case measure => simp [intOf]; omega
    · have hk3' : ¬ (k : Int) < 3 := by omega
      have hke : k = 3 := by omega
      go_wp2_with fail
      go_ret
      have he := Hlp.out
      rw [hke] at he
      refine ⟨n, i, he.symm, by simp, Hrs.out, Hex.out⟩

end Go.Proofs.Ytlicmfhgjonmnaa
