/- The statement on Check. Own work (the frame of the row's step: by the guide's program). -/
import Derived.Test.YtlicmfhgjonmnaaMu
import Derived.Test.YtlicmfhgjonmnaaRows
import Derived.ProofKit
import Derived.OpenShut
import Derived.ShutString
namespace Go.Proofs.Ytlicmfhgjonmnaa
open Go.ChangeShapes Go.WideShapes Go.ChangeAt Go.RowKit
open Go.ChangeMaps (open_string shut_string)
set_option linter.unusedVariables false

set_option maxHeartbeats 1000000 in
theorem checks_walk (s : ByteArray) (hs : s.size ≤ maxLen) (w : World) :
    Calls Try.prog 3 #[.string s] w fun e w' => e = .returned (.bool true) ∧ Below w.heap.size w w' := by
  by_cases h160 : 160 < s.size
  · go_enter Try.func3, Try.ntmps3
    go_wp2_with fail
    refine (Check_long s _ hs h160).mono ?_
    rintro e w1 ⟨rfl, hb1⟩
    have Hb1 := hide hb1
    clear hb1
    go_wp2_with fail
    refine (rCheck_long s _ hs h160).mono ?_
    rintro e w2 ⟨rfl, hb2⟩
    have Hb2 := hide hb2
    clear hb2
    go_wp2_with fail
    refine (num_any _ _).mono ?_
    rintro e w3 ⟨rfl, rfl⟩
    go_wp2_with fail
    go_ret
    exact ⟨rfl, below_next Hb1.out Hb2.out⟩
  · cases h : rdAll s 16 0 [] with
    | inl p =>
      have H := hide h
      clear h
      go_enter Try.func3, Try.ntmps3
      go_wp2_with fail
      refine (Check_text s _ (by omega) p H.out).mono ?_
      rintro e w1 ⟨rfl, hb1⟩
      have Hb1 := hide hb1
      clear hb1
      go_wp2_with fail
      refine (rCheck_text s _ (by omega) p H.out).mono ?_
      rintro e w2 ⟨rfl, hb2⟩
      have Hb2 := hide hb2
      clear hb2
      go_wp2_with fail
      refine (num_any _ _).mono ?_
      rintro e w3 ⟨rfl, rfl⟩
      go_wp2_with fail
      go_ret
      exact ⟨rfl, below_next Hb1.out Hb2.out⟩
    | inr l =>
      have H := hide h
      clear h
      have hs' : s.size ≤ 160 := by omega
      go_enter Try.func3, Try.ntmps3
      go_wp2_with fail
      refine (Check_meet s _ hs' l H.out).mono ?_
      rintro e w1 ⟨ps, hxy, hb1, h1, h2⟩
      have h3 : 3 ≤ ps.length := by
        have := rdAll_len s 16 0 [] l H.out (by simp)
        rw [← hxy, xy_length] at this
        exact this.1
      have hB : ∀ i, Bd (pAt l i) := fun i => by rw [← hxy, pAt_xy]; exact bd_P _
      have hF := first_eq ps h3
      rw [hxy] at hF
      rw [hF] at h1 h2
      have HB := hide hB
      have Hb1 := hide hb1
      clear hb1 hB hxy hF
      generalize hG : firstI (badRow l) l.length = F at *
      have HG := hide hG
      clear hG
      by_cases hm : F = -1
      · obtain rfl := h2 hm
        have Hm := hide hm
        clear h1 h2 hm
        go_wp2_with fail
        refine (rCheck_meet s _ hs' l H.out HB.out).mono ?_
        rintro e w2 ⟨hb2, k1, k2⟩
        obtain rfl := k2 (HG.out.trans Hm.out)
        have Hb2 := hide hb2
        clear hb2 k1 k2
        go_wp2_with fail
        refine (num_any _ _).mono ?_
        rintro e w3 ⟨rfl, rfl⟩
        go_wp2_with fail
        go_ret
        exact ⟨rfl, below_next Hb1.out Hb2.out⟩
      · obtain rfl := h1 hm
        have Hm := hide hm
        clear h1 h2 hm
        go_wp2_with fail
        refine (rCheck_meet s _ hs' l H.out HB.out).mono ?_
        rintro e w2 ⟨hb2, k1, k2⟩
        obtain rfl := k1 (by rw [HG.out]; exact Hm.out)
        rw [HG.out]
        have Hb2 := hide hb2
        clear hb2 k1 k2
        go_wp2_with fail
        refine (num_any _ _).mono ?_
        rintro e w3 ⟨rfl, rfl⟩
        go_wp2_with fail
        go_ret
        exact ⟨by simp, below_next Hb1.out Hb2.out⟩

theorem own : ownKnob Try.prog.godebug = none := by kernel_rfl

set_option maxRecDepth 100000 in
theorem checks_lifted (os : Os) (started : os.Started) (H : Type) (enc : TypeId × Value → H) :
    ReturnsInHanded {} Try.checked os 3 .any (Rows.checksSpec.pre6 enc Try.prog Try.f3 Rows.checksRow.domain false) (Rows.checksSpec.post enc Try.prog Try.f3 false true false false) := by
  refine returnsInHanded_of_change (C := Try.checked) own started (by kernel_rfl) Try.func3
    (ChangeSpec.witness6 (enc := enc) (C := Try.checked) false ⟨#[], #[.string ByteArray.empty], []⟩ 8 (by kernel_rfl) (by kernel_rfl) (by kernel_rfl) (by kernel_rfl)) ?_
  intro W base args ds gs before hval0 hW hcnd _
  have hval : ∀ (j : Nat) t v, Try.f3.params[j]? = some t → args[j]? = some v → Value.okWide Try.prog W .any base t v := hval0
  have hW' := hW
  obtain ⟨p, q, hA0, hV, rfl, hfz, hnd⟩ := hW
  have hA : DataW.TrodAll enc Try.prog W 0 (fun _ => true) true Try.f3.params.toList args.toList ds p := hA0
  rw [Try.params3] at hA hval
  obtain ⟨v0, vs0, d0, ds0, p0, q0, hargs, rfl, rfl, h0, r0⟩ := trodAll_cons hA
  obtain ⟨rfl, rfl, rfl⟩ := trodAll_nil r0
  obtain rfl : args = #[v0] := by cases args; simp_all
  obtain ⟨rfl, rfl⟩ := trodVars_none hV
  obtain ⟨a0, rfl, rfl, rfl, w0⟩ := open_string Try.underlying9 (hval 0 9 v0 rfl rfl) h0
  clear hA0 hval0
  simp only [List.append_nil] at hW'
  refine (checks_walk a0 w0 W).mono fun e W' ⟨he, bel⟩ => ?_
  subst he
  exact ⟨_, rfl, _, _, _, [], _, [], hW', trodAll_mk1 (shut_bool Try.underlying4 _), (trodAll_cons_mk (shut_string Try.underlying9 w0) trodAll_mk0), rfl, bel.frame _, fun h => by cases h⟩

theorem checks_over : Rows.checksRow.holds Try.pinned (OpenSpec.ofChange Rows.checksSpec) :=
  OpenClaim.holds_of_wide 3 Try.f3 rfl rfl rfl rfl rfl rfl rfl ⟨rfl, rfl, rfl, rfl, rfl⟩ rfl rfl rfl rfl rfl (by kernel_rfl) Try.func3 (by kernel_rfl)
    (of_decide_eq_true (by kernel_rfl)) (by unfold Func.isWrapper; first | (rw [if_pos (by decide +kernel)]; kernel_rfl) | (rw [if_neg (by decide +kernel)]; exact ⟨rfl, rfl⟩))
    (fun os started H enc _ => checks_lifted os started H enc)

theorem checks_proved : Rows.ChecksSaid := checks_over

end Go.Proofs.Ytlicmfhgjonmnaa
