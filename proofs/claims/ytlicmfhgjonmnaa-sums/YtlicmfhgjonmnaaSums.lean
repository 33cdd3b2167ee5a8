/- The statement Sums. Own work (the frame of the row's step: by the guide's program). -/
import Derived.Test.YtlicmfhgjonmnaaUb
import Derived.Test.YtlicmfhgjonmnaaRows
import Derived.ProofKit
import Derived.OpenShut
import Derived.ShutString
namespace Go.Proofs.Ytlicmfhgjonmnaa
open Go.ChangeShapes Go.WideShapes Go.ChangeAt Go.RowKit
open Go.ChangeMaps (open_string shut_string)
set_option linter.unusedVariables false

set_option maxHeartbeats 1000000 in
theorem sums_walk (s : ByteArray) (hs : s.size ≤ maxLen) (w : World) :
    Calls Try.prog 6 #[.string s] w fun e w' => e = .returned (.bool true) ∧ Below w.heap.size w w' := by
  by_cases h160 : 160 < s.size
  · go_enter Try.func6, Try.ntmps6
    go_wp2_with fail
    refine (Area_long s _ hs h160).mono ?_
    rintro e w1 ⟨rfl, hb1⟩
    have Hb1 := hide hb1
    clear hb1
    go_wp2_with fail
    refine (Cut_long s _ hs h160).mono ?_
    rintro e w2 ⟨rfl, hb2⟩
    have Hb2 := hide hb2
    clear hb2
    go_wp2_with fail
    refine (rCheck_long s _ hs h160).mono ?_
    rintro e w3 ⟨rfl, hb3⟩
    have Hb3 := hide hb3
    clear hb3
    go_wp2_with fail
    refine (num_any _ _).mono ?_
    rintro e w' ⟨rfl, rfl⟩
    go_wp2_with fail
    refine (num_any _ _).mono ?_
    rintro e w' ⟨rfl, rfl⟩
    go_wp2_with fail
    go_ret
    exact ⟨rfl, below_next Hb1.out (below_next Hb2.out Hb3.out)⟩
  · have hs' : s.size ≤ 160 := by omega
    cases h : rdAll s 16 0 [] with
    | inl p =>
      have H := hide h
      clear h
      go_enter Try.func6, Try.ntmps6
      go_wp2_with fail
      refine (Area_text s _ hs' p H.out).mono ?_
      rintro e w1 ⟨rfl, hb1⟩
      have Hb1 := hide hb1
      clear hb1
      go_wp2_with fail
      refine (Cut_text s _ hs' p H.out).mono ?_
      rintro e w2 ⟨rfl, hb2⟩
      have Hb2 := hide hb2
      clear hb2
      go_wp2_with fail
      refine (rCheck_text s _ hs' p H.out).mono ?_
      rintro e w3 ⟨rfl, hb3⟩
      have Hb3 := hide hb3
      clear hb3
      go_wp2_with fail
      refine (num_any _ _).mono ?_
      rintro e w' ⟨rfl, rfl⟩
      go_wp2_with fail
      refine (num_any _ _).mono ?_
      rintro e w' ⟨rfl, rfl⟩
      go_wp2_with fail
      go_ret
      exact ⟨rfl, below_next Hb1.out (below_next Hb2.out Hb3.out)⟩
    | inr l =>
      by_cases hF : badF l = -1
      · exact sums_ok s w hs' l h hF
      · have H := hide h
        have HF := hide hF
        clear h hF
        go_enter Try.func6, Try.ntmps6
        go_wp2_with fail
        refine (Area_l s _ hs' l H.out).mono ?_
        rintro e w1 ⟨hrng, hb1, k1, -⟩
        obtain rfl := k1 HF.out
        have Hb1 := hide hb1
        have Hrng := hide hrng
        clear hb1 k1 hrng
        go_wp2_with fail
        refine (Cut_l s _ hs' l H.out).mono ?_
        rintro e w2 ⟨-, hb2, k2, -⟩
        obtain rfl := k2 HF.out
        have Hb2 := hide hb2
        clear hb2 k2
        go_wp2_with fail
        refine (rCheck_l s _ hs' l H.out Hrng.out).mono ?_
        rintro e w3 ⟨hb3, k3, -⟩
        obtain rfl := k3 HF.out
        have Hb3 := hide hb3
        clear hb3 k3
        go_wp2_with fail
        refine (num_any _ _).mono ?_
        rintro e w' ⟨rfl, rfl⟩
        go_wp2_with fail
        refine (num_any _ _).mono ?_
        rintro e w' ⟨rfl, rfl⟩
        go_wp2_with fail
        go_ret
        exact ⟨rfl, below_next Hb1.out (below_next Hb2.out Hb3.out)⟩

theorem own : ownKnob Try.prog.godebug = none := by kernel_rfl

set_option maxRecDepth 100000 in
theorem sums_lifted (os : Os) (started : os.Started) (H : Type) (enc : TypeId × Value → H) :
    ReturnsInHanded {} Try.checked os 6 .any (Rows.sumsSpec.pre6 enc Try.prog Try.f6 Rows.sumsRow.domain false) (Rows.sumsSpec.post enc Try.prog Try.f6 false true false false) := by
  refine returnsInHanded_of_change (C := Try.checked) own started (by kernel_rfl) Try.func6
    (ChangeSpec.witness6 (enc := enc) (C := Try.checked) false ⟨#[], #[.string ByteArray.empty], []⟩ 8 (by kernel_rfl) (by kernel_rfl) (by kernel_rfl) (by kernel_rfl)) ?_
  intro W base args ds gs before hval0 hW hcnd _
  have hval : ∀ (j : Nat) t v, Try.f6.params[j]? = some t → args[j]? = some v → Value.okWide Try.prog W .any base t v := hval0
  have hW' := hW
  obtain ⟨p, q, hA0, hV, rfl, hfz, hnd⟩ := hW
  have hA : DataW.TrodAll enc Try.prog W 0 (fun _ => true) true Try.f6.params.toList args.toList ds p := hA0
  rw [Try.params6] at hA hval
  obtain ⟨v0, vs0, d0, ds0, p0, q0, hargs, rfl, rfl, h0, r0⟩ := trodAll_cons hA
  obtain ⟨rfl, rfl, rfl⟩ := trodAll_nil r0
  obtain rfl : args = #[v0] := by cases args; simp_all
  obtain ⟨rfl, rfl⟩ := trodVars_none hV
  obtain ⟨a0, rfl, rfl, rfl, w0⟩ := open_string Try.underlying9 (hval 0 9 v0 rfl rfl) h0
  clear hA0 hval0
  simp only [List.append_nil] at hW'
  refine (sums_walk a0 w0 W).mono fun e W' ⟨he, bel⟩ => ?_
  subst he
  exact ⟨_, rfl, _, _, _, [], _, [], hW', trodAll_mk1 (shut_bool Try.underlying4 _), (trodAll_cons_mk (shut_string Try.underlying9 w0) trodAll_mk0), rfl, bel.frame _, fun h => by cases h⟩

theorem sums_over : Rows.sumsRow.holds Try.pinned (OpenSpec.ofChange Rows.sumsSpec) :=
  OpenClaim.holds_of_wide 6 Try.f6 rfl rfl rfl rfl rfl rfl rfl ⟨rfl, rfl, rfl, rfl, rfl⟩ rfl rfl rfl rfl rfl (by kernel_rfl) Try.func6 (by kernel_rfl)
    (of_decide_eq_true (by kernel_rfl)) (by unfold Func.isWrapper; first | (rw [if_pos (by decide +kernel)]; kernel_rfl) | (rw [if_neg (by decide +kernel)]; exact ⟨rfl, rfl⟩))
    (fun os started H enc _ => sums_lifted os started H enc)

theorem sums_proved : Rows.SumsSaid := sums_over

end Go.Proofs.Ytlicmfhgjonmnaa
