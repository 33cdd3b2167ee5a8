/- The statement Covered. Own work (the frame of the row's step: by the guide's program). -/
import Derived.Test.YtlicmfhgjonmnaaUe
import Derived.Test.YtlicmfhgjonmnaaRows
import Derived.ProofKit
import Derived.OpenShut
import Derived.ShutString
namespace Go.Proofs.Ytlicmfhgjonmnaa
open Go.ChangeShapes Go.WideShapes Go.ChangeAt Go.RowKit
open Go.ChangeMaps (open_string shut_string)
set_option linter.unusedVariables false

set_option maxRecDepth 100000 in
set_option maxHeartbeats 4000000 in
theorem covered_walk (s : ByteArray) (x y : Int) (hs : s.size ≤ maxLen) (w : World) :
    Calls Try.prog 9 #[.string s, .int .i64 x, .int .i64 y] w fun e w' => e = .returned (.bool true) ∧ Below w.heap.size w w' := by
  by_cases h160 : 160 < s.size
  · go_enter Try.func9, Try.ntmps9
    go_wp2_with fail
    refine (Where_long s x y _ hs h160).mono ?_
    rintro e w1 ⟨rfl, hb1⟩
    have Hb1 := hide (below_one hb1)
    clear hb1
    go_wp2_with fail
    refine (Cut_long s _ hs h160).mono ?_
    rintro e w2 ⟨rfl, hb2⟩
    have Hb2 := hide (below_next Hb1.out hb2)
    clear hb2
    go_wp2_with fail
    refine (Find_long s x y _ hs h160).mono ?_
    rintro e w3 ⟨rfl, hb3⟩
    have Hb3 := hide (below_next Hb2.out hb3)
    clear hb3
    go_wp2_with fail
    refine (rCheck_long s _ hs h160).mono ?_
    rintro e w4 ⟨rfl, hb4⟩
    have Hb4 := hide (below_next Hb3.out hb4)
    clear hb4
    go_wp2_with fail
    refine (num_any _ _).mono ?_
    rintro e w' ⟨rfl, rfl⟩
    go_wp2_with fail
    refine (num_any _ _).mono ?_
    rintro e w' ⟨rfl, rfl⟩
    go_wp2_with fail
    go_ret
    exact ⟨rfl, Hb4.out⟩
  · have hs' : s.size ≤ 160 := by omega
    cases h : rdAll s 16 0 [] with
    | inl p =>
      have H := hide h
      clear h
      go_enter Try.func9, Try.ntmps9
      go_wp2_with fail
      refine (Where_text s x y _ hs' p H.out).mono ?_
      rintro e w1 ⟨rfl, hb1⟩
      have Hb1 := hide (below_one hb1)
      clear hb1
      go_wp2_with fail
      refine (Cut_text s _ hs' p H.out).mono ?_
      rintro e w2 ⟨rfl, hb2⟩
      have Hb2 := hide (below_next Hb1.out hb2)
      clear hb2
      go_wp2_with fail
      refine (Find_text s x y _ hs' p H.out).mono ?_
      rintro e w3 ⟨rfl, hb3⟩
      have Hb3 := hide (below_next Hb2.out hb3)
      clear hb3
      go_wp2_with fail
      refine (rCheck_text s _ hs' p H.out).mono ?_
      rintro e w4 ⟨rfl, hb4⟩
      have Hb4 := hide (below_next Hb3.out hb4)
      clear hb4
      go_wp2_with fail
      refine (num_any _ _).mono ?_
      rintro e w' ⟨rfl, rfl⟩
      go_wp2_with fail
      refine (num_any _ _).mono ?_
      rintro e w' ⟨rfl, rfl⟩
      go_wp2_with fail
      go_ret
      exact ⟨rfl, Hb4.out⟩
    | inr l =>
      by_cases hF : badF l = -1
      · cases hfar : farB x y with
        | false => exact covered_ok s x y w hs' l h hF hfar
        | true =>
          have H := hide h
          have HF := hide hF
          have Hfar := hide hfar
          clear h hF hfar
          go_enter Try.func9, Try.ntmps9
          go_wp2_with fail
          refine (Where_l s _ hs' l H.out x y).mono ?_
          rintro e w1 ⟨hrng, hb1, -, k1, -⟩
          obtain rfl := k1 HF.out Hfar.out
          have Hrng := hide hrng
          have Hb1 := hide hb1
          clear hb1 k1 hrng
          go_wp2_with fail
          refine (Cut_l s _ hs' l H.out).mono ?_
          rintro e w2 ⟨-, hb2, -, k1⟩
          obtain ⟨r, cc, rfl, hr, hrow⟩ := k1 HF.out
          have Hb2 := hide (below_next Hb1.out hb2)
          clear hb2 k1 hrow
          go_wp2_with fail
          refine (Find_l s _ hs' l H.out x y).mono ?_
          rintro e w3 ⟨-, hb3, -, k1, -⟩
          obtain rfl := k1 HF.out Hfar.out
          have Hb3 := hide (below_next Hb2.out hb3)
          clear hb3 k1
          go_wp2_with fail
          refine (rCheck_l s _ hs' l H.out Hrng.out).mono ?_
          rintro e w4 ⟨hb4, -, k1⟩
          obtain rfl := k1 HF.out
          have hb4' := below_next Hb3.out hb4
          have p0 : w4.cell? ⟨w.heap.size, 0, none⟩ = some (.int .i64 x) := by rw [hb4'.cell (p := ⟨w.heap.size, 0, none⟩) (by simp), cell_last _ _ _ _ _ rfl]; rfl
          have p1 : w4.cell? ⟨w.heap.size, 1, none⟩ = some (.int .i64 y) := by rw [hb4'.cell (p := ⟨w.heap.size, 1, none⟩) (by simp), cell_last _ _ _ _ _ rfl]; rfl
          have Hb4 := hide (below_one hb4')
          clear hb4 k1 hb4'
          go_wp2_with fail
          refine (Fits_any x y _).mono ?_
          rintro e w5 ⟨rfl, hb5⟩
          rw [Hfar.out]
          have Hb5 := hide (below_next Hb4.out hb5)
          clear hb5
          go_wp2_with fail
          refine (num_any _ _).mono ?_
          rintro e w' ⟨rfl, rfl⟩
          go_wp2_with fail
          refine (num_any _ _).mono ?_
          rintro e w' ⟨rfl, rfl⟩
          go_wp2_with fail
          go_ret
          exact ⟨rfl, Hb5.out⟩
      · have H := hide h
        have HF := hide hF
        clear h hF
        go_enter Try.func9, Try.ntmps9
        go_wp2_with fail
        refine (Where_l s _ hs' l H.out x y).mono ?_
        rintro e w1 ⟨hrng, hb1, k1, -, -⟩
        obtain rfl := k1 HF.out
        have Hrng := hide hrng
        have Hb1 := hide (below_one hb1)
        clear hb1 k1 hrng
        go_wp2_with fail
        refine (Cut_l s _ hs' l H.out).mono ?_
        rintro e w2 ⟨-, hb2, k1, -⟩
        obtain rfl := k1 HF.out
        have Hb2 := hide (below_next Hb1.out hb2)
        clear hb2 k1
        go_wp2_with fail
        refine (Find_l s _ hs' l H.out x y).mono ?_
        rintro e w3 ⟨-, hb3, k1, -, -⟩
        obtain rfl := k1 HF.out
        have Hb3 := hide (below_next Hb2.out hb3)
        clear hb3 k1
        go_wp2_with fail
        refine (rCheck_l s _ hs' l H.out Hrng.out).mono ?_
        rintro e w4 ⟨hb4, k1, -⟩
        obtain rfl := k1 HF.out
        have Hb4 := hide (below_next Hb3.out hb4)
        clear hb4 k1
        go_wp2_with fail
        refine (num_any _ _).mono ?_
        rintro e w' ⟨rfl, rfl⟩
        go_wp2_with fail
        refine (num_any _ _).mono ?_
        rintro e w' ⟨rfl, rfl⟩
        go_wp2_with fail
        go_ret
        exact ⟨rfl, Hb4.out⟩

theorem own : ownKnob Try.prog.godebug = none := by kernel_rfl

set_option maxRecDepth 100000 in
theorem covered_lifted (os : Os) (started : os.Started) (H : Type) (enc : TypeId × Value → H) :
    ReturnsInHanded {} Try.checked os 9 .any (Rows.coveredSpec.pre6 enc Try.prog Try.f9 Rows.coveredRow.domain false) (Rows.coveredSpec.post enc Try.prog Try.f9 false true false false) := by
  refine returnsInHanded_of_change (C := Try.checked) own started (by kernel_rfl) Try.func9
    (ChangeSpec.witness6 (enc := enc) (C := Try.checked) false ⟨#[], #[.string ByteArray.empty, .int .i64 0, .int .i64 0], []⟩ 8 (by kernel_rfl) (by kernel_rfl) (by kernel_rfl) (by kernel_rfl)) ?_
  intro W base args ds gs before hval0 hW hcnd _
  have hval : ∀ (j : Nat) t v, Try.f9.params[j]? = some t → args[j]? = some v → Value.okWide Try.prog W .any base t v := hval0
  have hW' := hW
  obtain ⟨p, q, hA0, hV, rfl, hfz, hnd⟩ := hW
  have hA : DataW.TrodAll enc Try.prog W 0 (fun _ => true) true Try.f9.params.toList args.toList ds p := hA0
  rw [Try.params9] at hA hval
  obtain ⟨v0, vs0, d0, ds0, p0, q0, hargs0, rfl, rfl, h0, r0⟩ := trodAll_cons hA
  obtain ⟨v1, vs1, d1, ds1, p1, q1, hargs1, rfl, rfl, h1, r1⟩ := trodAll_cons r0
  obtain ⟨v2, vs2, d2, ds2, p2, q2, hargs2, rfl, rfl, h2, r2⟩ := trodAll_cons r1
  obtain ⟨rfl, rfl, rfl⟩ := trodAll_nil r2
  obtain rfl : args = #[v0, v1, v2] := by cases args; simp_all
  obtain ⟨rfl, rfl⟩ := trodVars_none hV
  obtain ⟨a0, rfl, rfl, rfl, w0⟩ := open_string Try.underlying9 (hval 0 9 v0 rfl rfl) h0
  obtain ⟨a1, rfl, rfl, rfl, w1⟩ := open_int Try.underlying3 (hval 1 3 v1 rfl rfl) h1
  obtain ⟨a2, rfl, rfl, rfl, w2⟩ := open_int Try.underlying3 (hval 2 3 v2 rfl rfl) h2
  clear hA0 hval0
  simp only [List.append_nil] at hW'
  refine (covered_walk a0 a1 a2 w0 W).mono fun e W' ⟨he, bel⟩ => ?_
  subst he
  exact ⟨_, rfl, _, _, _, [], _, [], hW', trodAll_mk1 (shut_bool Try.underlying4 _), (trodAll_cons_mk (shut_string Try.underlying9 w0) (trodAll_cons_mk (shut_int Try.underlying3 w1) (trodAll_cons_mk (shut_int Try.underlying3 w2) trodAll_mk0))), rfl, bel.frame _, fun h => by cases h⟩

theorem covered_over : Rows.coveredRow.holds Try.pinned (OpenSpec.ofChange Rows.coveredSpec) :=
  OpenClaim.holds_of_wide 9 Try.f9 rfl rfl rfl rfl rfl rfl rfl ⟨rfl, rfl, rfl, rfl, rfl⟩ rfl rfl rfl rfl rfl (by kernel_rfl) Try.func9 (by kernel_rfl)
    (of_decide_eq_true (by kernel_rfl)) (by unfold Func.isWrapper; first | (rw [if_pos (by decide +kernel)]; kernel_rfl) | (rw [if_neg (by decide +kernel)]; exact ⟨rfl, rfl⟩))
    (fun os started H enc _ => covered_lifted os started H enc)

theorem covered_proved : Rows.CoveredSaid := covered_over

end Go.Proofs.Ytlicmfhgjonmnaa
