/- The document's Where; the statement on Where. Own work (the frame of the row's step: by the guide's program). -/
import Derived.Test.YtlicmfhgjonmnaaPg
import Derived.Test.YtlicmfhgjonmnaaRows
import Derived.ProofKit
import Derived.OpenShut
import Derived.ShutString
namespace Go.Proofs.Ytlicmfhgjonmnaa
open Go.ChangeShapes Go.WideShapes Go.ChangeAt Go.RowKit
open Go.ChangeMaps (open_string shut_string)
set_option linter.unusedVariables false

set_option maxHeartbeats 1000000 in
theorem places_walk (s : ByteArray) (x y : Int) (hs : s.size ≤ maxLen) (w : World) :
    Calls Try.prog 5 #[.string s, .int .i64 x, .int .i64 y] w fun e w' => e = .returned (.bool true) ∧ Below w.heap.size w w' := by
  by_cases h160 : 160 < s.size
  · go_enter Try.func5, Try.ntmps5
    go_wp2_with fail
    refine (Where_long s x y _ hs h160).mono ?_
    rintro e w1 ⟨rfl, hb1⟩
    have Hb1 := hide hb1
    clear hb1
    go_wp2_with fail
    refine (rWhere_long s x y _ hs h160).mono ?_
    rintro e w2 ⟨rfl, hb2⟩
    have Hb2 := hide hb2
    clear hb2
    go_wp2_with fail
    refine (num_any _ _).mono ?_
    rintro e w3 ⟨rfl, rfl⟩
    go_wp2_with fail
    go_ret
    exact ⟨rfl, below_next Hb1.out Hb2.out⟩
  · cases h : rdAll s 16 0 [] with
    | inl p =>
      have H := hide h
      clear h
      go_enter Try.func5, Try.ntmps5
      go_wp2_with fail
      refine (Where_text s x y _ (by omega) p H.out).mono ?_
      rintro e w1 ⟨rfl, hb1⟩
      have Hb1 := hide hb1
      clear hb1
      go_wp2_with fail
      refine (rWhere_text s x y _ (by omega) p H.out).mono ?_
      rintro e w2 ⟨rfl, hb2⟩
      have Hb2 := hide hb2
      clear hb2
      go_wp2_with fail
      refine (num_any _ _).mono ?_
      rintro e w3 ⟨rfl, rfl⟩
      go_wp2_with fail
      go_ret
      exact ⟨rfl, below_next Hb1.out Hb2.out⟩
    | inr l =>
      have H := hide h
      clear h
      have hs' : s.size ≤ 160 := by omega
      go_enter Try.func5, Try.ntmps5
      go_wp2_with fail
      refine (Where_meet s x y _ hs' l H.out).mono ?_
      rintro e w1 ⟨ps, hxy, hb1, h1, h2, h3⟩
      subst hxy
      have hl3 : 3 ≤ ps.length := by
        have := rdAll_len s 16 0 [] _ H.out (by simp)
        rw [xy_length] at this
        exact this.1
      have hF := first_eq ps hl3
      rw [hF] at h1 h2 h3
      have Hb1 := hide hb1
      clear hb1 hF
      generalize hG : firstI (badRow (xy ps)) (xy ps).length = F at *
      have HG := hide hG
      clear hG
      have HR := hide (rWhere_meet s x y)
      by_cases hm : F = -1
      · cases hfar : farB x y
        · obtain ⟨cp, ⟨hx, hy⟩, rfl⟩ := h3 hm hfar
          have hE : spotI ps cp = placeI (xy ps) (x, y) := by rw [spot_eq, ← hx, ← hy]; rfl
          rw [hE]
          have Hm := hide hm
          have Hfar := hide hfar
          clear h1 h2 h3 hm hfar hx hy hE
          generalize hS : placeI (xy ps) (x, y) = S at *
          have HS := hide hS
          clear hS
          obtain ⟨S1, S2⟩ := S
          go_wp2_with fail
          refine (HR.out _ hs' ps H.out).mono ?_
          rintro e w2 ⟨hb2, k1, k2, k3⟩
          obtain rfl := k3 (HG.out.trans Hm.out) Hfar.out
          rw [HS.out]
          have Hb2 := hide hb2
          clear hb2 k1 k2 k3
          go_wp2_with fail
          refine (num_any _ _).mono ?_
          rintro e w3 ⟨rfl, rfl⟩
          go_wp2_with fail
          go_ret
          exact ⟨by simp, below_next Hb1.out Hb2.out⟩
        · obtain rfl := h2 hm hfar
          have Hm := hide hm
          have Hfar := hide hfar
          clear h1 h2 h3 hm hfar
          go_wp2_with fail
          refine (HR.out _ hs' ps H.out).mono ?_
          rintro e w2 ⟨hb2, k1, k2, k3⟩
          obtain rfl := k2 (HG.out.trans Hm.out) Hfar.out
          have Hb2 := hide hb2
          clear hb2 k1 k2 k3
          go_wp2_with fail
          refine (num_any _ _).mono ?_
          rintro e w3 ⟨rfl, rfl⟩
          go_wp2_with fail
          go_ret
          exact ⟨rfl, below_next Hb1.out Hb2.out⟩
      · obtain rfl := h1 hm
        have Hm := hide hm
        clear h1 h2 h3 hm
        go_wp2_with fail
        refine (HR.out _ hs' ps H.out).mono ?_
        rintro e w2 ⟨hb2, k1, k2, k3⟩
        obtain rfl := k1 (by rw [HG.out]; exact Hm.out)
        rw [HG.out]
        have Hb2 := hide hb2
        clear hb2 k1 k2 k3
        go_wp2_with fail
        refine (num_any _ _).mono ?_
        rintro e w3 ⟨rfl, rfl⟩
        go_wp2_with fail
        go_ret
        exact ⟨by simp, below_next Hb1.out Hb2.out⟩

theorem own : ownKnob Try.prog.godebug = none := by kernel_rfl

set_option maxRecDepth 100000 in
theorem places_lifted (os : Os) (started : os.Started) (H : Type) (enc : TypeId × Value → H) :
    ReturnsInHanded {} Try.checked os 5 .any (Rows.placesSpec.pre6 enc Try.prog Try.f5 Rows.placesRow.domain false) (Rows.placesSpec.post enc Try.prog Try.f5 false true false false) := by
  refine returnsInHanded_of_change (C := Try.checked) own started (by kernel_rfl) Try.func5
    (ChangeSpec.witness6 (enc := enc) (C := Try.checked) false ⟨#[], #[.string ByteArray.empty, .int .i64 0, .int .i64 0], []⟩ 8 (by kernel_rfl) (by kernel_rfl) (by kernel_rfl) (by kernel_rfl)) ?_
  intro W base args ds gs before hval0 hW hcnd _
  have hval : ∀ (j : Nat) t v, Try.f5.params[j]? = some t → args[j]? = some v → Value.okWide Try.prog W .any base t v := hval0
  have hW' := hW
  obtain ⟨p, q, hA0, hV, rfl, hfz, hnd⟩ := hW
  have hA : DataW.TrodAll enc Try.prog W 0 (fun _ => true) true Try.f5.params.toList args.toList ds p := hA0
  rw [Try.params5] at hA hval
  obtain ⟨v0, vs0, d0, ds0, p0, q0, hargs0, rfl, rfl, h0, r0⟩ := trodAll_cons hA
  obtain ⟨v1, vs1, d1, ds1, p1, q1, hargs1, rfl, rfl, h1, r1⟩ := trodAll_cons r0
  obtain ⟨v2, vs2, d2, ds2, p2, q2, hargs2, rfl, rfl, h2, r2⟩ := trodAll_cons r1
  obtain ⟨rfl, rfl, rfl⟩ := trodAll_nil r2
  obtain rfl : args = #[v0, v1, v2] := by cases args; simp_all
  obtain ⟨rfl, rfl⟩ := trodVars_none hV
  obtain ⟨a0, rfl, rfl, rfl, w0⟩ := open_string Try.underlying9 (hval 0 9 v0 rfl rfl) h0
  obtain ⟨a1, rfl, rfl, rfl, w1⟩ := open_int Try.underlying3 (hval 1 3 v1 rfl rfl) h1
  obtain ⟨a2, rfl, rfl, rfl, w2⟩ := open_int Try.underlying3 (hval 2 3 v2 rfl rfl) h2
  clear hA0 hval0
  simp only [List.append_nil] at hW'
  refine (places_walk a0 a1 a2 w0 W).mono fun e W' ⟨he, bel⟩ => ?_
  subst he
  exact ⟨_, rfl, _, _, _, [], _, [], hW', trodAll_mk1 (shut_bool Try.underlying4 _), (trodAll_cons_mk (shut_string Try.underlying9 w0) (trodAll_cons_mk (shut_int Try.underlying3 w1) (trodAll_cons_mk (shut_int Try.underlying3 w2) trodAll_mk0))), rfl, bel.frame _, fun h => by cases h⟩

theorem places_over : Rows.placesRow.holds Try.pinned (OpenSpec.ofChange Rows.placesSpec) :=
  OpenClaim.holds_of_wide 5 Try.f5 rfl rfl rfl rfl rfl rfl rfl ⟨rfl, rfl, rfl, rfl, rfl⟩ rfl rfl rfl rfl rfl (by kernel_rfl) Try.func5 (by kernel_rfl)
    (of_decide_eq_true (by kernel_rfl)) (by unfold Func.isWrapper; first | (rw [if_pos (by decide +kernel)]; kernel_rfl) | (rw [if_neg (by decide +kernel)]; exact ⟨rfl, rfl⟩))
    (fun os started H enc _ => places_lifted os started H enc)

theorem places_proved : Rows.PlacesSaid := places_over

end Go.Proofs.Ytlicmfhgjonmnaa
