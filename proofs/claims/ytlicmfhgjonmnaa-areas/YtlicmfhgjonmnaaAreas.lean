/- The document's area; the statement on Area. Own work (the frame of the row's step: by the guide's program). -/
import Derived.Test.YtlicmfhgjonmnaaAr
import Derived.Test.YtlicmfhgjonmnaaRows
import Derived.ProofKit
import Derived.OpenShut
import Derived.ShutString
namespace Go.Proofs.Ytlicmfhgjonmnaa
open Go.ChangeShapes Go.WideShapes Go.ChangeAt Go.RowKit
open Go.ChangeMaps (open_string shut_string)
set_option linter.unusedVariables false

def twE (l : List (Int × Int)) (i : Nat) : Int := (pAt l i).1 * (pAt l (nextI l.length i)).2 - (pAt l i).2 * (pAt l (nextI l.length i)).1

theorem twE_eq (ps : List CP) (i : Nat) : twE (xy ps) i = arE ps i := by
  unfold twE arE
  rw [crs0, xy_length, pAt_xy, pAt_xy]
  rfl

set_option maxRecDepth 100000 in
set_option maxHeartbeats 2000000 in
theorem Twice_any (ps : List CP) (hn : ps.length ≤ 16) (g cap : Nat) (w : World) (hg : g < w.heap.size) (hrow : RowP w g (xy ps)) :
    Calls Try.prog 30 #[.slice (some ⟨g, 0, none⟩) ps.length cap] w fun r w' =>
      r = .returned (.int .i64 (sumI (arE ps) ps.length)) ∧ Below w.heap.size w w' := by
  have Hrow := hide hrow
  clear hrow
  go_enter Try.func30, Try.ntmps30
  go_wp2_with fail
  go_loopw [3, 4] (fun sv i wr => ∃ k : Nat, k ≤ ps.length ∧ i = .int .i64 k ∧ sv = .int .i64 (sumI (arE ps) k) ∧ Below w.heap.size w wr) (fun _ i _ => ps.length - (intOf i).toNat)
  case atStart => exact ⟨0, Nat.zero_le _, rfl, rfl, Below.refl _ _⟩
  case round =>
    obtain ⟨k, hk, rfl, rfl, hbel⟩ := hrel
    have hs1 := sumI_bd (arE ps) (arE_bd ps) k
    have s1 : -31936032 ≤ sumI (arE ps) k := by omega
    have s2 : sumI (arE ps) k ≤ 31936032 := by omega
    clear hs1
    by_cases hlt2 : k < ps.length
    · have hi : (k : Int) < (ps.length : Int) := by omega
      have hj : nextI ps.length k < ps.length := Nat.mod_lt _ (by omega)
      have e1 : ((k : Int) + 1) % (ps.length : Int) = (nextI ps.length k : Int) := by simp [nextI]
      have e2 : ((k : Int) + 1).tmod (ps.length : Int) = (nextI ps.length k : Int) := by rw [Int.tmod_eq_emod_of_nonneg (by omega)]; exact e1
      have hrw := Hrow.out.below hbel hg
      obtain ⟨c1, c2⟩ := hrw k (by rw [xy_length]; exact hlt2)
      obtain ⟨c3, c4⟩ := hrw (nextI ps.length k) (by rw [xy_length]; exact hj)
      have hgr : g < wr.heap.size := Nat.lt_of_lt_of_le hg hbel.size
      rw [pAt_xy] at c1 c2 c3 c4
      have b1 := (ptAt ps k).hx
      have b2 := (ptAt ps k).hy
      have b3 := (ptAt ps (nextI ps.length k)).hx
      have b4 := (ptAt ps (nextI ps.length k)).hy
      have hstep : sumI (arE ps) (k + 1) = sumI (arE ps) k + (ptAt ps k).x * (ptAt ps (nextI ps.length k)).y - (ptAt ps k).y * (ptAt ps (nextI ps.length k)).x := by
        simp only [sumI, arE]
        rw [crs0]; omega
      have Hstep := hide hstep
      have Hbel := hide hbel
      clear hstep hbel hrw
      simp only [P] at c1 c2 c3 c4
      generalize (ptAt ps k).x = x1 at *
      generalize (ptAt ps k).y = y1 at *
      generalize (ptAt ps (nextI ps.length k)).x = x2 at *
      generalize (ptAt ps (nextI ps.length k)).y = y2 at *
      generalize nextI ps.length k = j at *
      generalize sumI (arE ps) k = S at *
      have hz : ((ps.length : Int) == 0) = false := beq_eq_false_iff_ne.2 (by omega)
      have ij : (j : Int) < (ps.length : Int) := by omega
      obtain ⟨m1, m2⟩ := prod999 b1 b4
      obtain ⟨m3, m4⟩ := prod999 b2 b3
      clear b1 b2 b3 b4
      go_wp2_with fail
      go_quiet (fail)
      go_wp2_with fail
      go_roundw
      case rel => exact ⟨k + 1, by omega, by go_num, by rw [Hstep.out], below_drewN (Hbel.out.alloc Hbel.out.size _) _⟩
      case measure => simp [intOf]; omega
    · have hi : ¬ (k : Int) < (ps.length : Int) := by omega
      have hke : k = ps.length := by omega
      have Hke := hide hke
      have Hbel := hide hbel
      clear hke hbel
      go_wp2_with fail
      go_ret
      exact ⟨ret_int (by rw [Hke.out]), Hbel.out⟩

set_option maxHeartbeats 1000000 in
theorem rArea_long (s : ByteArray) (w : World) (hs : s.size ≤ maxLen) (h : 160 < s.size) :
    Calls Try.prog 14 #[.string s] w fun e w' => e = .returned (.tuple #[.int .i64 0, .int .i64 1, .int .i64 0]) ∧ Below w.heap.size w w' := by
  go_enter Try.func14, Try.ntmps14
  go_wp2_with fail
  refine (rCheck_long s _ hs h).mono ?_
  rintro e w1 ⟨rfl, hb⟩
  have Hb := hide hb
  clear hb
  go_wp2_with fail
  go_ret3
  exact ⟨rfl, Hb.out⟩

set_option maxHeartbeats 1000000 in
theorem rArea_text (s : ByteArray) (w : World) (hs : s.size ≤ 160) (p : Nat) (h : rdAll s 16 0 [] = .inl p) :
    Calls Try.prog 14 #[.string s] w fun e w' => e = .returned (.tuple #[.int .i64 0, .int .i64 2, .int .i64 p]) ∧ Below w.heap.size w w' := by
  have H := hide h
  clear h
  go_enter Try.func14, Try.ntmps14
  go_wp2_with fail
  refine (rCheck_text s _ hs p H.out).mono ?_
  rintro e w1 ⟨rfl, hb⟩
  have Hb := hide hb
  clear hb
  go_wp2_with fail
  go_ret3
  exact ⟨rfl, Hb.out⟩

set_option maxHeartbeats 1000000 in
theorem rArea_meet (s : ByteArray) (w : World) (hs : s.size ≤ 160) (ps : List CP) (h : rdAll s 16 0 [] = .inr (xy ps)) :
    Calls Try.prog 14 #[.string s] w fun e w' => Below w.heap.size w w' ∧
      (firstI (badRow (xy ps)) (xy ps).length ≠ -1 → e = .returned (.tuple #[.int .i64 0, .int .i64 3, .int .i64 (firstI (badRow (xy ps)) (xy ps).length)])) ∧
      (firstI (badRow (xy ps)) (xy ps).length = -1 → e = .returned (.tuple #[.int .i64 (sumI (arE ps) ps.length), .int .i64 0, .int .i64 0])) := by
  have hlen := (rdAll_len s 16 0 [] _ h (by simp)).2
  rw [xy_length] at hlen
  have H := hide h
  clear h
  go_enter Try.func14, Try.ntmps14
  go_wp2_with fail
  refine (rCheck_meet s _ hs _ H.out (fun i => by rw [pAt_xy]; exact bd_P _)).mono ?_
  rintro e w1 ⟨hb, h1, h2⟩
  have Hb := hide hb
  clear hb
  generalize hF : firstI (badRow (xy ps)) (xy ps).length = F at *
  have HFe := hide hF
  clear hF
  by_cases hm : F = -1
  · obtain rfl := h2 hm
    have Hm := hide hm
    clear h1 h2 hm
    go_wp2_with fail
    refine (Read_any s _ hs).mono ?_
    rintro e w2 ⟨v2, v3, rfl, hb2, hr⟩
    rw [H.out] at hr
    obtain ⟨g, cap, rfl, rfl, hg, hrow⟩ := hr
    rw [xy_length]
    have HT := hide (Twice_any ps hlen g cap w2 hg hrow)
    have Hb2 := hide hb2
    clear hb2 hrow
    go_wp2_with fail
    refine HT.out.mono ?_
    rintro e w3 ⟨rfl, hb3⟩
    have Hb3 := hide hb3
    clear hb3
    go_wp2_with fail
    go_ret3
    exact ⟨below_next Hb.out (below_next Hb2.out Hb3.out), fun hn => absurd (HFe.out.trans Hm.out) hn, fun _ => rfl⟩
  · obtain rfl := h1 hm
    have Hm := hide hm
    clear h1 h2 hm
    go_wp2_with fail
    go_ret3
    exact ⟨Hb.out, fun _ => by rw [HFe.out]; rfl, fun hn => absurd (HFe.out.symm.trans hn) Hm.out⟩

set_option maxHeartbeats 1000000 in
theorem areas_walk (s : ByteArray) (hs : s.size ≤ maxLen) (w : World) :
    Calls Try.prog 4 #[.string s] w fun e w' => e = .returned (.bool true) ∧ Below w.heap.size w w' := by
  by_cases h160 : 160 < s.size
  · go_enter Try.func4, Try.ntmps4
    go_wp2_with fail
    refine (Area_long s _ hs h160).mono ?_
    rintro e w1 ⟨rfl, hb1⟩
    have Hb1 := hide hb1
    clear hb1
    go_wp2_with fail
    refine (rArea_long s _ hs h160).mono ?_
    rintro e w2 ⟨rfl, hb2⟩
    have Hb2 := hide hb2
    clear hb2
    go_wp2_with fail
    refine (num_any _ _).mono ?_
    rintro e w3 ⟨rfl, rfl⟩
    go_wp2_with fail
    go_ret
    exact ⟨rfl, below_next Hb1.out Hb2.out⟩
  · cases h : rdAll s 16 0 [] with
    | inl p =>
      have H := hide h
      clear h
      go_enter Try.func4, Try.ntmps4
      go_wp2_with fail
      refine (Area_text s _ (by omega) p H.out).mono ?_
      rintro e w1 ⟨rfl, hb1⟩
      have Hb1 := hide hb1
      clear hb1
      go_wp2_with fail
      refine (rArea_text s _ (by omega) p H.out).mono ?_
      rintro e w2 ⟨rfl, hb2⟩
      have Hb2 := hide hb2
      clear hb2
      go_wp2_with fail
      refine (num_any _ _).mono ?_
      rintro e w3 ⟨rfl, rfl⟩
      go_wp2_with fail
      go_ret
      exact ⟨rfl, below_next Hb1.out Hb2.out⟩
    | inr l =>
      have H := hide h
      clear h
      have hs' : s.size ≤ 160 := by omega
      go_enter Try.func4, Try.ntmps4
      go_wp2_with fail
      refine (Area_meet s _ hs' l H.out).mono ?_
      rintro e w1 ⟨ps, hxy, hb1, h1, h2⟩
      subst hxy
      have h3 : 3 ≤ ps.length := by
        have := rdAll_len s 16 0 [] _ H.out (by simp)
        rw [xy_length] at this
        exact this.1
      have hF := first_eq ps h3
      rw [hF] at h1 h2
      have Hb1 := hide hb1
      clear hb1 hF
      generalize hG : firstI (badRow (xy ps)) (xy ps).length = F at *
      have HG := hide hG
      clear hG
      by_cases hm : F = -1
      · obtain rfl := h2 hm
        have Hm := hide hm
        clear h1 h2 hm
        generalize hS : sumI (arE ps) ps.length = S at *
        have HS := hide hS
        clear hS
        go_wp2_with fail
        refine (rArea_meet s _ hs' ps H.out).mono ?_
        rintro e w2 ⟨hb2, k1, k2⟩
        obtain rfl := k2 (HG.out.trans Hm.out)
        rw [HS.out]
        have Hb2 := hide hb2
        clear hb2 k1 k2
        go_wp2_with fail
        refine (num_any _ _).mono ?_
        rintro e w3 ⟨rfl, rfl⟩
        go_wp2_with fail
        go_ret
        exact ⟨by simp, below_next Hb1.out Hb2.out⟩
      · obtain rfl := h1 hm
        have Hm := hide hm
        clear h1 h2 hm
        go_wp2_with fail
        refine (rArea_meet s _ hs' ps H.out).mono ?_
        rintro e w2 ⟨hb2, k1, k2⟩
        obtain rfl := k1 (by rw [HG.out]; exact Hm.out)
        rw [HG.out]
        have Hb2 := hide hb2
        clear hb2 k1 k2
        go_wp2_with fail
        refine (num_any _ _).mono ?_
        rintro e w3 ⟨rfl, rfl⟩
        go_wp2_with fail
        go_ret
        exact ⟨by simp, below_next Hb1.out Hb2.out⟩

theorem own : ownKnob Try.prog.godebug = none := by kernel_rfl

set_option maxRecDepth 100000 in
theorem areas_lifted (os : Os) (started : os.Started) (H : Type) (enc : TypeId × Value → H) :
    ReturnsInHanded {} Try.checked os 4 .any (Rows.areasSpec.pre6 enc Try.prog Try.f4 Rows.areasRow.domain false) (Rows.areasSpec.post enc Try.prog Try.f4 false true false false) := by
  refine returnsInHanded_of_change (C := Try.checked) own started (by kernel_rfl) Try.func4
    (ChangeSpec.witness6 (enc := enc) (C := Try.checked) false ⟨#[], #[.string ByteArray.empty], []⟩ 8 (by kernel_rfl) (by kernel_rfl) (by kernel_rfl) (by kernel_rfl)) ?_
  intro W base args ds gs before hval0 hW hcnd _
  have hval : ∀ (j : Nat) t v, Try.f4.params[j]? = some t → args[j]? = some v → Value.okWide Try.prog W .any base t v := hval0
  have hW' := hW
  obtain ⟨p, q, hA0, hV, rfl, hfz, hnd⟩ := hW
  have hA : DataW.TrodAll enc Try.prog W 0 (fun _ => true) true Try.f4.params.toList args.toList ds p := hA0
  rw [Try.params4] at hA hval
  obtain ⟨v0, vs0, d0, ds0, p0, q0, hargs, rfl, rfl, h0, r0⟩ := trodAll_cons hA
  obtain ⟨rfl, rfl, rfl⟩ := trodAll_nil r0
  obtain rfl : args = #[v0] := by cases args; simp_all
  obtain ⟨rfl, rfl⟩ := trodVars_none hV
  obtain ⟨a0, rfl, rfl, rfl, w0⟩ := open_string Try.underlying9 (hval 0 9 v0 rfl rfl) h0
  clear hA0 hval0
  simp only [List.append_nil] at hW'
  refine (areas_walk a0 w0 W).mono fun e W' ⟨he, bel⟩ => ?_
  subst he
  exact ⟨_, rfl, _, _, _, [], _, [], hW', trodAll_mk1 (shut_bool Try.underlying4 _), (trodAll_cons_mk (shut_string Try.underlying9 w0) trodAll_mk0), rfl, bel.frame _, fun h => by cases h⟩

theorem areas_over : Rows.areasRow.holds Try.pinned (OpenSpec.ofChange Rows.areasSpec) :=
  OpenClaim.holds_of_wide 4 Try.f4 rfl rfl rfl rfl rfl rfl rfl ⟨rfl, rfl, rfl, rfl, rfl⟩ rfl rfl rfl rfl rfl (by kernel_rfl) Try.func4 (by kernel_rfl)
    (of_decide_eq_true (by kernel_rfl)) (by unfold Func.isWrapper; first | (rw [if_pos (by decide +kernel)]; kernel_rfl) | (rw [if_neg (by decide +kernel)]; exact ⟨rfl, rfl⟩))
    (fun os started H enc _ => areas_lifted os started H enc)

theorem areas_proved : Rows.AreasSaid := areas_over

end Go.Proofs.Ytlicmfhgjonmnaa
