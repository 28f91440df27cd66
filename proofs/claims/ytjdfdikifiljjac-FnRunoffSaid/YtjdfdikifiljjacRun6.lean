/- Chapter 2: the runoff: the document's answer, and the walk of its exact law. -/
import Derived.Test.YtjdfdikifiljjacRun5
namespace Go.Proofs.Ytjdfdikifiljjac
open Go.ChangeShapes Go.WideShapes Go.ChangeAt Go.RowKit Go.Joins Go.Sort
set_option linter.unusedVariables false

set_option maxHeartbeats 1000000 in
theorem specRunoff (sa : Option Addr) (cap : Nat) (rk : List (List Int)) (w : World) (h : Mst w sa rk) (hl : rk.length ≤ 2000000) (hr : ∀ i, i < rk.length → (rk.getD i []).length ≤ 2000000) :
    Calls Try.prog 32 #[.slice sa rk.length cap] w (Ret (.int .i64 (roR rk)) w) := by
  have H := hide h; clear h
  have HR := hide hr; clear hr
  by_cases hv : vr rk = true
  · have HF := hide (ro_yes hv)
    go_enter Try.func32, Try.ntmps32
    go_wp2_with fail; refine (Ret.eqB (specvR _ _ _ _ H.out hl HR.out) hv).mono ?_; rintro e w1 ⟨rfl, E1⟩
    go_wp2_with fail; refine (specRo _ _ _ rk _ (H.out.ext E1) rfl HR.out hv).mono ?_; rintro e w2 ⟨rfl, E2⟩
    go_wp2
    go_ret
    exact Ret.int HF.out.symm (E1.trans E2)
  · rw [Bool.not_eq_true] at hv
    have HF := hide (ro_no hv)
    go_enter Try.func32, Try.ntmps32
    go_wp2_with fail; refine (Ret.eqB (specvR _ _ _ _ H.out hl HR.out) hv).mono ?_; rintro e w1 ⟨rfl, E1⟩
    go_wp2
    go_ret
    exact Ret.int HF.out.symm E1
set_option maxRecDepth 100000 in
set_option maxHeartbeats 2000000 in
theorem walkFnExactRunoff (w : World) (sa0 : Option Addr) (cap0 : Nat) (l0 : List (List Int)) (h0 : Mst w sa0 l0) (m0 : l0.length ≤ maxLen) (mr0 : ∀ i, i < l0.length → (l0.getD i []).length ≤ maxLen) :
    Calls Try.prog 7 #[.slice sa0 l0.length cap0] w fun e w' => e = .returned (.bool true) ∧ Below w.heap.size w w' := by
  have H0 := hide h0; clear h0
  have HM := hide mr0; clear mr0
  by_cases hsz : (l0.length : Int) + (offs l0 l0.length : Int) ≤ 1048576; rotate_left
  · have hz := hide (szM_no hsz)
    go_enter Try.func7, Try.ntmps7
    go_wp2_with fail; refine (szIntSS_any _ _ _ _ _ H0.out m0 HM.out (by omega) (by omega)).mono ?_; rintro e w' ⟨rfl, rfl⟩
    rw [hz.out]; go_wp2; go_ret; exact ⟨rfl, Ext.refl w⟩
  have hz := hide (szM_yes hsz)
  have hz0 : 0 ≤ (1048576 : Int) - (l0.length : Int) - (offs l0 l0.length : Int) := by omega
  have hl : l0.length ≤ 2000000 := by omega
  have HO := hide (show ∀ i, i ≤ l0.length → offs l0 i ≤ 1100000 from fun i hi => by have := offs_le l0 hi; omega)
  have HR := hide (show ∀ i, i < l0.length → (l0.getD i []).length ≤ 2000000 from fun i hi => by
    have h1 := HO.out (i + 1) hi
    have h2 : offs l0 (i + 1) = offs l0 i + (l0.getD i []).length := rfl
    omega)
  go_enter Try.func7, Try.ntmps7
  go_wp2_with fail; refine (szIntSS_any _ _ _ _ _ H0.out m0 HM.out (by omega) (by omega)).mono ?_; rintro e w' ⟨rfl, rfl⟩
  rw [hz.out]
  have hne : ((roR l0 : Int) != roR l0) = false := by simp
  go_wp2_with fail; refine (toIntSS_any _ _ l0 _ H0.out hl HR.out).mono ?_; rintro e w2 ⟨s2, c2, hs2, rfl, M2, E2⟩
  go_wp2_with fail; refine (specRunoff _ _ l0  _ M2.mst hl HR.out).mono ?_; rintro e w3 ⟨rfl, E3⟩
  have A3 := E2.trans E3; clear E2 E3
  go_wp2_with fail; refine (toIntSS_any _ _ l0 _ (H0.out.ext A3) hl HR.out).mono ?_; rintro e w4 ⟨s4, c4, hs4, rfl, M4, E4⟩
  have A4 := A3.trans E4
  go_wp2_with fail; refine (implRunoff _ _ l0  _ M4.mst hl HR.out).mono ?_; rintro e wi ⟨rfl, Ei⟩
  have Ai := A4.trans Ei
  go_wp2_with fail; refine (toIntSS_any _ _ l0 _ (H0.out.ext Ai) hl HR.out).mono ?_; rintro e w5 ⟨s5, c5, hs5, rfl, M5, E5⟩
  go_wp2_with fail; refine (eqIntSS_same _ _ _ _ l0 _ (M4.mst.ext (Ei.trans E5)) M5.mst hl HR.out).mono ?_; rintro e w6 ⟨rfl, E6⟩
  have A6 := (Ai.trans E5).trans E6
  go_wp2
  go_ret
  exact ⟨rfl, A6⟩
end Go.Proofs.Ytjdfdikifiljjac
