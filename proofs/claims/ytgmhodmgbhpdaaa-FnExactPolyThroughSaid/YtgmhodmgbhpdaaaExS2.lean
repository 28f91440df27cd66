/- The walks of the exact laws of polynomials through shares, secrets, shares that fit. -/
import Derived.Test.YtgmhodmgbhpdaaaShr7
import Derived.Test.YtgmhodmgbhpdaaaShrX
namespace Go.Proofs.Ytgmhodmgbhpdaaa
open Go.ChangeShapes Go.WideShapes Go.ChangeAt Go.RowKit Go.Joins Go.Sort
set_option linter.unusedVariables false
set_option maxRecDepth 100000 in
set_option maxHeartbeats 4000000 in
theorem walkFnExactPolyThrough (w : World) (sa0 : Option Addr) (cap0 : Nat) (l0 : List Sh) (h0 : Sst w sa0 l0) (m0 : l0.length ≤ maxLen) :
    Calls Try.prog 10 #[.slice sa0 l0.length cap0] w fun e w' => e = .returned (.bool true) ∧ Below w.heap.size w w' := by
  have H0 := hide h0; clear h0
  by_cases hl0 : (l0.length : Int) ≤ 1048576; rotate_left
  · have hz0 := hide (szf_no hl0)
    go_enter Try.func10, Try.ntmps10
    go_wp2_with fail; refine (szShareS_any _ _ _ _ _ m0 (by omega) (by omega)).mono ?_; rintro e w' ⟨rfl, rfl⟩
    rw [hz0.out]; go_wp2; go_ret; exact ⟨rfl, Ext.refl w⟩
  have hz0 := hide (szf_yes hl0)
  have hlf0 : 0 ≤ (1048576 : Int) - (l0.length : Int) := by omega
  have hl0' : l0.length ≤ 2000000 := by omega
  have hVL : (ptR l0).length ≤ 2000000 := Nat.le_trans (ptR_len l0) (by omega)
  go_enter Try.func10, Try.ntmps10
  go_wp2_with fail; refine (szShareS_any _ _ _ _ _ m0 (by omega) (by omega)).mono ?_; rintro e w' ⟨rfl, rfl⟩
  rw [hz0.out]
  go_wp2_with fail; refine (toShareS_any sa0 cap0 l0 _ (H0.out.ext (Ext.refl w)) hl0').mono ?_; rintro e w1 ⟨s1, c1, rfl, R1, E1⟩
  go_wp2_with fail; refine (specPT s1 c1 _ l0 _ (R1.sst.ext (Ext.refl w1)) rfl hl0').mono ?_; rintro e w2 ⟨sv, cv, rfl, Q, hb2⟩
  have E2 := Ext.of hb2; clear hb2
  go_wp2_with fail; refine (toShareS_any sa0 cap0 l0 _ (H0.out.ext (E1.trans E2)) hl0').mono ?_; rintro e w3 ⟨s3, c3, rfl, R3, E3⟩
  go_wp2_with fail; refine (implPT s3 c3 _ l0 _ (R3.sst.ext (Ext.refl w3)) rfl hl0').mono ?_; rintro e w4 ⟨sg, cg, rfl, G, hb4⟩
  have E4 := Ext.of hb4; clear hb4
  go_wp2_with fail; refine (eqIntS_same sg sv (ptR l0) cg cv _ G.lst (Q.lst.ext (E3.trans E4)) (by omega)).mono ?_; rintro e w5 ⟨rfl, hb5⟩
  have E5 := Ext.of hb5; clear hb5
  go_wp2_with fail; refine (toShareS_any sa0 cap0 l0 _ (H0.out.ext (E1.trans (E2.trans (E3.trans (E4.trans E5))))) hl0').mono ?_; rintro e w6 ⟨s6, c6, rfl, R6, E6⟩
  go_wp2_with fail; refine (eqShareS_same s3 s6 c3 c6 l0 _ (R3.sst.ext (E4.trans (E5.trans E6))) R6.sst hl0').mono ?_; rintro e w7 ⟨rfl, E7⟩
  have hza := ((E1.trans E2)).size
  have hzz2 := (E3).size
  have hzz3 := (E4).size
  have hzz4 := (E5).size
  have hzz5 := (E6).size
  have hzz6 := (E7).size
  have GX := G.ext (E5.trans (E6.trans E7))
  have RX0 := R3.ext (E4.trans (E5.trans (E6.trans E7)))
  go_wp2_with fail; refine (markShareS_mid w2.heap.size w3.heap.size s3 c3 l0 _ _ (RX0) (fun a h => (R3.block_lt h).2) (by omega) (by omega) (by omega)).mono ?_; rintro e w8 ⟨rfl, K8, N8⟩
  have AX8 := N8.ext ((E3.trans (E4.trans (E5.trans (E6.trans E7))))) (by omega)
  have GX := N8.row GX (by omega)
  go_wp2_with fail; refine (eqIntS_same sg sv (ptR l0) cg cv _ GX.lst (Q.lst.ext AX8) (by omega)).mono ?_; rintro e w9 ⟨rfl, hb9⟩
  have E9 := Ext.of hb9; clear hb9
  have GX := GX.ext E9
  go_wp2_with fail; refine (markIntS_mid w3.heap.size w4.heap.size sg cg (ptR l0) _ _ (GX) (fun g off h => (G.block_lt h).2) (by omega) (by omega) (by omega)).mono ?_; rintro e w10 ⟨rfl, K10, N10⟩
  have AX10 := N10.ext ((AX8.trans E9)) (by omega)
  go_wp2_with fail; refine (heldIntS_any sg cg (ptR l0).length 1 _ K10 (by omega) (by omega) (by omega)).mono ?_; rintro e w' ⟨rfl, rfl⟩
  go_wp2_with fail; refine (toShareS_any sa0 cap0 l0 _ (H0.out.ext (E1.trans (E2.trans AX10))) hl0').mono ?_; rintro e w11 ⟨s11, c11, rfl, R11, E11⟩
  go_wp2_with fail; refine (implPT s11 c11 _ l0 _ (R11.sst.ext (Ext.refl w11)) rfl hl0').mono ?_; rintro e w12 ⟨sh, ch, rfl, HH, hb12⟩
  have E12 := Ext.of hb12; clear hb12
  go_wp2_with fail; refine (eqIntS_same sh sv (ptR l0) ch cv _ HH.lst (Q.lst.ext (AX10.trans (E11.trans E12))) (by omega)).mono ?_; rintro e w13 ⟨rfl, hb13⟩
  have E13 := Ext.of hb13; clear hb13
  go_wp2_with fail; refine (heldIntS_any sg cg (ptR l0).length 1 _ (K10.ext (E11.trans (E12.trans E13))) (by omega) (by omega) (by omega)).mono ?_; rintro e w' ⟨rfl, rfl⟩
  have AE := (E1.trans (E2.trans (AX10.trans (E11.trans (E12.trans E13)))))
  go_wp2
  go_ret
  exact ⟨rfl, AE⟩
set_option maxRecDepth 100000 in
set_option maxHeartbeats 4000000 in
theorem walkFnExactOpenSecret (w : World) (sa0 : Option Addr) (cap0 : Nat) (l0 : List Sh) (h0 : Sst w sa0 l0) (m0 : l0.length ≤ maxLen) :
    Calls Try.prog 12 #[.slice sa0 l0.length cap0] w fun e w' => e = .returned (.bool true) ∧ Below w.heap.size w w' := by
  have H0 := hide h0; clear h0
  by_cases hl0 : (l0.length : Int) ≤ 1048576; rotate_left
  · have hz0 := hide (szf_no hl0)
    go_enter Try.func12, Try.ntmps12
    go_wp2_with fail; refine (szShareS_any _ _ _ _ _ m0 (by omega) (by omega)).mono ?_; rintro e w' ⟨rfl, rfl⟩
    rw [hz0.out]; go_wp2; go_ret; exact ⟨rfl, Ext.refl w⟩
  have hz0 := hide (szf_yes hl0)
  have hlf0 : 0 ≤ (1048576 : Int) - (l0.length : Int) := by omega
  have hl0' : l0.length ≤ 2000000 := by omega
  go_enter Try.func12, Try.ntmps12
  go_wp2_with fail; refine (szShareS_any _ _ _ _ _ m0 (by omega) (by omega)).mono ?_; rintro e w' ⟨rfl, rfl⟩
  rw [hz0.out]
  have hne : ((osR l0 : Int) != osR l0) = false := by simp
  go_wp2_with fail; refine (toShareS_any sa0 cap0 l0 _ (H0.out.ext (Ext.refl w)) hl0').mono ?_; rintro e w1 ⟨s1, c1, rfl, R1, E1⟩
  go_wp2_with fail; refine (specOS s1 c1 _ l0 _ (R1.sst.ext (Ext.refl w1)) rfl hl0').mono ?_; rintro e w2 ⟨rfl, E2⟩
  go_wp2_with fail; refine (toShareS_any sa0 cap0 l0 _ (H0.out.ext (E1.trans E2)) hl0').mono ?_; rintro e w3 ⟨s3, c3, rfl, R3, E3⟩
  go_wp2_with fail; refine (implOS s3 c3 _ l0 _ (R3.sst.ext (Ext.refl w3)) rfl hl0').mono ?_; rintro e w4 ⟨rfl, E4⟩
  go_wp2_with fail; refine (toShareS_any sa0 cap0 l0 _ (H0.out.ext (E1.trans (E2.trans (E3.trans E4)))) hl0').mono ?_; rintro e w5 ⟨s5, c5, rfl, R5, E5⟩
  go_wp2_with fail; refine (eqShareS_same s3 s5 c3 c5 l0 _ (R3.sst.ext (E4.trans E5)) R5.sst hl0').mono ?_; rintro e w6 ⟨rfl, E6⟩
  have AE := (E1.trans (E2.trans (E3.trans (E4.trans (E5.trans E6)))))
  go_wp2
  go_ret
  exact ⟨rfl, AE⟩
set_option maxRecDepth 100000 in
set_option maxHeartbeats 4000000 in
theorem walkFnExactFitTogether (w : World) (sa0 : Option Addr) (cap0 : Nat) (l0 : List Sh) (n1 : Int) (h0 : Sst w sa0 l0) (m0 : l0.length ≤ maxLen) :
    Calls Try.prog 14 #[.slice sa0 l0.length cap0, .int .i64 n1] w fun e w' => e = .returned (.bool true) ∧ Below w.heap.size w w' := by
  have H0 := hide h0; clear h0
  by_cases hl0 : (l0.length : Int) ≤ 1048576; rotate_left
  · have hz0 := hide (szf_no hl0)
    go_enter Try.func14, Try.ntmps14
    go_wp2_with fail; refine (szShareS_any _ _ _ _ _ m0 (by omega) (by omega)).mono ?_; rintro e w' ⟨rfl, rfl⟩
    rw [hz0.out]; go_wp2; go_ret; exact ⟨rfl, Ext.refl w⟩
  have hz0 := hide (szf_yes hl0)
  have hlf0 : 0 ≤ (1048576 : Int) - (l0.length : Int) := by omega
  have hl0' : l0.length ≤ 2000000 := by omega
  go_enter Try.func14, Try.ntmps14
  go_wp2_with fail; refine (szShareS_any _ _ _ _ _ m0 (by omega) (by omega)).mono ?_; rintro e w' ⟨rfl, rfl⟩
  rw [hz0.out]
  have hne : ((ftR l0 n1 : Bool) != ftR l0 n1) = false := by simp
  go_wp2_with fail; refine (toShareS_any sa0 cap0 l0 _ (H0.out.ext (Ext.refl w)) hl0').mono ?_; rintro e w1 ⟨s1, c1, rfl, R1, E1⟩
  go_wp2_with fail; refine (specFT s1 c1 _ l0 n1 _ (R1.sst.ext (Ext.refl w1)) rfl hl0' R1.cap).mono ?_; rintro e w2 ⟨rfl, E2⟩
  go_wp2_with fail; refine (toShareS_any sa0 cap0 l0 _ (H0.out.ext (E1.trans E2)) hl0').mono ?_; rintro e w3 ⟨s3, c3, rfl, R3, E3⟩
  go_wp2_with fail; refine (implFT s3 c3 _ l0 n1 _ (R3.sst.ext (Ext.refl w3)) rfl hl0' R3.cap).mono ?_; rintro e w4 ⟨rfl, E4⟩
  go_wp2_with fail; refine (toShareS_any sa0 cap0 l0 _ (H0.out.ext (E1.trans (E2.trans (E3.trans E4)))) hl0').mono ?_; rintro e w5 ⟨s5, c5, rfl, R5, E5⟩
  go_wp2_with fail; refine (eqShareS_same s3 s5 c3 c5 l0 _ (R3.sst.ext (E4.trans E5)) R5.sst hl0').mono ?_; rintro e w6 ⟨rfl, E6⟩
  have AE := (E1.trans (E2.trans (E3.trans (E4.trans (E5.trans E6)))))
  go_wp2
  go_ret
  exact ⟨rfl, AE⟩
end Go.Proofs.Ytgmhodmgbhpdaaa
