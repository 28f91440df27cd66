/- The walks of the exact laws of a wrong share, of shares that are added, of a polynomial with a secret. -/
import Derived.Test.YtgmhodmgbhpdaabShr8
import Derived.Test.YtgmhodmgbhpdaabShr9
import Derived.Test.YtgmhodmgbhpdaabShr11
import Derived.Test.YtgmhodmgbhpdaabShrX
namespace Go.Proofs.Ytgmhodmgbhpdaab
open Go.ChangeShapes Go.WideShapes Go.ChangeAt Go.RowKit Go.Joins Go.Sort
set_option linter.unusedVariables false
set_option maxRecDepth 100000 in
set_option maxHeartbeats 4000000 in
theorem walkFnExactWrongShare (w : World) (sa0 : Option Addr) (cap0 : Nat) (l0 : List Sh) (n1 : Int) (h0 : Sst w sa0 l0) (m0 : l0.length ≤ maxLen) :
    Calls Try.prog 4 #[.slice sa0 l0.length cap0, .int .i64 n1] w fun e w' => e = .returned (.bool true) ∧ Below w.heap.size w w' := by
  have H0 := hide h0; clear h0
  by_cases hl0 : (l0.length : Int) ≤ 1048576; rotate_left
  · have hz0 := hide (szf_no hl0)
    go_enter Try.func4, Try.ntmps4
    go_wp2_with fail; refine (szShareS_any _ _ _ _ _ m0 (by omega) (by omega)).mono ?_; rintro e w' ⟨rfl, rfl⟩
    rw [hz0.out]; go_wp2; go_ret; exact ⟨rfl, Ext.refl w⟩
  have hz0 := hide (szf_yes hl0)
  have hlf0 : 0 ≤ (1048576 : Int) - (l0.length : Int) := by omega
  have hl0' : l0.length ≤ 2000000 := by omega
  go_enter Try.func4, Try.ntmps4
  go_wp2_with fail; refine (szShareS_any _ _ _ _ _ m0 (by omega) (by omega)).mono ?_; rintro e w' ⟨rfl, rfl⟩
  rw [hz0.out]
  have hne : ((wsR l0 n1 : Int) != wsR l0 n1) = false := by simp
  go_wp2_with fail; refine (toShareS_any sa0 cap0 l0 _ (H0.out.ext (Ext.refl w)) hl0').mono ?_; rintro e w1 ⟨s1, c1, rfl, R1, E1⟩
  go_wp2_with fail; refine (specWS s1 c1 _ l0 n1 _ (R1.sst.ext (Ext.refl w1)) rfl hl0' R1.cap).mono ?_; rintro e w2 ⟨rfl, E2⟩
  go_wp2_with fail; refine (toShareS_any sa0 cap0 l0 _ (H0.out.ext (E1.trans E2)) hl0').mono ?_; rintro e w3 ⟨s3, c3, rfl, R3, E3⟩
  go_wp2_with fail; refine (implWS s3 c3 _ l0 n1 _ (R3.sst.ext (Ext.refl w3)) rfl hl0' R3.cap).mono ?_; rintro e w4 ⟨rfl, E4⟩
  go_wp2_with fail; refine (toShareS_any sa0 cap0 l0 _ (H0.out.ext (E1.trans (E2.trans (E3.trans E4)))) hl0').mono ?_; rintro e w5 ⟨s5, c5, rfl, R5, E5⟩
  go_wp2_with fail; refine (eqShareS_same s3 s5 c3 c5 l0 _ (R3.sst.ext (E4.trans E5)) R5.sst hl0').mono ?_; rintro e w6 ⟨rfl, E6⟩
  have AE := (E1.trans (E2.trans (E3.trans (E4.trans (E5.trans E6)))))
  go_wp2
  go_ret
  exact ⟨rfl, AE⟩
set_option maxRecDepth 100000 in
set_option maxHeartbeats 4000000 in
theorem walkFnExactAddShares (w : World) (sa0 : Option Addr) (cap0 : Nat) (l0 : List Sh) (sa1 : Option Addr) (cap1 : Nat) (l1 : List Sh) (h0 : Sst w sa0 l0) (m0 : l0.length ≤ maxLen) (h1 : Sst w sa1 l1) (m1 : l1.length ≤ maxLen) :
    Calls Try.prog 7 #[.slice sa0 l0.length cap0, .slice sa1 l1.length cap1] w fun e w' => e = .returned (.bool true) ∧ Below w.heap.size w w' := by
  have H0 := hide h0; clear h0
  have H1 := hide h1; clear h1
  by_cases hl0 : (l0.length : Int) ≤ 1048576; rotate_left
  · have hz0 := hide (szf_no hl0)
    go_enter Try.func7, Try.ntmps7
    go_wp2_with fail; refine (szShareS_any _ _ _ _ _ m0 (by omega) (by omega)).mono ?_; rintro e w' ⟨rfl, rfl⟩
    rw [hz0.out]; go_wp2; go_ret; exact ⟨rfl, Ext.refl w⟩
  have hz0 := hide (szf_yes hl0)
  have hlf0 : 0 ≤ (1048576 : Int) - (l0.length : Int) := by omega
  by_cases hl1 : (l1.length : Int) ≤ (1048576 : Int) - (l0.length : Int); rotate_left
  · have hz1 := hide (szf_no hl1)
    go_enter Try.func7, Try.ntmps7
    go_wp2_with fail; refine (szShareS_any _ _ _ _ _ m0 (by omega) (by omega)).mono ?_; rintro e w' ⟨rfl, rfl⟩
    rw [hz0.out]
    go_wp2_with fail; refine (szShareS_any _ _ _ _ _ m1 (by omega) (by omega)).mono ?_; rintro e w' ⟨rfl, rfl⟩
    rw [hz1.out]; go_wp2; go_ret; exact ⟨rfl, Ext.refl w⟩
  have hz1 := hide (szf_yes hl1)
  have hlf1 : 0 ≤ ((1048576 : Int) - (l0.length : Int) : Int) - (l1.length : Int) := by omega
  have hl0' : l0.length ≤ 2000000 := by omega
  have hl1' : l1.length ≤ 2000000 := by omega
  have hVL : (asR l0 l1).length ≤ 2000000 := Nat.le_trans (asR_len l0 l1) (by omega)
  go_enter Try.func7, Try.ntmps7
  go_wp2_with fail; refine (szShareS_any _ _ _ _ _ m0 (by omega) (by omega)).mono ?_; rintro e w' ⟨rfl, rfl⟩
  rw [hz0.out]
  go_wp2_with fail; refine (szShareS_any _ _ _ _ _ m1 (by omega) (by omega)).mono ?_; rintro e w' ⟨rfl, rfl⟩
  rw [hz1.out]
  go_wp2_with fail; refine (toShareS_any sa0 cap0 l0 _ (H0.out.ext (Ext.refl w)) hl0').mono ?_; rintro e w1 ⟨s1, c1, rfl, R1, E1⟩
  go_wp2_with fail; refine (toShareS_any sa1 cap1 l1 _ (H1.out.ext E1) hl1').mono ?_; rintro e w2 ⟨s2, c2, rfl, R2, E2⟩
  go_wp2_with fail; refine (specAdd s1 s2 c1 c2 _ _ l0 l1 _ (R1.sst.ext E2) (R2.sst.ext (Ext.refl w2)) rfl rfl hl0' hl1').mono ?_; rintro e w3 ⟨sv, cv, rfl, Q, E3⟩
  go_wp2_with fail; refine (toShareS_any sa0 cap0 l0 _ (H0.out.ext (E1.trans (E2.trans E3))) hl0').mono ?_; rintro e w4 ⟨s4, c4, rfl, R4, E4⟩
  go_wp2_with fail; refine (toShareS_any sa1 cap1 l1 _ (H1.out.ext (E1.trans (E2.trans (E3.trans E4)))) hl1').mono ?_; rintro e w5 ⟨s5, c5, rfl, R5, E5⟩
  go_wp2_with fail; refine (implAdd s4 s5 c4 c5 _ _ l0 l1 _ (R4.sst.ext E5) (R5.sst.ext (Ext.refl w5)) rfl rfl hl0' hl1').mono ?_; rintro e w6 ⟨sg, cg, rfl, G, E6⟩
  go_wp2_with fail; refine (eqShareS_same sg sv cg cv (asR l0 l1) _ G.sst (Q.sst.ext (E4.trans (E5.trans E6))) (by omega)).mono ?_; rintro e w7 ⟨rfl, E7⟩
  go_wp2_with fail; refine (toShareS_any sa0 cap0 l0 _ (H0.out.ext (E1.trans (E2.trans (E3.trans (E4.trans (E5.trans (E6.trans E7))))))) hl0').mono ?_; rintro e w8 ⟨s8, c8, rfl, R8, E8⟩
  go_wp2_with fail; refine (eqShareS_same s4 s8 c4 c8 l0 _ (R4.sst.ext (E5.trans (E6.trans (E7.trans E8)))) R8.sst hl0').mono ?_; rintro e w9 ⟨rfl, E9⟩
  go_wp2_with fail; refine (toShareS_any sa1 cap1 l1 _ (H1.out.ext (E1.trans (E2.trans (E3.trans (E4.trans (E5.trans (E6.trans (E7.trans (E8.trans E9))))))))) hl1').mono ?_; rintro e w10 ⟨s10, c10, rfl, R10, E10⟩
  go_wp2_with fail; refine (eqShareS_same s5 s10 c5 c10 l1 _ (R5.sst.ext (E6.trans (E7.trans (E8.trans (E9.trans E10))))) R10.sst hl1').mono ?_; rintro e w11 ⟨rfl, E11⟩
  have hza := ((E1.trans (E2.trans E3))).size
  have hzz3 := (E4).size
  have hzz4 := (E5).size
  have hzz5 := (E6).size
  have hzz6 := (E7).size
  have hzz7 := (E8).size
  have hzz8 := (E9).size
  have hzz9 := (E10).size
  have hzz10 := (E11).size
  have GX := G.ext (E7.trans (E8.trans (E9.trans (E10.trans E11))))
  have RX0 := R4.ext (E5.trans (E6.trans (E7.trans (E8.trans (E9.trans (E10.trans E11))))))
  have RX1 := R5.ext (E6.trans (E7.trans (E8.trans (E9.trans (E10.trans E11)))))
  go_wp2_with fail; refine (markShareS_mid w3.heap.size w4.heap.size s4 c4 l0 _ _ (RX0) (fun a h => (R4.block_lt h).2) (by omega) (by omega) (by omega)).mono ?_; rintro e w12 ⟨rfl, K12, N12⟩
  have AX12 := N12.ext ((E4.trans (E5.trans (E6.trans (E7.trans (E8.trans (E9.trans (E10.trans E11)))))))) (by omega)
  have GX := RowS.mid N12 GX (by omega)
  have RX1 := RowS.mid N12 RX1 (by omega)
  go_wp2_with fail; refine (markShareS_mid w4.heap.size w5.heap.size s5 c5 l1 _ _ (RX1) (fun a h => (R5.block_lt h).2) (by omega) (by omega) (by omega)).mono ?_; rintro e w13 ⟨rfl, K13, N13⟩
  have AX13 := N13.ext (AX12) (by omega)
  have GX := RowS.mid N13 GX (by omega)
  go_wp2_with fail; refine (eqShareS_same sg sv cg cv (asR l0 l1) _ GX.sst (Q.sst.ext AX13) (by omega)).mono ?_; rintro e w14 ⟨rfl, E14⟩
  have GX := GX.ext E14
  go_wp2_with fail; refine (markShareS_mid w5.heap.size w6.heap.size sg cg (asR l0 l1) _ _ (GX) (fun a h => (G.block_lt h).2) (by omega) (by omega) (by omega)).mono ?_; rintro e w15 ⟨rfl, K15, N15⟩
  have AX15 := N15.ext ((AX13.trans E14)) (by omega)
  go_wp2_with fail; refine (heldShareS_any sg cg (asR l0 l1).length 1 _ K15 (by omega) (by omega) (by omega)).mono ?_; rintro e w' ⟨rfl, rfl⟩
  go_wp2_with fail; refine (toShareS_any sa0 cap0 l0 _ (H0.out.ext (E1.trans (E2.trans (E3.trans AX15)))) hl0').mono ?_; rintro e w16 ⟨s16, c16, rfl, R16, E16⟩
  go_wp2_with fail; refine (toShareS_any sa1 cap1 l1 _ (H1.out.ext (E1.trans (E2.trans (E3.trans (AX15.trans E16))))) hl1').mono ?_; rintro e w17 ⟨s17, c17, rfl, R17, E17⟩
  go_wp2_with fail; refine (implAdd s16 s17 c16 c17 _ _ l0 l1 _ (R16.sst.ext E17) (R17.sst.ext (Ext.refl w17)) rfl rfl hl0' hl1').mono ?_; rintro e w18 ⟨sh, ch, rfl, HH, E18⟩
  go_wp2_with fail; refine (eqShareS_same sh sv ch cv (asR l0 l1) _ HH.sst (Q.sst.ext (AX15.trans (E16.trans (E17.trans E18)))) (by omega)).mono ?_; rintro e w19 ⟨rfl, E19⟩
  go_wp2_with fail; refine (heldShareS_any sg cg (asR l0 l1).length 1 _ (K15.ext (E16.trans (E17.trans (E18.trans E19)))) (by omega) (by omega) (by omega)).mono ?_; rintro e w' ⟨rfl, rfl⟩
  have AE := (E1.trans (E2.trans (E3.trans (AX15.trans (E16.trans (E17.trans (E18.trans E19)))))))
  go_wp2
  go_ret
  exact ⟨rfl, AE⟩
set_option maxRecDepth 100000 in
set_option maxHeartbeats 4000000 in
theorem walkFnExactPolyWith (w : World) (sa0 : Option Addr) (cap0 : Nat) (l0 : List Sh) (n1 : Int) (h0 : Sst w sa0 l0) (m0 : l0.length ≤ maxLen) :
    Calls Try.prog 11 #[.slice sa0 l0.length cap0, .int .i64 n1] w fun e w' => e = .returned (.bool true) ∧ Below w.heap.size w w' := by
  have H0 := hide h0; clear h0
  by_cases hl0 : (l0.length : Int) ≤ 1048576; rotate_left
  · have hz0 := hide (szf_no hl0)
    go_enter Try.func11, Try.ntmps11
    go_wp2_with fail; refine (szShareS_any _ _ _ _ _ m0 (by omega) (by omega)).mono ?_; rintro e w' ⟨rfl, rfl⟩
    rw [hz0.out]; go_wp2; go_ret; exact ⟨rfl, Ext.refl w⟩
  have hz0 := hide (szf_yes hl0)
  have hlf0 : 0 ≤ (1048576 : Int) - (l0.length : Int) := by omega
  have hl0' : l0.length ≤ 2000000 := by omega
  have hVL : (pwR l0 n1).length ≤ 2000000 := Nat.le_trans (pwR_len l0 n1) (by omega)
  go_enter Try.func11, Try.ntmps11
  go_wp2_with fail; refine (szShareS_any _ _ _ _ _ m0 (by omega) (by omega)).mono ?_; rintro e w' ⟨rfl, rfl⟩
  rw [hz0.out]
  go_wp2_with fail; refine (toShareS_any sa0 cap0 l0 _ (H0.out.ext (Ext.refl w)) hl0').mono ?_; rintro e w1 ⟨s1, c1, rfl, R1, E1⟩
  go_wp2_with fail; refine (specPW s1 c1 _ l0 n1 _ (R1.sst.ext (Ext.refl w1)) rfl hl0').mono ?_; rintro e w2 ⟨sv, cv, rfl, Q, hb2⟩
  have E2 := Ext.of hb2; clear hb2
  go_wp2_with fail; refine (toShareS_any sa0 cap0 l0 _ (H0.out.ext (E1.trans E2)) hl0').mono ?_; rintro e w3 ⟨s3, c3, rfl, R3, E3⟩
  go_wp2_with fail; refine (implPW s3 c3 _ l0 n1 _ (R3.sst.ext (Ext.refl w3)) rfl hl0').mono ?_; rintro e w4 ⟨sg, cg, rfl, G, hb4⟩
  have E4 := Ext.of hb4; clear hb4
  go_wp2_with fail; refine (eqIntS_same sg sv (pwR l0 n1) cg cv _ G.lst (Q.lst.ext (E3.trans E4)) (by omega)).mono ?_; rintro e w5 ⟨rfl, hb5⟩
  have E5 := Ext.of hb5; clear hb5
  go_wp2_with fail; refine (toShareS_any sa0 cap0 l0 _ (H0.out.ext (E1.trans (E2.trans (E3.trans (E4.trans E5))))) hl0').mono ?_; rintro e w6 ⟨s6, c6, rfl, R6, E6⟩
  go_wp2_with fail; refine (eqShareS_same s3 s6 c3 c6 l0 _ (R3.sst.ext (E4.trans (E5.trans E6))) R6.sst hl0').mono ?_; rintro e w7 ⟨rfl, E7⟩
  have hza := ((E1.trans E2)).size
  have hzz2 := (E3).size
  have hzz3 := (E4).size
  have hzz4 := (E5).size
  have hzz5 := (E6).size
  have hzz6 := (E7).size
  have GX := G.ext (E5.trans (E6.trans E7))
  have RX0 := R3.ext (E4.trans (E5.trans (E6.trans E7)))
  go_wp2_with fail; refine (markShareS_mid w2.heap.size w3.heap.size s3 c3 l0 _ _ (RX0) (fun a h => (R3.block_lt h).2) (by omega) (by omega) (by omega)).mono ?_; rintro e w8 ⟨rfl, K8, N8⟩
  have AX8 := N8.ext ((E3.trans (E4.trans (E5.trans (E6.trans E7))))) (by omega)
  have GX := N8.row GX (by omega)
  go_wp2_with fail; refine (eqIntS_same sg sv (pwR l0 n1) cg cv _ GX.lst (Q.lst.ext AX8) (by omega)).mono ?_; rintro e w9 ⟨rfl, hb9⟩
  have E9 := Ext.of hb9; clear hb9
  have GX := GX.ext E9
  go_wp2_with fail; refine (markIntS_mid w3.heap.size w4.heap.size sg cg (pwR l0 n1) _ _ (GX) (fun g off h => (G.block_lt h).2) (by omega) (by omega) (by omega)).mono ?_; rintro e w10 ⟨rfl, K10, N10⟩
  have AX10 := N10.ext ((AX8.trans E9)) (by omega)
  go_wp2_with fail; refine (heldIntS_any sg cg (pwR l0 n1).length 1 _ K10 (by omega) (by omega) (by omega)).mono ?_; rintro e w' ⟨rfl, rfl⟩
  go_wp2_with fail; refine (toShareS_any sa0 cap0 l0 _ (H0.out.ext (E1.trans (E2.trans AX10))) hl0').mono ?_; rintro e w11 ⟨s11, c11, rfl, R11, E11⟩
  go_wp2_with fail; refine (implPW s11 c11 _ l0 n1 _ (R11.sst.ext (Ext.refl w11)) rfl hl0').mono ?_; rintro e w12 ⟨sh, ch, rfl, HH, hb12⟩
  have E12 := Ext.of hb12; clear hb12
  go_wp2_with fail; refine (eqIntS_same sh sv (pwR l0 n1) ch cv _ HH.lst (Q.lst.ext (AX10.trans (E11.trans E12))) (by omega)).mono ?_; rintro e w13 ⟨rfl, hb13⟩
  have E13 := Ext.of hb13; clear hb13
  go_wp2_with fail; refine (heldIntS_any sg cg (pwR l0 n1).length 1 _ (K10.ext (E11.trans (E12.trans E13))) (by omega) (by omega) (by omega)).mono ?_; rintro e w' ⟨rfl, rfl⟩
  have AE := (E1.trans (E2.trans (AX10.trans (E11.trans (E12.trans E13)))))
  go_wp2
  go_ret
  exact ⟨rfl, AE⟩
end Go.Proofs.Ytgmhodmgbhpdaab
