/- The walks of the exact laws of inverses, values, shares that are dealt, valid shares. -/
import Derived.Test.YtgmhodmgbhpdaaaShr3
import Derived.Test.YtgmhodmgbhpdaaaShrX
namespace Go.Proofs.Ytgmhodmgbhpdaaa
open Go.ChangeShapes Go.WideShapes Go.ChangeAt Go.RowKit Go.Joins Go.Sort
set_option linter.unusedVariables false
set_option maxRecDepth 100000 in
set_option maxHeartbeats 4000000 in
theorem walkFnExactInverseOf (w : World) (n0 : Int)  :
    Calls Try.prog 3 #[.int .i64 n0] w fun e w' => e = .returned (.bool true) ∧ Below w.heap.size w w' := by
  go_enter Try.func3, Try.ntmps3
  have hne : ((invR n0 : Int) != invR n0) = false := by simp
  go_wp2_with fail; refine (specInv n0 _).mono ?_; rintro e w' ⟨rfl, rfl⟩
  go_wp2_with fail; refine (implInv n0 _).mono ?_; rintro e w' ⟨rfl, rfl⟩
  have AE := (Ext.refl w)
  go_wp2
  go_ret
  exact ⟨rfl, AE⟩
set_option maxRecDepth 100000 in
set_option maxHeartbeats 4000000 in
theorem walkFnExactPolyAt (w : World) (sa0 : Option Addr) (cap0 : Nat) (l0 : List Int) (n1 : Int) (h0 : Lst w sa0 l0) (m0 : l0.length ≤ maxLen) :
    Calls Try.prog 5 #[.slice sa0 l0.length cap0, .int .i64 n1] w fun e w' => e = .returned (.bool true) ∧ Below w.heap.size w w' := by
  have H0 := hide h0; clear h0
  by_cases hl0 : (l0.length : Int) ≤ 1048576; rotate_left
  · have hg0 : 1048576 < (l0.length : Int) := by omega
    go_enter Try.func5, Try.ntmps5
    go_wp2; go_ret; exact ⟨rfl, Ext.refl w⟩
  have hl0' : l0.length ≤ 2000000 := by omega
  go_enter Try.func5, Try.ntmps5
  have hne : ((paR l0 n1 : Int) != paR l0 n1) = false := by simp
  go_wp2_with fail; refine (toIntS_any sa0 cap0 l0 _ (H0.out.ext (Ext.refl w)) hl0').mono ?_; rintro e w1 ⟨s1, c1, rfl, R1, hb1⟩
  have E1 := Ext.of hb1; clear hb1
  go_wp2_with fail; refine (specPolyAt s1 c1 l0 n1 _ (R1.lst.ext (Ext.refl w1)) hl0').mono ?_; rintro e w' ⟨rfl, rfl⟩
  go_wp2_with fail; refine (toIntS_any sa0 cap0 l0 _ (H0.out.ext E1) hl0').mono ?_; rintro e w2 ⟨s2, c2, rfl, R2, hb2⟩
  have E2 := Ext.of hb2; clear hb2
  go_wp2_with fail; refine (implPolyAt s2 c2 l0 n1 _ (R2.lst.ext (Ext.refl w2)) hl0').mono ?_; rintro e w' ⟨rfl, rfl⟩
  go_wp2_with fail; refine (toIntS_any sa0 cap0 l0 _ (H0.out.ext (E1.trans E2)) hl0').mono ?_; rintro e w3 ⟨s3, c3, rfl, R3, hb3⟩
  have E3 := Ext.of hb3; clear hb3
  go_wp2_with fail; refine (eqIntS_same s2 s3 l0 c2 c3 _ (R2.lst.ext E3) R3.lst hl0').mono ?_; rintro e w4 ⟨rfl, hb4⟩
  have E4 := Ext.of hb4; clear hb4
  have AE := (E1.trans (E2.trans (E3.trans E4)))
  go_wp2
  go_ret
  exact ⟨rfl, AE⟩
set_option maxRecDepth 100000 in
set_option maxHeartbeats 4000000 in
theorem walkFnExactDealShares (w : World) (sa0 : Option Addr) (cap0 : Nat) (l0 : List Int) (sa1 : Option Addr) (cap1 : Nat) (l1 : List Int) (h0 : Lst w sa0 l0) (m0 : l0.length ≤ maxLen) (h1 : Lst w sa1 l1) (m1 : l1.length ≤ maxLen) :
    Calls Try.prog 7 #[.slice sa0 l0.length cap0, .slice sa1 l1.length cap1] w fun e w' => e = .returned (.bool true) ∧ Below w.heap.size w w' := by
  have H0 := hide h0; clear h0
  have H1 := hide h1; clear h1
  by_cases hl0 : (l0.length : Int) ≤ 1048576; rotate_left
  · have hg0 : 1048576 < (l0.length : Int) := by omega
    go_enter Try.func7, Try.ntmps7
    go_wp2; go_ret; exact ⟨rfl, Ext.refl w⟩
  by_cases hl1 : (l1.length : Int) ≤ 1048576; rotate_left
  · have hg1 : 1048576 < (l1.length : Int) := by omega
    go_enter Try.func7, Try.ntmps7
    go_wp2; go_ret; exact ⟨rfl, Ext.refl w⟩
  have hl0' : l0.length ≤ 2000000 := by omega
  have hl1' : l1.length ≤ 2000000 := by omega
  have hVL : (deR l0 l1).length ≤ 2000000 := Nat.le_trans (deR_len l0 l1) (by omega)
  go_enter Try.func7, Try.ntmps7
  go_wp2_with fail; refine (toIntS_any sa0 cap0 l0 _ (H0.out.ext (Ext.refl w)) hl0').mono ?_; rintro e w1 ⟨s1, c1, rfl, R1, hb1⟩
  have E1 := Ext.of hb1; clear hb1
  go_wp2_with fail; refine (toIntS_any sa1 cap1 l1 _ (H1.out.ext E1) hl1').mono ?_; rintro e w2 ⟨s2, c2, rfl, R2, hb2⟩
  have E2 := Ext.of hb2; clear hb2
  go_wp2_with fail; refine (specDeal s1 s2 c1 c2 l0 l1 _ (R1.lst.ext E2) (R2.lst.ext (Ext.refl w2)) hl0' hl1' R2.cap).mono ?_; rintro e w3 ⟨sv, cv, rfl, Q, E3⟩
  go_wp2_with fail; refine (toIntS_any sa0 cap0 l0 _ (H0.out.ext (E1.trans (E2.trans E3))) hl0').mono ?_; rintro e w4 ⟨s4, c4, rfl, R4, hb4⟩
  have E4 := Ext.of hb4; clear hb4
  go_wp2_with fail; refine (toIntS_any sa1 cap1 l1 _ (H1.out.ext (E1.trans (E2.trans (E3.trans E4)))) hl1').mono ?_; rintro e w5 ⟨s5, c5, rfl, R5, hb5⟩
  have E5 := Ext.of hb5; clear hb5
  go_wp2_with fail; refine (implDeal s4 s5 c4 c5 l0 l1 _ (R4.lst.ext E5) (R5.lst.ext (Ext.refl w5)) hl0' hl1').mono ?_; rintro e w6 ⟨sg, cg, rfl, G, E6⟩
  go_wp2_with fail; refine (eqShareS_same sg sv cg cv (deR l0 l1) _ G.sst (Q.sst.ext (E4.trans (E5.trans E6))) (by omega)).mono ?_; rintro e w7 ⟨rfl, E7⟩
  go_wp2_with fail; refine (toIntS_any sa0 cap0 l0 _ (H0.out.ext (E1.trans (E2.trans (E3.trans (E4.trans (E5.trans (E6.trans E7))))))) hl0').mono ?_; rintro e w8 ⟨s8, c8, rfl, R8, hb8⟩
  have E8 := Ext.of hb8; clear hb8
  go_wp2_with fail; refine (eqIntS_same s4 s8 l0 c4 c8 _ (R4.lst.ext (E5.trans (E6.trans (E7.trans E8)))) R8.lst hl0').mono ?_; rintro e w9 ⟨rfl, hb9⟩
  have E9 := Ext.of hb9; clear hb9
  go_wp2_with fail; refine (toIntS_any sa1 cap1 l1 _ (H1.out.ext (E1.trans (E2.trans (E3.trans (E4.trans (E5.trans (E6.trans (E7.trans (E8.trans E9))))))))) hl1').mono ?_; rintro e w10 ⟨s10, c10, rfl, R10, hb10⟩
  have E10 := Ext.of hb10; clear hb10
  go_wp2_with fail; refine (eqIntS_same s5 s10 l1 c5 c10 _ (R5.lst.ext (E6.trans (E7.trans (E8.trans (E9.trans E10))))) R10.lst hl1').mono ?_; rintro e w11 ⟨rfl, hb11⟩
  have E11 := Ext.of hb11; clear hb11
  have hza := ((E1.trans (E2.trans E3))).size
  have hzz3 := (E4).size
  have hzz4 := (E5).size
  have hzz5 := (E6).size
  have hzz6 := (E7).size
  have hzz7 := (E8).size
  have hzz8 := (E9).size
  have hzz9 := (E10).size
  have hzz10 := (E11).size
  have GX := G.ext (E7.trans (E8.trans (E9.trans (E10.trans E11))))
  have RX0 := R4.ext (E5.trans (E6.trans (E7.trans (E8.trans (E9.trans (E10.trans E11))))))
  have RX1 := R5.ext (E6.trans (E7.trans (E8.trans (E9.trans (E10.trans E11)))))
  go_wp2_with fail; refine (markIntS_mid w3.heap.size w4.heap.size s4 c4 l0 _ _ (RX0) (fun g off h => (R4.block_lt h).2) (by omega) (by omega) (by omega)).mono ?_; rintro e w12 ⟨rfl, K12, N12⟩
  have AX12 := N12.ext ((E4.trans (E5.trans (E6.trans (E7.trans (E8.trans (E9.trans (E10.trans E11)))))))) (by omega)
  have GX := RowS.mid N12 GX (by omega)
  have RX1 := N12.row RX1 (by omega)
  go_wp2_with fail; refine (markIntS_mid w4.heap.size w5.heap.size s5 c5 l1 _ _ (RX1) (fun g off h => (R5.block_lt h).2) (by omega) (by omega) (by omega)).mono ?_; rintro e w13 ⟨rfl, K13, N13⟩
  have AX13 := N13.ext (AX12) (by omega)
  have GX := RowS.mid N13 GX (by omega)
  go_wp2_with fail; refine (eqShareS_same sg sv cg cv (deR l0 l1) _ GX.sst (Q.sst.ext AX13) (by omega)).mono ?_; rintro e w14 ⟨rfl, E14⟩
  have GX := GX.ext E14
  go_wp2_with fail; refine (markShareS_mid w5.heap.size w6.heap.size sg cg (deR l0 l1) _ _ (GX) (fun a h => (G.block_lt h).2) (by omega) (by omega) (by omega)).mono ?_; rintro e w15 ⟨rfl, K15, N15⟩
  have AX15 := N15.ext ((AX13.trans E14)) (by omega)
  go_wp2_with fail; refine (heldShareS_any sg cg (deR l0 l1).length 1 _ K15 (by omega) (by omega) (by omega)).mono ?_; rintro e w' ⟨rfl, rfl⟩
  go_wp2_with fail; refine (toIntS_any sa0 cap0 l0 _ (H0.out.ext (E1.trans (E2.trans (E3.trans AX15)))) hl0').mono ?_; rintro e w16 ⟨s16, c16, rfl, R16, hb16⟩
  have E16 := Ext.of hb16; clear hb16
  go_wp2_with fail; refine (toIntS_any sa1 cap1 l1 _ (H1.out.ext (E1.trans (E2.trans (E3.trans (AX15.trans E16))))) hl1').mono ?_; rintro e w17 ⟨s17, c17, rfl, R17, hb17⟩
  have E17 := Ext.of hb17; clear hb17
  go_wp2_with fail; refine (implDeal s16 s17 c16 c17 l0 l1 _ (R16.lst.ext E17) (R17.lst.ext (Ext.refl w17)) hl0' hl1').mono ?_; rintro e w18 ⟨sh, ch, rfl, HH, E18⟩
  go_wp2_with fail; refine (eqShareS_same sh sv ch cv (deR l0 l1) _ HH.sst (Q.sst.ext (AX15.trans (E16.trans (E17.trans E18)))) (by omega)).mono ?_; rintro e w19 ⟨rfl, E19⟩
  go_wp2_with fail; refine (heldShareS_any sg cg (deR l0 l1).length 1 _ (K15.ext (E16.trans (E17.trans (E18.trans E19)))) (by omega) (by omega) (by omega)).mono ?_; rintro e w' ⟨rfl, rfl⟩
  have AE := (E1.trans (E2.trans (E3.trans (AX15.trans (E16.trans (E17.trans (E18.trans E19)))))))
  go_wp2
  go_ret
  exact ⟨rfl, AE⟩
set_option maxRecDepth 100000 in
set_option maxHeartbeats 4000000 in
theorem walkFnExactValidShares (w : World) (sa0 : Option Addr) (cap0 : Nat) (l0 : List Sh) (h0 : Sst w sa0 l0) (m0 : l0.length ≤ maxLen) :
    Calls Try.prog 8 #[.slice sa0 l0.length cap0] w fun e w' => e = .returned (.bool true) ∧ Below w.heap.size w w' := by
  have H0 := hide h0; clear h0
  by_cases hl0 : (l0.length : Int) ≤ 1048576; rotate_left
  · have hz0 := hide (szf_no hl0)
    go_enter Try.func8, Try.ntmps8
    go_wp2_with fail; refine (szShareS_any _ _ _ _ _ m0 (by omega) (by omega)).mono ?_; rintro e w' ⟨rfl, rfl⟩
    rw [hz0.out]; go_wp2; go_ret; exact ⟨rfl, Ext.refl w⟩
  have hz0 := hide (szf_yes hl0)
  have hlf0 : 0 ≤ (1048576 : Int) - (l0.length : Int) := by omega
  have hl0' : l0.length ≤ 2000000 := by omega
  go_enter Try.func8, Try.ntmps8
  go_wp2_with fail; refine (szShareS_any _ _ _ _ _ m0 (by omega) (by omega)).mono ?_; rintro e w' ⟨rfl, rfl⟩
  rw [hz0.out]
  have hne : ((svB l0 : Bool) != svB l0) = false := by simp
  go_wp2_with fail; refine (toShareS_any sa0 cap0 l0 _ (H0.out.ext (Ext.refl w)) hl0').mono ?_; rintro e w1 ⟨s1, c1, rfl, R1, E1⟩
  go_wp2_with fail; refine (specVS s1 c1 _ l0 _ (R1.sst.ext (Ext.refl w1)) rfl hl0').mono ?_; rintro e w2 ⟨rfl, E2⟩
  go_wp2_with fail; refine (toShareS_any sa0 cap0 l0 _ (H0.out.ext (E1.trans E2)) hl0').mono ?_; rintro e w3 ⟨s3, c3, rfl, R3, E3⟩
  go_wp2_with fail; refine (implVS s3 c3 _ l0 _ (R3.sst.ext (Ext.refl w3)) rfl hl0').mono ?_; rintro e w4 ⟨rfl, E4⟩
  go_wp2_with fail; refine (toShareS_any sa0 cap0 l0 _ (H0.out.ext (E1.trans (E2.trans (E3.trans E4)))) hl0').mono ?_; rintro e w5 ⟨s5, c5, rfl, R5, E5⟩
  go_wp2_with fail; refine (eqShareS_same s3 s5 c3 c5 l0 _ (R3.sst.ext (E4.trans E5)) R5.sst hl0').mono ?_; rintro e w6 ⟨rfl, E6⟩
  have AE := (E1.trans (E2.trans (E3.trans (E4.trans (E5.trans E6)))))
  go_wp2
  go_ret
  exact ⟨rfl, AE⟩
end Go.Proofs.Ytgmhodmgbhpdaaa
